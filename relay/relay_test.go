package relay_test

import (
	"math"
	"reflect"
	"slices"
	"strings"
	"testing"

	"shibboleth/agree"
	"shibboleth/api"
	"shibboleth/conf"
	"shibboleth/fault"
	"shibboleth/relay"
	"shibboleth/world"
)

const (
	host = 5
	user = 8 // the principal whose key the default client has
)

// pair returns a client and a server after a change.
func pair(changes ...func(c, s *api.Conf)) (api.Conf, api.Conf) {
	c, s := conf.Plain(false, host), conf.Plain(true, host)
	for _, change := range changes {
		change(&c, &s)
	}
	return c, s
}

func newRelay(t *testing.T, changes ...func(c, s *api.Conf)) *relay.Relay {
	t.Helper()
	x, err := relay.New(pair(changes...))
	if err != nil {
		t.Fatalf("New: %v", err)
	}
	return x
}

// wantError checks what New and Expect say of two configurations.
func wantError(t *testing.T, client, server api.Conf, want string, e api.Errno) {
	t.Helper()
	x, err := relay.New(client, server)
	if x != nil || err == nil || err.Error() != want || fault.Code(err) != e {
		t.Errorf("New: %v, %v, not %s", x, err, want)
	}
	o, err := relay.Expect(client, server)
	if o != (api.Outcome{}) || err == nil || err.Error() != want || fault.Code(err) != e {
		t.Errorf("Expect: %v, %v, not %s", o, err, want)
	}
}

// 34.1: configurations that are wrong, the client's first, and then the wrong roles.
func TestErrors(t *testing.T) {
	client, server := pair()
	noClient, noServer := conf.Plain(false, 16), conf.Plain(true, -1)
	wantError(t, noClient, server, "relay: conf: peer: range", api.ErrRange)
	wantError(t, client, noServer, "relay: conf: own: range", api.ErrRange)
	wantError(t, noClient, noServer, "relay: conf: peer: range", api.ErrRange)
	wantError(t, server, server, "relay: arg", api.ErrArg)
	wantError(t, client, client, "relay: arg", api.ErrArg)
	wantError(t, server, client, "relay: arg", api.ErrArg)
	wantError(t, noServer, server, "relay: conf: own: range", api.ErrRange)
	wantError(t, server, noServer, "relay: conf: own: range", api.ErrRange)
	wantError(t, client, noClient, "relay: conf: peer: range", api.ErrRange)
	wantError(t, noServer, noClient, "relay: conf: own: range", api.ErrRange)
	wantError(t, noClient, noClient, "relay: conf: peer: range", api.ErrRange)
	wantError(t, api.Conf{}, api.Conf{}, "relay: conf: version: arg", api.ErrArg)
	wantError(t, client, api.Conf{}, "relay: conf: version: arg", api.ErrArg)
	for what, x := range map[string]struct {
		change func(c, s *api.Conf)
		e      api.Errno
	}{
		"conf: user: form":          {func(c, s *api.Conf) { c.User = "" }, api.ErrForm},
		"conf: keys: long":          {func(c, s *api.Conf) { c.Keys = make([]int, 9) }, api.ErrLong},
		"conf: keys: range":         {func(c, s *api.Conf) { c.Keys = []int{8, -1} }, api.ErrRange},
		"conf: wish: range":         {func(c, s *api.Conf) { c.Wish[0] = 1 }, api.ErrRange},
		"conf: deny: algs: none":    {func(c, s *api.Conf) { c.Algs, s.Limit = nil, 0 }, api.ErrNone},
		"conf: deny: limit: range":  {func(c, s *api.Conf) { s.Limit = 21 }, api.ErrRange},
		"conf: prefs: kex: alg":     {func(c, s *api.Conf) { s.Prefs.Kex = []string{"x"} }, api.ErrAlg},
		"conf: prefs: comp-s: none": {func(c, s *api.Conf) { c.Prefs.CompS, s.Own = nil, 99 }, api.ErrNone},
	} {
		c, s := pair(x.change)
		wantError(t, c, s, "relay: "+what, x.e)
	}
}

// 34.1: a relay that there is none of, and the zero one.
func TestNil(t *testing.T) {
	for name, x := range map[string]*relay.Relay{"nil": nil, "zero": {}} {
		for _, server := range []bool{false, true} {
			if x.Rekey(server) || x.Say(server, "x") || !reflect.DeepEqual(x.Look(server), api.Look{}) {
				t.Errorf("%s: something is done, or told", name)
			}
		}
		for _, cuts := range [][]int{nil, {}, {0, 3}} {
			if x.Pass(cuts) || x.Drain(cuts) != 0 {
				t.Errorf("%s: something is passed", name)
			}
		}
		if x.Outcome() != (api.Outcome{}) || len(x.Events()) != 0 {
			t.Errorf("%s: %v, %v", name, x.Outcome(), x.Events())
		}
	}
}

// A literal is a relay as the document has it: a world, and steps.
type literal struct {
	w      *world.World
	passed int
}

func newLiteral(t *testing.T, client, server api.Conf) *literal {
	t.Helper()
	x := &literal{w: world.New()}
	if x.w.Run([]api.Step{{Conf: server}, {Conf: client}}) != 2 {
		t.Fatalf("a step is ill-formed")
	}
	return x
}

// act performs a step, and reports whether anything was sent.
func (x *literal) act(s api.Step) bool {
	n := len(x.w.Sent())
	x.w.Do(s)
	return len(x.w.Sent()) > n
}

// pass passes the next unit.
func (x *literal) pass(cuts []int) bool {
	if x.passed == len(x.w.Sent()) {
		return false
	}
	x.w.Do(api.Step{Kind: api.StPass, Who: x.passed, To: 1 - x.w.Sent()[x.passed].Session, Cuts: cuts})
	x.passed++
	return true
}

func number(server bool) int {
	if server {
		return 0
	}
	return 1
}

// wantSame checks that a relay tells the same as the literal one.
func wantSame(t *testing.T, what string, x *relay.Relay, y *literal) {
	t.Helper()
	for _, server := range []bool{false, true} {
		want, _ := y.w.Look(number(server))
		if got := x.Look(server); !reflect.DeepEqual(got, want) {
			t.Fatalf("%s: %+v, not %+v", what, got, want)
		}
	}
	if got := x.Events(); !slices.Equal(got, y.w.Events()) {
		t.Fatalf("%s: %+v, not %+v", what, got, y.w.Events())
	}
}

// 34.1: after whatever is done, a relay is where steps in a world lead.
func TestLiteral(t *testing.T) {
	for seed := range 40 {
		r := roll(seed)
		c, s := r.pair()
		x, err := relay.New(c, s)
		if err != nil {
			t.Fatalf("New: %v", err)
		}
		y := newLiteral(t, c, s)
		wantSame(t, "new", x, y)
		for range 60 {
			server := r.next(2) == 0
			var got, want bool
			switch r.next(12) {
			case 0:
				got, want = x.Rekey(server), y.act(api.Step{Kind: api.StRekey, To: number(server)})
			case 1:
				text := strings.Repeat("s", []int{0, 1, 30, api.MaxPayload - 5, api.MaxPayload - 4}[r.next(5)])
				got, want = x.Say(server, text), y.act(api.Step{Kind: api.StSay, To: number(server), Text: text})
			default:
				cuts := r.cuts()
				got, want = x.Pass(cuts), y.pass(cuts)
			}
			if got != want {
				t.Fatalf("seed %d: %v, not %v", seed, got, want)
			}
			wantSame(t, "step", x, y)
		}
		n := 0
		for y.pass(nil) {
			n++
		}
		if got := x.Drain(nil); got != n || x.Pass(nil) || x.Drain(nil) != 0 {
			t.Fatalf("seed %d: %d units, not %d", seed, got, n)
		}
		wantSame(t, "drain", x, y)
	}
}

// 34.1: units are passed one by one, in the order in which they were sent: the server, which is the
// session 0, has begun.
func TestPass(t *testing.T) {
	x := newRelay(t)
	phases := func() [2]int { return [2]int{x.Look(false).Phase, x.Look(true).Phase} }
	want := [][2]int{
		{api.PhLine, api.PhLine},
		{api.PhInit, api.PhLine}, // the server's line
		{api.PhKex, api.PhLine},  // the server's initialization
		{api.PhKex, api.PhInit},  // the client's line
		{api.PhKex, api.PhKex},   // the client's initialization
		{api.PhKex, api.PhNew},   // the client's share
		{api.PhNew, api.PhNew},   // the server's reply
		{api.PhOpen, api.PhNew},  // the server's new keys
		{api.PhOpen, api.PhNew},  // the server's extensions
		{api.PhOpen, api.PhOpen}, // the client's new keys
	}
	for i, w := range want {
		if phases() != w {
			t.Fatalf("after %d units: %v, not %v", i, phases(), w)
		}
		if !x.Pass(nil) {
			t.Fatalf("no unit %d", i)
		}
	}
	if o := (api.Outcome{Commit: true}); x.Outcome() != o {
		t.Errorf("%+v", x.Outcome())
	}
	if n := x.Drain(nil); n != 5 || x.Pass(nil) || x.Pass([]int{1}) || x.Drain(nil) != 0 {
		t.Errorf("%d more units", n)
	}
	if phases() != [2]int{api.PhOpen, api.PhOpen} {
		t.Errorf("%v", phases())
	}
	// What is sent later is passed later.
	if !x.Say(true, "a") || !x.Say(false, "b") || !x.Pass(nil) || !slices.Equal(last(x.Look(false).Got), []string{"\x02\x00\x00\x00\x01a"}) || !x.Pass(nil) || !slices.Equal(last(x.Look(true).Got), []string{"\x02\x00\x00\x00\x01b"}) || x.Pass(nil) {
		t.Errorf("%q, %q", x.Look(false).Got, x.Look(true).Got)
	}
}

// last returns the last element of a list, as a list.
func last(l []string) []string {
	return l[max(0, len(l)-1):]
}

// 34.1: the outcome so far.
func TestOutcome(t *testing.T) {
	x := newRelay(t, func(c, s *api.Conf) { c.Keys = []int{1, user} })
	var seen []api.Outcome
	for {
		if o := x.Outcome(); len(seen) == 0 || o != seen[len(seen)-1] {
			seen = append(seen, o)
		}
		if !x.Pass([]int{7}) {
			break
		}
	}
	want := []api.Outcome{
		{},
		{Commit: true},
		{Commit: true, Failures: 1},
		{Commit: true, Failures: 1, Server: true, Who: user},
		{Commit: true, Failures: 1, Server: true, Client: true, Who: user},
	}
	if !slices.Equal(seen, want) {
		t.Errorf("%+v", seen)
	}
	var kinds []int
	for _, e := range x.Events() {
		kinds = append(kinds, e.Kind)
	}
	if !slices.Equal(kinds, []int{api.EvRunning, api.EvCommit, api.EvRequest, api.EvAccept, api.EvLet}) {
		t.Errorf("kinds: %v", kinds)
	}
}

// 34.1: a session says something only once its output is sealed, and as long as it has not ended;
// and nothing that is no message.
func TestSay(t *testing.T) {
	x := newRelay(t)
	for i := 0; x.Outcome() != (api.Outcome{Commit: true}); i++ {
		sealed := [2]bool{x.Look(false).Phase >= api.PhNew, x.Look(true).Phase >= api.PhNew}
		if x.Say(false, "a") != sealed[0] || x.Say(true, "b") != sealed[1] {
			t.Errorf("after %d units", i)
		}
		x.Pass(nil)
	}
	x.Drain(nil)
	if x.Say(true, strings.Repeat("x", api.MaxPayload-4)) || !x.Say(true, strings.Repeat("x", api.MaxPayload-5)) || !x.Say(false, "") {
		t.Errorf("Say")
	}
	x.Drain(nil)
	wantOpen(t, "said", x)
	y := newRelay(t, func(c, s *api.Conf) { c.Peer = 1 })
	y.Drain(nil)
	if y.Say(true, "x") || y.Say(false, "x") || y.Rekey(true) || y.Rekey(false) || y.Pass(nil) {
		t.Errorf("sessions that have ended send something")
	}
}

// R4: what is given is neither changed nor kept, and what is told is nobody else's.
func TestMemory(t *testing.T) {
	c, s := pair()
	x, err := relay.New(c, s)
	if err != nil {
		t.Fatalf("New: %v", err)
	}
	d, u := pair()
	if !reflect.DeepEqual(c, d) || !reflect.DeepEqual(s, u) {
		t.Errorf("the configurations were changed")
	}
	c.Keys[0], c.Algs[0], s.Grants[0].Who, s.Algs[0], s.Prefs.Kex[0] = 1, "x", 2, "y", "z"
	cuts := []int{3, -2}
	x.Drain(cuts)
	if want := (api.Outcome{Commit: true, Client: true, Server: true, Who: user}); x.Outcome() != want || !slices.Equal(cuts, []int{3, -2}) {
		t.Errorf("%+v, %v", x.Outcome(), cuts)
	}
	l, look := x.Events(), x.Look(true)
	l[0].Kind, look.Sent[0], look.Conf.Grants[0].Who = 99, "x", 0
	if x.Events()[0].Kind != api.EvRunning || x.Look(true).Sent[0] == "x" || x.Look(true).Conf.Grants[0].Who != user {
		t.Errorf("what was told is kept")
	}
}

// wantAgreement checks that no rule is violated in a relay (P2, P3).
func wantAgreement(t *testing.T, what string, x *relay.Relay) {
	t.Helper()
	if err := agree.Check(x.Events()); err != nil {
		t.Fatalf("%s: %v: %+v", what, err, x.Events())
	}
}

// wantOpen checks that both sessions are in the same state, and have opened what the other one has
// sealed, in order (34.3, P5).
func wantOpen(t *testing.T, what string, x *relay.Relay) {
	t.Helper()
	c, s := x.Look(false), x.Look(true)
	if c.Phase != api.PhOpen || s.Phase != api.PhOpen || c.Session != s.Session || c.Session == api.None || c.Over != s.Over {
		t.Fatalf("%s: %+v, %+v", what, c, s)
	}
	if !slices.Equal(c.Sent, s.Got) || !slices.Equal(s.Sent, c.Got) || c.OutN != s.InN || s.OutN != c.InN {
		t.Fatalf("%s: %q, %q, %q, %q", what, c.Sent, s.Got, s.Sent, c.Got)
	}
	wantAgreement(t, what, x)
}

// allCuts are pieces of every kind: of every size up to that of a whole unit, and of sizes that
// there are none of.
func allCuts() [][]int {
	cuts := [][]int{nil, {}, {0}, {-1}, {math.MinInt, 0, -7}, {math.MaxInt}, {1, math.MaxInt, 1}, {3, 1, 4, 1, 5, 9}}
	for size := 1; size < 40; size++ {
		cuts = append(cuts, slices.Repeat([]int{size}, 20000/size))
	}
	return append(cuts, slices.Repeat([]int{0}, 20000), []int{100000})
}

// 34.2: it makes no difference how units are split.
func TestCuts(t *testing.T) {
	change := func(c, s *api.Conf) { c.Keys = []int{1, user} }
	whole := newRelay(t, change)
	n := whole.Drain(nil)
	for _, cuts := range allCuts() {
		x := newRelay(t, change)
		for i := range n {
			if !x.Pass(cuts) {
				t.Fatalf("only %d units", i)
			}
		}
		if x.Pass(cuts) || x.Outcome() != whole.Outcome() || !slices.Equal(x.Events(), whole.Events()) {
			t.Fatalf("%v: %+v", cuts[:min(len(cuts), 3)], x.Outcome())
		}
		for _, server := range []bool{false, true} {
			if !reflect.DeepEqual(x.Look(server), whole.Look(server)) {
				t.Fatalf("%v: %+v", cuts[:min(len(cuts), 3)], x.Look(server))
			}
		}
	}
}
