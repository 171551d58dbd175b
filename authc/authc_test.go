package authc_test

import (
	"math"
	"slices"
	"strconv"
	"strings"
	"testing"

	"shibboleth/api"
	"shibboleth/authc"
	"shibboleth/conf"
	"shibboleth/fault"
	"shibboleth/field"
	"shibboleth/msg"
	"shibboleth/sign"
	"shibboleth/term"
)

// wantText checks an error by its text; the empty one is that of no error.
func wantText(t *testing.T, err error, text, what string) {
	t.Helper()
	if err == nil && text == "" {
		return
	}
	if err == nil || err.Error() != text {
		t.Errorf("%s: %v, not %q", what, err, text)
	}
}

// payload returns the payload of a message.
func payload(t *testing.T, num int, l ...api.Field) string {
	t.Helper()
	s, err := msg.Encode(api.Msg{Num: num, Fields: l})
	if err != nil {
		t.Fatalf("Encode: %v", err)
	}
	return s
}

func text(s string) api.Field {
	return api.Field{Kind: 's', S: s}
}

func list(l ...string) api.Field {
	return api.Field{Kind: 'n', L: l}
}

func flag(n int) api.Field {
	return api.Field{Kind: 'b', N: n}
}

// bytes returns a string where a term may be.
func bytes(s string) api.Field {
	return api.Field{Kind: 't', S: s}
}

// of returns a term as a value.
func of(t *testing.T, a *term.Arena, x api.ID) api.Field {
	t.Helper()
	s, is := field.Bytes(a, x)
	if !is {
		t.Fatalf("no bytes of %d", x)
	}
	return bytes(s)
}

func pub(a *term.Arena, who int) api.ID {
	return a.Pub(a.Key(who))
}

// The server's messages.
func accept(t *testing.T) string { return payload(t, 6, text("ssh-userauth")) }

func refuse(t *testing.T) string { return payload(t, 51, list("publickey"), flag(0)) }

func announce(t *testing.T, l ...string) string {
	t.Helper()
	return payload(t, 7, api.Field{Kind: 'e', L: l})
}

func welcome(t *testing.T, a *term.Arena, alg string, who int) string {
	t.Helper()
	return payload(t, 60, text(alg), of(t, a, pub(a, who)))
}

const letIn = "\x34"

// query returns what the client "ann" asks.
func query(t *testing.T, a *term.Arena, alg string, who int) string {
	t.Helper()
	return payload(t, 50, text("ann"), text("ssh-connection"), text("publickey"), flag(0), text(alg), of(t, a, pub(a, who)))
}

// signed returns what the client "ann" signs.
func signed(t *testing.T, a *term.Arena, sid api.ID, alg string, who int) string {
	t.Helper()
	sig := sign.User(a, sid, "ann", "ssh-connection", alg, who)
	return payload(t, 50, text("ann"), text("ssh-connection"), text("publickey"), flag(1), text(alg), of(t, a, pub(a, who)), of(t, a, sig))
}

// event returns an event of the client "ann".
func event(kind int, sid api.ID, alg string, who int) api.Event {
	return api.Event{Kind: kind, Who: who, User: "ann", Service: "ssh-connection", Alg: alg, Sid: sid}
}

// with returns a client's configuration with these keys and algorithms.
func with(keys []int, algs ...string) api.Conf {
	c := conf.Plain(false, 1)
	c.Keys, c.Algs = keys, algs
	return c
}

// started returns a client that waits for the service.
func started(t *testing.T, a *term.Arena, c api.Conf, sid api.ID) *authc.Client {
	t.Helper()
	x, err := authc.New(a, c, sid)
	if err != nil {
		t.Fatalf("New: %v", err)
	}
	if _, err := x.Start(); err != nil {
		t.Fatalf("Start: %v", err)
	}
	return x
}

// wantSent checks that a message is answered with one payload, or with none if that is empty, and
// which event occurs.
func wantSent(t *testing.T, x *authc.Client, in, out string, events ...api.Event) {
	t.Helper()
	l, h, err := x.Take(in)
	var want []string
	if out != "" {
		want = []string{out}
	}
	if err != nil || !slices.Equal(l, want) || !slices.Equal(h, events) {
		t.Errorf("Take(%.60q): %.90q, %+v, %v, not %.90q, %+v", in, l, h, err, out, events)
	}
}

// wantFail checks that a message makes a client fail with an error of that text.
func wantFail(t *testing.T, x *authc.Client, in, text string) {
	t.Helper()
	tried := x.Tried()
	l, h, err := x.Take(in)
	wantText(t, err, text, "Take "+strconv.Quote(in[:min(len(in), 20)]))
	if len(l) != 0 || len(h) != 0 {
		t.Errorf("Take(%.20q): %q, %v beside an error", in, l, h)
	}
	wantFailed(t, x, tried)
}

// wantFailed checks that a client has failed after some queries.
func wantFailed(t *testing.T, x *authc.Client, tried int) {
	t.Helper()
	for _, in := range []string{"", letIn, accept(t), refuse(t), payload(t, 53, text(""), text("")), announce(t), announce(t, "server-sig-algs", ",")} {
		if x.In() || x.Tried() != tried {
			t.Errorf("it has not failed: %v, %d", x.In(), x.Tried())
		}
		l, h, err := x.Take(in)
		wantText(t, err, "authc: order", "Take of what has failed")
		m, e := x.Start()
		wantText(t, e, "authc: order", "Start of what has failed")
		if len(l) != 0 || len(h) != 0 || len(m) != 0 {
			t.Errorf("of what has failed: %q, %v, %q", l, h, m)
		}
	}
}

// 27.1: the configuration's error comes first, then what else is no argument.
func TestNew(t *testing.T) {
	a := term.New()
	sid := a.Hash(a.Data("s"))
	check := func(a *term.Arena, c api.Conf, sid api.ID, text string) {
		t.Helper()
		x, err := authc.New(a, c, sid)
		wantText(t, err, text, "New")
		if (x == nil) != (err != nil) {
			t.Errorf("%v, %v", x, err)
		}
	}
	for _, arena := range []*term.Arena{a, nil} {
		for _, session := range []api.ID{sid, api.None} {
			check(arena, conf.Plain(false, -1), session, "authc: conf: peer: range")
			check(arena, conf.Plain(true, 16), session, "authc: conf: own: range")
			check(arena, with([]int{1}), session, "authc: conf: deny: algs: none")
			check(arena, conf.Plain(true, 1), session, "authc: arg")
		}
	}
	check(nil, conf.Plain(false, 1), sid, "authc: arg")
	check(nil, conf.Plain(false, 1), 0, "authc: arg")
	check(new(term.Arena), conf.Plain(false, 1), 0, "authc: arg")
	for _, session := range []api.ID{api.None, -2, math.MinInt, api.ID(a.Len()), api.ID(a.Len() + 9), 1 << 32, math.MaxInt} {
		check(a, conf.Plain(false, 1), session, "authc: arg")
	}
	for session := range a.Len() {
		check(a, conf.Plain(false, 1), api.ID(session), "")
	}
}

// 27.1, example 1: the client starts once, by requesting the service.
func TestStart(t *testing.T) {
	a := term.New()
	x, err := authc.New(a, conf.Plain(false, 1), a.Data("s"))
	wantText(t, err, "", "New")
	if x.In() || x.Tried() != 0 {
		t.Errorf("a new one: %v, %d", x.In(), x.Tried())
	}
	l, err := x.Start()
	if err != nil || !slices.Equal(l, []string{"\x05\x00\x00\x00\x0cssh-userauth"}) || x.In() || x.Tried() != 0 {
		t.Errorf("Start: %q, %v, %v, %d", l, err, x.In(), x.Tried())
	}
	l, err = x.Start()
	wantText(t, err, "authc: order", "Start, twice")
	if len(l) != 0 {
		t.Errorf("Start, twice: %q", l)
	}
	wantFailed(t, x, 0)
}

// 27.2: before Start nothing is taken, not even what is no message.
func TestBeforeStart(t *testing.T) {
	a := term.New()
	for _, in := range []string{"", "\xff", letIn, accept(t), announce(t), payload(t, 53, text(""), text("")), refuse(t), welcome(t, a, "a", 8)} {
		x, err := authc.New(a, conf.Plain(false, 1), a.Data("s"))
		wantText(t, err, "", "New")
		wantFail(t, x, in, "authc: order")
	}
}

// 27.2, 27.3, 27.4: the keys are tried in order, each once, until one is accepted.
func TestDialog(t *testing.T) {
	a := term.New()
	sid := a.Hash(a.Data("s"))
	x := started(t, a, with([]int{4, 0, 15, 8}, "b", "a"), sid)
	steps := []struct {
		in, out string
		kind    int
		who     int
		tried   int
	}{
		{accept(t), query(t, a, "b", 4), 0, 0, 1},
		{refuse(t), query(t, a, "b", 0), 0, 0, 2},
		{welcome(t, a, "b", 0), signed(t, a, sid, "b", 0), api.EvRequest, 0, 2},
		{refuse(t), query(t, a, "b", 15), 0, 0, 3},
		{payload(t, 51, list("password", "publickey"), flag(1)), query(t, a, "b", 8), 0, 0, 4},
		{welcome(t, a, "b", 8), signed(t, a, sid, "b", 8), api.EvRequest, 8, 4},
		{letIn, "", api.EvLet, 8, 4},
	}
	for i, s := range steps {
		var events []api.Event
		if s.kind != 0 {
			events = []api.Event{event(s.kind, sid, "b", s.who)}
		}
		wantSent(t, x, s.in, s.out, events...)
		if x.In() != (i == len(steps)-1) || x.Tried() != s.tried {
			t.Errorf("step %d: %v, %d", i, x.In(), x.Tried())
		}
		// What requires no answer may come at any time.
		wantSent(t, x, payload(t, 53, text("hello"), text("en")), "")
		wantSent(t, x, announce(t, "other", ","), "")
	}
}

// 27.2: user, service, algorithm and key are the configuration's, and the session is the given one.
func TestRequest(t *testing.T) {
	a := term.New()
	for _, user := range []string{"a", "a,b", strings.Repeat("u", api.MaxText)} {
		for _, alg := range []string{"x", strings.Repeat("y", api.MaxText)} {
			for _, sid := range []api.ID{a.Data("s"), a.Hash(a.Data("s")), a.Key(3)} {
				c := with([]int{7}, alg, "other")
				c.User = user
				x := started(t, a, c, sid)
				head := []api.Field{text(user), text("ssh-connection"), text("publickey")}
				tail := []api.Field{text(alg), of(t, a, pub(a, 7))}
				wantSent(t, x, accept(t), payload(t, 50, slices.Concat(head, []api.Field{flag(0)}, tail)...))
				e := api.Event{Kind: api.EvRequest, Who: 7, User: user, Service: "ssh-connection", Alg: alg, Sid: sid}
				sig := of(t, a, sign.User(a, sid, user, "ssh-connection", alg, 7))
				wantSent(t, x, welcome(t, a, alg, 7), payload(t, 50, slices.Concat(head, []api.Field{flag(1)}, tail, []api.Field{sig})...), e)
				e.Kind = api.EvLet
				wantSent(t, x, letIn, "", e)
			}
		}
	}
}

// A stage is a state of a client, and the messages that are in order then, besides 7 and 53.
type stage struct {
	what  string
	takes []int
	of    func(t *testing.T, a *term.Arena, sid api.ID) *authc.Client
}

func stages() []stage {
	after := func(in ...func(t *testing.T, a *term.Arena) string) func(t *testing.T, a *term.Arena, sid api.ID) *authc.Client {
		return func(t *testing.T, a *term.Arena, sid api.ID) *authc.Client {
			x := started(t, a, with([]int{4, 8, 9}, "a"), sid)
			for _, s := range in {
				if _, _, err := x.Take(s(t, a)); err != nil {
					t.Fatalf("Take: %v", err)
				}
			}
			return x
		}
	}
	yes := func(t *testing.T, _ *term.Arena) string { return accept(t) }
	no := func(t *testing.T, _ *term.Arena) string { return refuse(t) }
	ok := func(who int) func(t *testing.T, a *term.Arena) string {
		return func(t *testing.T, a *term.Arena) string { return welcome(t, a, "a", who) }
	}
	in := func(*testing.T, *term.Arena) string { return letIn }
	return []stage{
		{"waiting for the service", []int{6}, after()},
		{"waiting for the answer to a query", []int{51, 60}, after(yes)},
		{"waiting for the answer to the second query", []int{51, 60}, after(yes, no)},
		{"waiting for the answer to a signature", []int{51, 52}, after(yes, ok(4))},
		{"waiting after a refused signature", []int{51, 60}, after(yes, ok(4), no)},
		{"waiting for the answer to the second signature", []int{51, 52}, after(yes, no, ok(8))},
		{"let in", nil, after(yes, ok(4), in)},
	}
}

// 27.2: each message in each state: it is in order, or makes the client fail.
func TestStates(t *testing.T) {
	for _, s := range stages() {
		a := term.New()
		sid := a.Hash(a.Data("s"))
		key := of(t, a, a.Data("k"))
		next := s.of(t, a, sid).Tried()
		for _, in := range []string{
			payload(t, 1, api.Field{Kind: 'u', N: 2}, text(""), text("")), payload(t, 2, text("")), payload(t, 3, api.Field{Kind: 'u'}), payload(t, 4, flag(0), text(""), text("")), payload(t, 5, text("ssh-userauth")),
			accept(t), payload(t, 21), payload(t, 30, key), payload(t, 31, key, key, key), payload(t, 34, api.Field{Kind: 'u'}, api.Field{Kind: 'u'}, api.Field{Kind: 'u'}),
			payload(t, 50, text("ann"), text("ssh-connection"), text("publickey")), query(t, a, "a", 4), signed(t, a, sid, "a", 4), refuse(t), letIn, welcome(t, a, "a", []int{4, 4, 8}[min(next, 2)]),
		} {
			x := s.of(t, a, sid)
			if !slices.Contains(s.takes, int(in[0])) {
				wantFail(t, x, in, "authc: order")
				continue
			}
			if _, _, err := x.Take(in); err != nil {
				t.Errorf("%s: Take(%.20q): %v", s.what, in, err)
			}
		}
		for _, in := range []string{payload(t, 53, text(""), text("")), announce(t), announce(t, "server-sig-algs", "a,b")} {
			x := s.of(t, a, sid)
			was := x.In()
			wantSent(t, x, in, "")
			if x.In() != was || x.Tried() != next {
				t.Errorf("%s: Take(%q): %v, %d", s.what, in, x.In(), x.Tried())
			}
		}
	}
}

// 27.2: what is no message, in each state.
func TestNoMessage(t *testing.T) {
	for _, s := range stages() {
		for in, text := range map[string]string{
			"":                                       "authc: message: short",
			strings.Repeat("\x35", api.MaxPayload+1): "authc: message: long",
			"\x00":                                   "authc: message: none",
			"\xff":                                   "authc: message: none",
			"\x34x":                                  "authc: userauth-success: end: form",
			"\x06":                                   "authc: service-accept: 0: short",
			"\x33\x00\x00\x00\x01,\x00":              "authc: userauth-failure: 0: form",
			"\x33\x00\x00\x00\x00\x02":               "authc: userauth-failure: 1: form",
			"\x07\x00\x00\x00\x09":                   "authc: ext-info: 0: long",
			"\x15x":                                  "authc: newkeys: end: form",
		} {
			a := term.New()
			wantFail(t, s.of(t, a, a.Data("s")), in, text)
		}
	}
}

// 27.2: another service than the one that was requested.
func TestService(t *testing.T) {
	for _, s := range []string{"", "ssh-connection", "ssh-userauth ", "SSH-USERAUTH", "ssh-userauthx", "none"} {
		a := term.New()
		x := started(t, a, conf.Plain(false, 1), a.Data("s"))
		_, _, err := x.Take(payload(t, 6, text(s)))
		wantText(t, err, "authc: service: service", s)
		if fault.Code(err) != api.ErrService || fault.Reason(err) != 7 || !slices.Equal(fault.Path(err), []string{"authc", "service"}) {
			t.Errorf("%v, %d, %q", fault.Code(err), fault.Reason(err), fault.Path(err))
		}
		wantFailed(t, x, 0)
	}
}

// 27.2: the algorithm is the first of the client's that the server has announced last.
func TestAnnouncements(t *testing.T) {
	const name = "server-sig-algs"
	for _, c := range []struct {
		what string
		in   [][]string // the extensions of each message
		alg  string     // none if it is empty
	}{
		{"nothing was announced", nil, "a"},
		{"no extensions", [][]string{{}}, "a"},
		{"another extension", [][]string{{"other", "c"}}, "a"},
		{"another extension, which is no list", [][]string{{"other", ",,"}}, "a"},
		{"the name as another one's value", [][]string{{"other", name, "c", "b"}}, "a"},
		{"the name with more to it", [][]string{{name + "x", "c", "x" + name, "c", "Server-sig-algs", "c"}}, "a"},
		{"all", [][]string{{name, "a,b,c"}}, "a"},
		{"in another order", [][]string{{name, "c,b,a"}}, "a"},
		{"the second", [][]string{{name, "x,b"}}, "b"},
		{"the third", [][]string{{name, "x,c,y"}}, "c"},
		{"another one first", [][]string{{"other", "a", name, "c"}}, "c"},
		{"the last value of a message", [][]string{{name, "a", name, "c"}}, "c"},
		{"the last value of a message, in between", [][]string{{name, "a", name, "c", "other", "b"}}, "c"},
		{"the last message", [][]string{{name, "a"}, {name, "c"}}, "c"},
		{"the last message, and all its values", [][]string{{name, "b"}, {name, "x", name, "c"}}, "c"},
		{"the last message that announces any", [][]string{{name, "c"}, {"other", "a"}, {}}, "c"},
		{"none that both have", [][]string{{name, "x,y"}}, ""},
		{"none at all", [][]string{{name, ""}}, ""},
		{"none at last", [][]string{{name, "a"}, {name, ""}}, ""},
		{"none at first", [][]string{{name, ""}, {name, "b"}}, "b"},
		{"parts of names", [][]string{{name, "aa,bb,A"}}, ""},
	} {
		a := term.New()
		x := started(t, a, with([]int{8}, "a", "b", "c"), a.Data("s"))
		for _, l := range c.in {
			wantSent(t, x, announce(t, l...), "")
		}
		if c.alg == "" {
			wantFail(t, x, accept(t), "authc: ways: auth")
			continue
		}
		wantSent(t, x, accept(t), query(t, a, c.alg, 8))
	}
}

// 27.2: an announcement that is no list, also if a right one follows or precedes it.
func TestWrongAnnouncements(t *testing.T) {
	const name = "server-sig-algs"
	long := strings.Repeat("a,", api.MaxNames) + "a"
	for _, c := range []struct {
		l    []string
		text string
	}{
		{[]string{name, ","}, "authc: ext: form"},
		{[]string{name, "a,"}, "authc: ext: form"},
		{[]string{name, "a b"}, "authc: ext: form"},
		{[]string{name, strings.Repeat("x", api.MaxText+1)}, "authc: ext: form"},
		{[]string{name, long}, "authc: ext: long"},
		{[]string{name, long, name, ","}, "authc: ext: long"},
		{[]string{name, ",", name, long}, "authc: ext: form"},
		{[]string{name, ",", name, "a"}, "authc: ext: form"},
		{[]string{name, "a", name, ","}, "authc: ext: form"},
		{[]string{"other", ",", name, "a", "other", "x", name, long}, "authc: ext: long"},
	} {
		for _, s := range stages() {
			a := term.New()
			wantFail(t, s.of(t, a, a.Data("s")), announce(t, c.l...), c.text)
		}
	}
}

// 27.2: what is announced later counts for the next query, not for the one that was made.
func TestLateAnnouncement(t *testing.T) {
	a := term.New()
	sid := a.Data("s")
	x := started(t, a, with([]int{4, 8, 9}, "a", "b"), sid)
	wantSent(t, x, accept(t), query(t, a, "a", 4))
	wantSent(t, x, announce(t, "server-sig-algs", "b"), "")
	wantSent(t, x, welcome(t, a, "a", 4), signed(t, a, sid, "a", 4), event(api.EvRequest, sid, "a", 4))
	wantSent(t, x, refuse(t), query(t, a, "b", 8))
	wantSent(t, x, announce(t, "server-sig-algs", "a"), "")
	wantSent(t, x, welcome(t, a, "b", 8), signed(t, a, sid, "b", 8), event(api.EvRequest, sid, "b", 8))
	wantSent(t, x, announce(t, "server-sig-algs", ""), "")
	wantSent(t, x, letIn, "", event(api.EvLet, sid, "b", 8))
	wantSent(t, x, announce(t, "server-sig-algs", "x"), "")
	if !x.In() || x.Tried() != 2 {
		t.Errorf("%v, %d", x.In(), x.Tried())
	}
}

// 27.2: the answer to a query has to name exactly its algorithm and its key.
func TestKey(t *testing.T) {
	a := term.New()
	sid := a.Data("s")
	right := of(t, a, pub(a, 4)).S
	for _, c := range []struct{ alg, key string }{
		{"b", right}, {"", right}, {"a ", right}, {"a,b", right}, {"A", right},
		{"a", ""}, {"a", right + "x"}, {"a", right[:len(right)-1]}, {"a", right[1:]},
		{"a", of(t, a, pub(a, 8)).S}, {"a", of(t, a, a.List(pub(a, 4))).S}, {"b", of(t, a, pub(a, 8)).S},
	} {
		x := started(t, a, with([]int{4, 8}, "a", "b"), sid)
		wantSent(t, x, accept(t), query(t, a, "a", 4))
		in := payload(t, 60, text(c.alg), bytes(c.key))
		_, _, err := x.Take(in)
		wantText(t, err, "authc: key: auth", c.alg)
		if fault.Reason(err) != 14 {
			t.Errorf("the reason is %d", fault.Reason(err))
		}
		wantFailed(t, x, 1)
	}
	// The first key's answer, too late.
	x := started(t, a, with([]int{4, 8}, "a"), sid)
	wantSent(t, x, accept(t), query(t, a, "a", 4))
	wantSent(t, x, refuse(t), query(t, a, "a", 8))
	wantFail(t, x, welcome(t, a, "a", 4), "authc: key: auth")
}

// 27.2: a session identifier that is too long for a signature, or for a message with one.
func TestLongSession(t *testing.T) {
	a := term.New()
	asked := func(room int) (*authc.Client, api.ID) {
		sid := a.Data(strings.Repeat("s", room))
		x := started(t, a, with([]int{4}, "a"), sid)
		wantSent(t, x, accept(t), query(t, a, "a", 4))
		return x, sid
	}
	// What the signature of a session identifier without bytes takes up, and its message.
	sig := a.Size(sign.User(a, a.Data(""), "ann", "ssh-connection", "a", 4))
	message := len(signed(t, a, a.Data(""), "a", 4))

	x, sid := asked(api.MaxPayload - message)
	wantSent(t, x, welcome(t, a, "a", 4), signed(t, a, sid, "a", 4), event(api.EvRequest, sid, "a", 4))
	for room, text := range map[int]string{
		api.MaxPayload - message + 1: "authc: userauth-request: long",
		api.MaxTerm - sig:            "authc: userauth-request: long",
		api.MaxTerm - sig + 1:        "authc: signature: long",
		api.MaxTerm - 5:              "authc: signature: long",
	} {
		x, _ := asked(room)
		wantFail(t, x, welcome(t, a, "a", 4), text)
		x, _ = asked(room)
		wantFail(t, x, welcome(t, a, "a", 5), "authc: key: auth")
	}
}

// 27.2: no keys, keys that are all refused, and a server that does not take keys.
func TestWays(t *testing.T) {
	a := term.New()
	sid := a.Data("s")
	wantFail(t, started(t, a, with(nil, "a"), sid), accept(t), "authc: ways: auth")
	for n := 1; n <= api.MaxKeys; n++ {
		for _, sign := range []bool{false, true} {
			x := started(t, a, with([]int{0, 1, 2, 3, 4, 5, 6, 7}[:n], "a"), sid)
			in := accept(t)
			for who := range n {
				wantSent(t, x, in, query(t, a, "a", who))
				if sign {
					wantSent(t, x, welcome(t, a, "a", who), signed(t, a, sid, "a", who), event(api.EvRequest, sid, "a", who))
				}
				in = refuse(t)
			}
			wantFail(t, x, in, "authc: ways: auth")
		}
	}
	for _, l := range [][]string{nil, {"password"}, {"Publickey"}, {"publickey-x", "x-publickey"}} {
		for _, s := range stages() {
			x, in := s.of(t, a, sid), payload(t, 51, list(l...), flag(1))
			text := "authc: order"
			if slices.Contains(s.takes, 51) {
				text = "authc: ways: auth"
			}
			wantFail(t, x, in, text)
		}
	}
	for _, l := range [][]string{{"publickey"}, {"password", "publickey", "x"}} {
		for partial := range 2 {
			x := started(t, a, with([]int{4, 8}, "a"), sid)
			wantSent(t, x, accept(t), query(t, a, "a", 4))
			wantSent(t, x, payload(t, 51, list(l...), flag(partial)), query(t, a, "a", 8))
		}
	}
}

// 27.2: when no algorithm is left, the error is that there is no way, though keys are left.
func TestNoAlgorithmLeft(t *testing.T) {
	a := term.New()
	x := started(t, a, with([]int{4, 8}, "a"), a.Data("s"))
	wantSent(t, x, accept(t), query(t, a, "a", 4))
	wantSent(t, x, announce(t, "server-sig-algs", "b"), "")
	wantFail(t, x, refuse(t), "authc: ways: auth")
}

// 27.1: the client has a configuration of its own.
func TestCopy(t *testing.T) {
	a := term.New()
	sid := a.Data("s")
	c := with([]int{4, 8}, "a", "b")
	x := started(t, a, c, sid)
	c.Keys[0], c.Keys[1], c.Algs[0], c.Algs[1] = 1, 2, "x", "y"
	wantSent(t, x, accept(t), query(t, a, "a", 4))
	wantSent(t, x, announce(t, "server-sig-algs", "b"), "")
	wantSent(t, x, refuse(t), query(t, a, "b", 8))
}

// A nil Client, and the zero one.
func TestNil(t *testing.T) {
	wantFailed(t, nil, 0)
	wantFailed(t, &authc.Client{}, 0)
}
