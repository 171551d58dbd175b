package world_test

import (
	"math"
	"slices"
	"strings"
	"testing"

	"shibboleth/api"
	"shibboleth/conf"
	"shibboleth/frame"
	"shibboleth/payload"
	"shibboleth/peer"
	"shibboleth/seal"
	"shibboleth/world"
)

const host = 5

// want performs a step, and checks whether it is well formed. If it is not, nothing may have changed.
func want(t *testing.T, what string, w *world.World, x api.Step, is bool) {
	t.Helper()
	before := all(w)
	if w.Do(x) != is {
		t.Errorf("%s: not %v", what, is)
	}
	if !is && !before.same(all(w)) {
		t.Errorf("%s: it has changed something", what)
	}
}

// A picture is all that a world tells.
type picture struct {
	known  []api.ID
	sent   []api.Sent
	terms  []api.ID
	events []api.Event
	looks  []api.Look
}

func all(w *world.World) picture {
	p := picture{known: w.Known(), sent: w.Sent(), terms: w.Terms(), events: w.Events()}
	for i := range w.Sessions() {
		x, _ := w.Look(i)
		p.looks = append(p.looks, x)
	}
	return p
}

// clone returns the same in memory of its own.
func (p picture) clone() picture {
	p.known, p.sent, p.terms, p.events, p.looks = slices.Clone(p.known), slices.Clone(p.sent), slices.Clone(p.terms), slices.Clone(p.events), slices.Clone(p.looks)
	for i, x := range p.looks {
		p.looks[i].Sent, p.looks[i].Got = slices.Clone(x.Sent), slices.Clone(x.Got)
	}
	return p
}

func (p picture) same(q picture) bool {
	return slices.Equal(p.known, q.known) && slices.Equal(p.sent, q.sent) && slices.Equal(p.terms, q.terms) && slices.Equal(p.events, q.events) && slices.EqualFunc(p.looks, q.looks, sameLook)
}

// sameLook compares all but the configurations.
func sameLook(x, y api.Look) bool {
	return x.Phase == y.Phase && x.Over == y.Over && x.Session == y.Session && x.In == y.In && x.OutN == y.OutN && x.InN == y.InN && slices.Equal(x.Sent, y.Sent) && slices.Equal(x.Got, y.Got) && x.Code == y.Code
}

func look(t *testing.T, w *world.World, i int) api.Look {
	t.Helper()
	x, is := w.Look(i)
	if !is {
		t.Fatalf("no session %d", i)
	}
	return x
}

// wantState checks the phase of a session, and by which error it has ended.
func wantState(t *testing.T, what string, w *world.World, i, phase int, e api.Errno) {
	t.Helper()
	if x := look(t, w, i); x.Phase != phase || x.Code != e {
		t.Errorf("%s: session %d: phase %d, not %d, %v, not %v", what, i, x.Phase, phase, x.Code, e)
	}
}

// with returns a world with sessions of the host.
func with(t *testing.T, servers ...bool) *world.World {
	t.Helper()
	w := world.New()
	for _, server := range servers {
		want(t, "spawn", w, api.Step{Conf: conf.Plain(server, host)}, true)
	}
	return w
}

// talk passes all that was sent, from a unit on, between the sessions 0 and 1.
func talk(w *world.World, from int, cuts ...int) int {
	for ; from < len(w.Sent()); from++ {
		w.Do(api.Step{Kind: api.StPass, To: 1 - w.Sent()[from].Session, Who: from, Cuts: cuts})
	}
	return from
}

func data(s string) []api.Op {
	return []api.Op{{Kind: api.OpData, S: s}}
}

// parts is the recipe of a list of data.
func parts(l ...string) []api.Op {
	ops := []api.Op{{Kind: api.OpEmpty}}
	for _, s := range l {
		n := len(ops)
		ops = append(ops, api.Op{Kind: api.OpData, S: s}, api.Op{Kind: api.OpAdd, A: n - 1, B: n})
	}
	return ops
}

// 30.1, 30.2: a new world.
func TestNew(t *testing.T) {
	w := world.New()
	a := w.Arena()
	var pubs []api.ID
	for who := range api.MaxPeople {
		pubs = append(pubs, a.Pub(a.Key(who)))
	}
	if !slices.Equal(w.Known(), pubs) || len(w.Sent()) != 0 || len(w.Terms()) != 0 || len(w.Events()) != 0 || w.Sessions() != 0 {
		t.Errorf("known %v, not %v", w.Known(), pubs)
	}
	if world.New().Arena() == a || w.Arena() != a {
		t.Errorf("not an arena of its own")
	}
	for _, i := range []int{0, 1, -1, math.MinInt, math.MaxInt} {
		if x, is := w.Look(i); is || x.Phase != 0 || x.Session != 0 || x.Conf.Software != "" {
			t.Errorf("a session %d: %+v", i, x)
		}
	}
	if w.Run(nil) != 0 {
		t.Errorf("no steps")
	}
}

// 30.1, 30.2: a world that there is none of, and the zero one.
func TestNil(t *testing.T) {
	for name, w := range map[string]*world.World{"nil": nil, "zero": {}} {
		for kind := -1; kind < 10; kind++ {
			x := api.Step{Kind: kind, Conf: conf.Plain(true, 1), Ops: data("x"), Cuts: []int{1}}
			if w.Do(x) || w.Run([]api.Step{x, x}) != 0 {
				t.Errorf("%s: kind %d", name, kind)
			}
		}
		x, is := w.Look(0)
		if w.Arena() != nil || len(w.Known()) != 0 || len(w.Sent()) != 0 || len(w.Terms()) != 0 || len(w.Events()) != 0 || w.Sessions() != 0 || is || x.Phase != 0 {
			t.Errorf("%s: not empty", name)
		}
	}
}

// 30.1: kinds that there are none of, and sessions that there are none of.
func TestTo(t *testing.T) {
	for n := range 3 {
		w := with(t, []bool{true, false}[:n]...)
		for _, kind := range []int{-1, 9, 10, math.MinInt, math.MaxInt} {
			for to := -1; to <= n; to++ {
				want(t, "kind", w, api.Step{Kind: kind, To: to, Conf: conf.Plain(true, 1), Ops: data("SSH-2.0-x")}, false)
			}
		}
		for kind := api.StLine; kind <= api.StSay; kind++ {
			for _, to := range []int{-1, n, n + 1, api.MaxSessions, math.MinInt, math.MaxInt} {
				for _, l := range [][]api.Op{data("SSH-2.0-x"), parts("\x15")} {
					want(t, "to", w, api.Step{Kind: kind, To: to, Ops: l, Text: "x"}, false)
				}
			}
		}
	}
}

// 30.1: a session is created with its configuration and the next number, and starts; whatever else
// the step says.
func TestSpawn(t *testing.T) {
	w := world.New()
	var units int
	for i := range api.MaxSessions {
		c := conf.Plain(i%3 == 0, i)
		c.Comment = strings.Repeat("x", i)
		c.Guess = i%2 == 0
		want(t, "spawn", w, api.Step{Conf: c, To: i - 5, Who: -3, Text: "x", Ops: data("y"), Cuts: []int{-1}}, true)
		if w.Sessions() != i+1 {
			t.Errorf("%d sessions, not %d", w.Sessions(), i+1)
		}
		p, err := peer.New(w.Arena(), c, i)
		if err != nil {
			t.Fatalf("New: %v", err)
		}
		m := p.Start()
		for k, x := range w.Sent()[units:] {
			if x.Session != i || x.Unit != m.Out[k] {
				t.Errorf("session %d, unit %d: %+v", i, k, x)
			}
		}
		units += len(m.Out)
		x := look(t, w, i)
		if len(w.Sent()) != units || x.Phase != api.PhLine || x.Session != api.None || x.OutN != uint32(len(m.Out)-1) || x.InN != 0 || x.In || x.Over != 0 || x.Code != api.OK || x.Conf.Server != c.Server || x.Conf.Comment != c.Comment || x.Conf.Guess != c.Guess {
			t.Errorf("session %d: %+v", i, x)
		}
	}
	want(t, "one more", w, api.Step{Conf: conf.Plain(true, 1)}, false)
	if len(w.Events()) != 0 {
		t.Errorf("events: %v", w.Events())
	}
}

// 30.1: configurations that may not be.
func TestSpawnWrong(t *testing.T) {
	w := with(t, true)
	alone := conf.Plain(false, 1)
	alone.Keys = make([]int, api.MaxKeys+1)
	nameless := conf.Plain(true, 1)
	nameless.Software = ""
	for _, c := range []api.Conf{{}, {Server: true}, conf.Plain(true, 16), conf.Plain(false, -1), alone, nameless} {
		want(t, "spawn", w, api.Step{Conf: c}, false)
	}
	want(t, "spawn", w, api.Step{Conf: conf.Plain(false, 0)}, true)
}

// R4: a session has a configuration of its own, and so has what is told of it.
func TestSpawnCopy(t *testing.T) {
	w := world.New()
	c := conf.Plain(true, host)
	w.Do(api.Step{Conf: c})
	c.Prefs.Kex[0], c.Grants[0].Who, c.Algs[0] = "x", 3, "y"
	x := look(t, w, 0)
	if x.Conf.Prefs.Kex[0] != "curve25519-sha256" || x.Conf.Grants[0].Who != 8 || x.Conf.Algs[0] != "ssh-ed25519" {
		t.Errorf("%+v", x.Conf)
	}
	x.Conf.Prefs.Kex[0], x.Conf.Grants[0].Who, x.Conf.Algs[0] = "x", 3, "y"
	if x := look(t, w, 0); x.Conf.Prefs.Kex[0] != "curve25519-sha256" || x.Conf.Grants[0].Who != 8 || x.Conf.Algs[0] != "ssh-ed25519" {
		t.Errorf("%+v", x.Conf)
	}
}

// 30.1: keys that are compromised: each once, whether there are sessions or not.
func TestTake(t *testing.T) {
	for _, w := range []*world.World{world.New(), with(t, true, false)} {
		a := w.Arena()
		known := w.Known()
		var events []api.Event
		for _, who := range []int{3, 15, 0, 5} {
			x := api.Step{Kind: api.StTake, Who: who, To: who*7 - 3, Text: "x", Cuts: []int{1}}
			want(t, "take", w, x, true)
			want(t, "take again", w, x, false)
			known = append(known, a.Key(who))
			events = append(events, api.Event{Kind: api.EvTaken, Who: who})
			if !slices.Equal(w.Known(), known) || !slices.Equal(w.Events(), events) {
				t.Errorf("known %v, not %v; events %+v", w.Known(), known, w.Events())
			}
		}
		for _, who := range []int{-1, api.MaxPeople, math.MinInt, math.MaxInt, api.MaxNumber} {
			want(t, "nobody", w, api.Step{Kind: api.StTake, Who: who}, false)
		}
		for _, who := range []int{15, 0, 3, 5} {
			want(t, "take again", w, api.Step{Kind: api.StTake, Who: who}, false)
		}
	}
}

// 30.1: lines, of data of plain bytes only.
func TestLine(t *testing.T) {
	long := strings.Repeat("x", api.MaxLine)
	for _, c := range []struct {
		s     string
		is    bool
		phase int
		e     api.Errno
	}{
		{"SSH-2.0-x", true, api.PhInit, api.OK},
		{"SSH-2.0-" + long[8:], true, api.PhInit, api.OK},
		{"", true, api.PhLine, api.OK},
		{"hello", true, api.PhLine, api.OK},
		{long, true, api.PhLine, api.OK},
		{"SSH-1.5-x", true, api.PhDead, api.ErrLine},
		{"SSH-", true, api.PhDead, api.ErrLine},
		{long + "x", false, api.PhLine, api.OK},
		{"SSH-2.0-" + long, false, api.PhLine, api.OK},
		{"SSH-2.0-x\r\n", false, api.PhLine, api.OK},
		{"\r\n", false, api.PhLine, api.OK},
		{"x\r\ny", false, api.PhLine, api.OK},
		{"SSH-2.0-x\r", false, api.PhLine, api.OK},
		{"SSH-2.0-x\n", false, api.PhLine, api.OK},
		{"SSH-2.0-\x1f", false, api.PhLine, api.OK},
		{"SSH-2.0-\x7f", false, api.PhLine, api.OK},
		{"\x00", false, api.PhLine, api.OK},
		{"\xff", false, api.PhLine, api.OK},
	} {
		w := with(t, false)
		want(t, c.s, w, api.Step{Kind: api.StLine, Ops: data(c.s)}, c.is)
		wantState(t, c.s, w, 0, c.phase, c.e)
	}
}

// 30.1: recipes without a result, or with one of the wrong kind.
func TestResults(t *testing.T) {
	ofKind := map[string][]api.Op{
		"none":       nil,
		"too many":   slices.Repeat(data("SSH-2.0-x"), api.MaxOps+1),
		"missing":    {{Kind: api.OpKnow, A: 16}},
		"not sent":   {{Kind: api.OpSent, A: 99}},
		"no kind":    {{Kind: 15}},
		"none, last": append(data("SSH-2.0-x"), api.Op{Kind: api.OpHash, A: 1}),
		"pub":        {{Kind: api.OpKnow}},
		"nonce":      {{Kind: api.OpNonce}},
		"share":      {{Kind: api.OpBase, S: "curve25519"}},
		"hash":       append(data("SSH-2.0-x"), api.Op{Kind: api.OpHash}),
		"list":       parts("SSH-2.0-x"),
		"data":       data("SSH-2.0-x"),
		"empty":      data(""),
		"message":    parts("\x15"),
		"message 2":  data("\x15"),
		"ill-formed": parts("\x15", "x"),
		"long":       data(strings.Repeat("x", api.MaxPayload+1)),
	}
	right := map[int][]string{
		api.StLine:  {"data", "empty"},
		api.StPlain: {"data", "message"},
		api.StSealed: {"pub", "nonce", "share", "hash", "list", "data", "empty", "message", "message 2",
			"ill-formed", "long"},
	}
	for kind, names := range right {
		for name, l := range ofKind {
			w := with(t, false)
			want(t, name, w, api.Step{Kind: kind, Ops: l}, slices.Contains(names, name))
		}
	}
}

// 30.1: plain packets: the shortest padding, and any payload but the empty one.
func TestPlain(t *testing.T) {
	for _, server := range []bool{false, true} {
		w := with(t, server)
		want(t, "line", w, api.Step{Kind: api.StLine, Ops: data("SSH-2.0-x")}, true)
		want(t, "an initialization", w, api.Step{Kind: api.StPlain, Ops: []api.Op{{Kind: api.OpSent, A: 1}}}, true)
		// Its own initialization, reflected: no side is its own other side.
		wantState(t, "reflected", w, 0, api.PhDead, api.ErrRule)
		want(t, "to what is dead", w, api.Step{Kind: api.StPlain, Ops: parts("\x15")}, true)
		want(t, "nothing, to what is dead", w, api.Step{Kind: api.StPlain, Ops: data("")}, false)

		w = with(t, server)
		w.Do(api.Step{Kind: api.StLine, Ops: data("SSH-2.0-x")})
		want(t, "no message", w, api.Step{Kind: api.StPlain, Ops: data("\xc8" + strings.Repeat("x", api.MaxPayload-1))}, true)
		wantState(t, "no message", w, 0, api.PhDead, api.ErrOrder)
		if x := look(t, w, 0); x.InN != 1 {
			t.Errorf("%d packets", x.InN)
		}
	}
}

// 30.1: what was sent is passed on as it is, to any session.
func TestPass(t *testing.T) {
	w := with(t, true, false, false)
	n := len(w.Sent())
	for _, who := range []int{-1, n, n + 1, math.MinInt, math.MaxInt} {
		want(t, "not sent", w, api.Step{Kind: api.StPass, Who: who}, false)
	}
	want(t, "a line", w, api.Step{Kind: api.StPass, Who: 0, To: 1}, true)
	wantState(t, "a line", w, 1, api.PhInit, api.OK)
	want(t, "a packet", w, api.Step{Kind: api.StPass, Who: 1, To: 1}, true)
	wantState(t, "a packet", w, 1, api.PhKex, api.OK)
	want(t, "a line again", w, api.Step{Kind: api.StPass, Who: 0, To: 1}, true)
	wantState(t, "a line again", w, 1, api.PhDead, api.ErrLong)
	want(t, "its own line", w, api.Step{Kind: api.StPass, Who: 0, To: 0}, true)
	wantState(t, "its own line", w, 0, api.PhInit, api.OK)
	wantState(t, "another one", w, 2, api.PhLine, api.OK)
	want(t, "a packet ahead of a line", w, api.Step{Kind: api.StPass, Who: 1, To: 2}, true)
	wantState(t, "a packet ahead of a line", w, 2, api.PhDead, api.ErrLine)
}

// 30.1: the byte 255, in each phase.
func TestBad(t *testing.T) {
	w := with(t, true, false)
	want(t, "bad", w, api.Step{Kind: api.StBad, To: 1}, true)
	wantState(t, "ahead of a line", w, 1, api.PhDead, api.ErrLine)
	want(t, "bad again", w, api.Step{Kind: api.StBad, To: 1, Cuts: []int{0, 4}}, true)
	want(t, "line", w, api.Step{Kind: api.StLine, Ops: data("SSH-2.0-x")}, true)
	want(t, "bad", w, api.Step{Kind: api.StBad, Ops: data("x"), Who: 99}, true)
	wantState(t, "behind a line", w, 0, api.PhDead, api.ErrLong)
	ends := []api.Event{{Kind: api.EvEnd, Session: 1, Number: 8}, {Kind: api.EvEnd, Session: 0, Number: 2}}
	if !slices.Equal(w.Events(), ends) {
		t.Errorf("%+v", w.Events())
	}
}

// 30.1, 30.2: a whole talk, two exchanges, and what is said; all of which is recorded in order.
func TestTalk(t *testing.T) {
	for _, cuts := range [][]int{nil, {1}, {0, -1, math.MinInt}, {7, 0, 3, math.MaxInt, 2}, slices.Repeat([]int{1}, 100000), {math.MaxInt}, slices.Repeat([]int{3}, 400)} {
		w, v := with(t, true, false), with(t, true, false)
		n, k := talk(w, 0, cuts...), talk(v, 0)
		for _, x := range []api.Step{
			{Kind: api.StSay, To: 1, Text: "hello"},
			{Kind: api.StRekey, To: 0, Text: "x", Who: 9},
			{Kind: api.StRekey, To: 0},
			{Kind: api.StSay, To: 0, Text: "there", Cuts: []int{1}},
			{Kind: api.StRekey, To: 1},
		} {
			want(t, "step", w, x, true)
			v.Do(x)
		}
		n, k = talk(w, n, cuts...), talk(v, k)
		if n != k || !all(w).same(all(v)) {
			t.Errorf("in pieces: %d units, not %d", n, k)
		}
		wantTalk(t, w)
	}
}

func wantTalk(t *testing.T, w *world.World) {
	t.Helper()
	kinds := map[int][]int{}
	for _, e := range w.Events() {
		kinds[e.Session] = append(kinds[e.Session], e.Kind)
	}
	if !slices.Equal(kinds[0], []int{api.EvRunning, api.EvAccept, api.EvRunning}) || !slices.Equal(kinds[1], []int{api.EvCommit, api.EvRequest, api.EvLet, api.EvCommit}) {
		t.Errorf("events: %v", kinds)
	}
	x, y := look(t, w, 0), look(t, w, 1)
	if x.Phase != api.PhOpen || y.Phase != api.PhOpen || x.Over != 2 || y.Over != 2 || x.Session != y.Session || x.Session == api.None || !x.In || !y.In || x.OutN != y.InN || x.InN != y.OutN || !slices.Equal(x.Sent, y.Got) || !slices.Equal(y.Sent, x.Got) || x.Code != api.OK || y.Code != api.OK {
		t.Errorf("%+v, %+v", x, y)
	}
	if !slices.Contains(x.Got, "\x02\x00\x00\x00\x05hello") || !slices.Contains(y.Got, "\x02\x00\x00\x00\x05there") {
		t.Errorf("what was said: %q, %q", x.Got, y.Got)
	}
	wantUnits(t, w)
}

// wantUnits checks the terms of what was sent.
func wantUnits(t *testing.T, w *world.World) {
	t.Helper()
	a := w.Arena()
	lines := map[int]bool{}
	var packets [api.MaxSessions]uint32
	terms := w.Terms()
	for i, x := range w.Sent() {
		if terms[i] != x.Unit.Term {
			t.Errorf("unit %d: the term %d, not %d", i, terms[i], x.Unit.Term)
		}
		v, _ := a.View(x.Unit.Term)
		var again string
		switch {
		case !lines[x.Session]:
			lines[x.Session] = true
			again = v.S + "\r\n"
			continue
		case v.Kind == api.TmSeal:
			again, _ = seal.Unit(a, x.Unit.Term)
			if uint32(v.B) != packets[x.Session] {
				t.Errorf("unit %d: sealed as packet %d, not %d", i, v.B, packets[x.Session])
			}
		default:
			s, _ := payload.Bytes(a, x.Unit.Term)
			again, _ = frame.Pack(s)
		}
		packets[x.Session]++
		if again != x.Unit.Bytes {
			t.Errorf("unit %d: %.60q, not %.60q", i, x.Unit.Bytes, again)
		}
	}
}

// 30.1: StRekey and StSay have no effect at the wrong time, and are well formed all the same.
func TestNoEffect(t *testing.T) {
	w := with(t, true, false)
	for _, x := range []api.Step{{Kind: api.StRekey}, {Kind: api.StRekey, To: 1}, {Kind: api.StSay, Text: "x"}, {Kind: api.StSay, To: 1, Text: "x"}} {
		before := all(w)
		want(t, "too early", w, x, true)
		if !all(w).same(before) {
			t.Errorf("too early: an effect")
		}
	}
	n := talk(w, 0)
	for _, to := range []int{0, 1} {
		before := all(w)
		want(t, "too long", w, api.Step{Kind: api.StSay, To: to, Text: strings.Repeat("x", api.MaxPayload-4)}, true)
		if !all(w).same(before) {
			t.Errorf("too long: an effect")
		}
		want(t, "as long as it may be", w, api.Step{Kind: api.StSay, To: to, Text: strings.Repeat("x", api.MaxPayload-5)}, true)
		if len(w.Sent()) != n+1+to {
			t.Errorf("nothing said")
		}
		want(t, "bad", w, api.Step{Kind: api.StBad, To: to}, true)
		wantState(t, "bad", w, to, api.PhDead, api.ErrLong)
		n++
	}
	before := all(w)
	for to := range 2 {
		for _, x := range []api.Step{{Kind: api.StRekey}, {Kind: api.StSay}, {Kind: api.StBad}, {Kind: api.StPass}, {Kind: api.StLine, Ops: data("")}, {Kind: api.StPlain, Ops: data("x")}, {Kind: api.StSealed, Ops: data("x")}} {
			x.To = to
			want(t, "too late", w, x, true)
		}
	}
	if !all(w).same(before) {
		t.Errorf("too late: an effect")
	}
	if x := look(t, w, 0); !x.In || x.Over != 1 || x.Session == api.None {
		t.Errorf("ended: %+v", x)
	}
}

// 30.1: Run performs all steps, also behind an ill-formed one.
func TestRun(t *testing.T) {
	w := world.New()
	l := []api.Step{
		{Kind: api.StBad},
		{Conf: conf.Plain(true, host)},
		{},
		{Kind: api.StTake, Who: 2},
		{Kind: api.StTake, Who: 2},
		{Kind: api.StBad},
		{Kind: 77},
	}
	if n := w.Run(l); n != 3 || w.Sessions() != 1 || len(w.Known()) != 17 {
		t.Errorf("%d", n)
	}
	wantState(t, "bad", w, 0, api.PhDead, api.ErrLine)
	v := world.New()
	for _, x := range l {
		v.Do(x)
	}
	if !all(w).same(all(v)) {
		t.Errorf("another result step by step")
	}
}

// R4: what was answered is new memory.
func TestAnswersAreNew(t *testing.T) {
	w := with(t, true, false)
	talk(w, 0)
	w.Do(api.Step{Kind: api.StTake, Who: 1})
	before := all(w)
	old := before.clone()
	clear(before.known)
	clear(before.sent)
	clear(before.terms)
	clear(before.events)
	for _, x := range before.looks {
		clear(x.Sent)
		clear(x.Got)
	}
	if !all(w).same(old) {
		t.Errorf("an answer was the world's own")
	}
	w.Do(api.Step{Kind: api.StTake, Who: 2})
	w.Do(api.Step{Kind: api.StSay, Text: "x"})
	if !slices.Equal(w.Known()[:17], old.known) || len(old.events) != 6 || len(old.looks[0].Sent)+1 != len(look(t, w, 0).Sent) {
		t.Errorf("an answer has changed")
	}
}

// 29.4, 30.2: what Look tells is what the session tells.
func TestLook(t *testing.T) {
	w := with(t, true, false)
	for from := 0; from < len(w.Sent()); from++ {
		w.Do(api.Step{Kind: api.StPass, To: 1 - w.Sent()[from].Session, Who: from})
		for i := range 2 {
			x, y := look(t, w, i), again(t, w, i, from)
			out, in := y.Numbers()
			if x.Phase != y.Phase() || x.Over != y.Over() || x.Session != y.Session() || x.In != y.In() || x.OutN != out || x.InN != in || !slices.Equal(x.Sent, y.Sent()) || !slices.Equal(x.Got, y.Got()) || y.Err() != nil || x.Code != api.OK {
				t.Errorf("session %d behind unit %d: %+v", i, from, x)
			}
		}
	}
	for _, i := range []int{-1, 2, 3, math.MinInt, math.MaxInt} {
		if x, is := w.Look(i); is || x.Session != 0 || x.Conf.Software != "" || x.Phase != 0 {
			t.Errorf("session %d: %+v", i, x)
		}
	}
}

// again returns a session like the session i, which has taken all that the other one sent up to a unit.
func again(t *testing.T, w *world.World, i, last int) *peer.Peer {
	t.Helper()
	p, err := peer.New(w.Arena(), look(t, w, i).Conf, i)
	if err != nil {
		t.Fatalf("New: %v", err)
	}
	p.Start()
	for _, x := range w.Sent()[:last+1] {
		if x.Session != i {
			p.Feed(x.Unit.Bytes)
		}
	}
	return p
}

// roll is a row of numbers that only looks random.
type roll uint32

func (r *roll) next(n int) int {
	*r = *r*1664525 + 1013904223
	return int(uint32(*r)>>8) % n
}

// 29.5, 30.3: whatever steps are performed, what is recorded only grows, sessions end once, and what
// is sent sealed has consecutive numbers.
func TestGrowth(t *testing.T) {
	for seed := range roll(150) {
		r := seed
		w := with(t, true, false)
		old := all(w)
		for range 60 {
			to := r.next(2)
			x := api.Step{Kind: api.StPass, To: to, Who: next(w, to)}
			switch r.next(24) {
			case 0:
				x.Kind = api.StRekey
			case 1:
				x.Kind, x.Text = api.StSay, "roll"
			case 2:
				x.Who = r.next(len(w.Sent()))
			case 3:
				x.Kind, x.Who = api.StTake, r.next(api.MaxPeople)
			case 4:
				x.Kind, x.Ops = api.StPlain, []api.Op{{Kind: api.OpSent, A: r.next(len(w.Sent()))}}
			}
			w.Do(x)
			now := all(w)
			wantGrown(t, old, now)
			old = now
		}
		wantUnits(t, w)
	}
}

// next returns the first unit that the session has not got yet: packets are counted, and the line is
// the only one ahead of them.
func next(w *world.World, to int) int {
	x, _ := w.Look(to)
	got := int(x.InN)
	if x.Phase != api.PhLine {
		got++
	}
	for i, s := range w.Sent() {
		if s.Session != to {
			if got == 0 {
				return i
			}
			got--
		}
	}
	return api.None
}

func wantGrown(t *testing.T, old, now picture) {
	t.Helper()
	if !slices.Equal(old.known, now.known[:len(old.known)]) || !slices.Equal(old.sent, now.sent[:len(old.sent)]) || !slices.Equal(old.events, now.events[:len(old.events)]) || !slices.Equal(old.terms, now.terms[:len(old.terms)]) {
		t.Fatalf("something was forgotten")
	}
	for i, x := range old.looks {
		if x.Phase != api.PhDead {
			continue
		}
		if !sameLook(x, now.looks[i]) {
			t.Fatalf("session %d has gone on: %+v", i, now.looks[i])
		}
		for _, s := range now.sent[len(old.sent):] {
			if s.Session == i {
				t.Fatalf("session %d has sent something", i)
			}
		}
		for _, e := range now.events[len(old.events):] {
			if e.Session == i && e.Kind != api.EvTaken {
				t.Fatalf("session %d: %+v", i, e)
			}
		}
	}
}

// 30.2: the arena is the one of all terms.
func TestArena(t *testing.T) {
	w := with(t, true)
	a := w.Arena()
	if w.Terms()[0] != a.Data("SSH-2.0-plain") || w.Known()[3] != a.Pub(a.Key(3)) {
		t.Errorf("%v", w.Terms())
	}
}
