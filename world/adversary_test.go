package world_test

import (
	"testing"

	"shibboleth/api"
	"shibboleth/conf"
	"shibboleth/kexinit"
	"shibboleth/keys"
	"shibboleth/msg"
	"shibboleth/payload"
	"shibboleth/sign"
	"shibboleth/term"
	"shibboleth/trans"
	"shibboleth/world"
)

// cook writes recipes for terms: of what it has got already, and of what anybody can make.
type cook struct {
	t   *testing.T
	a   *term.Arena
	ops []api.Op
	got map[api.ID]int
}

func newCook(t *testing.T, w *world.World) *cook {
	return &cook{t: t, a: w.Arena(), got: map[api.ID]int{}}
}

func (c *cook) add(x api.Op) int {
	c.ops = append(c.ops, x)
	return len(c.ops) - 1
}

// know notes the step that results in a term.
func (c *cook) know(t api.ID, step int) int {
	c.got[t] = step
	return step
}

// term returns the step that results in t.
func (c *cook) term(t api.ID) int {
	c.t.Helper()
	if i, is := c.got[t]; is {
		return i
	}
	v, _ := c.a.View(t)
	var x api.Op
	switch v.Kind {
	case api.TmData:
		x = api.Op{Kind: api.OpData, S: v.S}
	case api.TmHash:
		x = api.Op{Kind: api.OpHash, A: c.term(v.Args[0])}
	case api.TmSig:
		x = api.Op{Kind: api.OpSign, S: v.S, A: c.term(v.Args[0]), B: c.term(v.Args[1])}
	case api.TmDerive:
		x = api.Op{Kind: api.OpDerive, S: string(rune(v.B)), A: c.term(v.Args[0]), B: c.term(v.Args[1]), C: c.term(v.Args[2])}
	case api.TmSeal:
		x = api.Op{Kind: api.OpSeal, A: c.term(v.Args[0]), B: c.term(v.Args[1]), C: v.B}
	case api.TmList:
		return c.list(t, v.Args)
	default:
		c.t.Fatalf("no way to make a term of kind %d", v.Kind)
	}
	return c.know(t, c.add(x))
}

func (c *cook) list(t api.ID, l []api.ID) int {
	c.t.Helper()
	var steps []int
	for _, x := range l {
		steps = append(steps, c.term(x))
	}
	last := c.add(api.Op{Kind: api.OpEmpty})
	for _, i := range steps {
		last = c.add(api.Op{Kind: api.OpAdd, A: last, B: i})
	}
	return c.know(t, last)
}

// recipe returns the recipe of which t is the result.
func (c *cook) recipe(t api.ID) []api.Op {
	c.t.Helper()
	i := c.term(t)
	if len(c.ops) > api.MaxOps {
		c.t.Fatalf("%d steps", len(c.ops))
	}
	return c.ops[:i+1]
}

// fake is a host that the adversary plays to the session 0, a client.
type fake struct {
	t     *testing.T
	w     *world.World
	parts trans.Parts
	hash  api.ID
	up    api.ID
	down  api.ID
}

// begin makes the client send its share: unit 2.
func begin(t *testing.T, w *world.World) *fake {
	t.Helper()
	a := w.Arena()
	server := conf.Plain(true, host)
	ours, err := kexinit.Build(conf.Init(server, 7, 0))
	if err != nil {
		t.Fatalf("Build: %v", err)
	}
	f := &fake{t: t, w: w}
	f.line("SSH-2.0-fake")
	f.send(api.StPlain, payload.Term(a, ours), nil)
	if len(w.Sent()) != 3 {
		t.Fatalf("%d units", len(w.Sent()))
	}
	theirs, _ := payload.Bytes(a, w.Terms()[1])
	share, _ := a.View(w.Terms()[2])
	f.parts = trans.Parts{VC: "SSH-2.0-plain", VS: "SSH-2.0-fake", IC: theirs, IS: ours, Key: a.Pub(a.Key(host)), E: share.Args[1]}
	x := a.Nonce(0, 1)
	f.parts.F = a.Exp(a.Base("curve25519"), x)
	f.parts.K = a.Exp(f.parts.E, x)
	f.hash = trans.Hash(a, f.parts)
	f.up, f.down = keys.Both(a, f.parts.K, f.hash, f.hash)
	return f
}

func (f *fake) line(s string) {
	f.t.Helper()
	want(f.t, "line", f.w, api.Step{Kind: api.StLine, Ops: data(s)}, true)
}

// send delivers a term, of which the recipe may begin with some steps.
func (f *fake) send(kind int, t api.ID, first func(c *cook)) {
	f.t.Helper()
	c := newCook(f.t, f.w)
	if first != nil {
		first(c)
	}
	want(f.t, "send", f.w, api.Step{Kind: kind, Ops: c.recipe(t)}, true)
}

// secrets are what the host's share, the secret and the signature come of.
func (f *fake) secrets(c *cook) {
	a := f.w.Arena()
	nonce := c.add(api.Op{Kind: api.OpNonce, A: 1})
	base := c.add(api.Op{Kind: api.OpBase, S: "curve25519"})
	c.know(f.parts.F, c.add(api.Op{Kind: api.OpExp, A: base, B: nonce}))
	message := c.add(api.Op{Kind: api.OpSent, A: 2})
	theirs := c.know(f.parts.E, c.add(api.Op{Kind: api.OpAt, A: message, B: 1}))
	c.know(f.parts.K, c.add(api.Op{Kind: api.OpExp, A: theirs, B: nonce}))
	c.know(f.parts.Key, c.add(api.Op{Kind: api.OpKnow, A: host}))
	c.know(a.Key(host), c.add(api.Op{Kind: api.OpKnow, A: api.MaxPeople}))
}

// reply is the term of the message 31.
func (f *fake) reply() api.ID {
	a := f.w.Arena()
	return a.List(a.Data("\x1f"), f.parts.Key, f.parts.F, sign.Host(a, "ssh-ed25519", host, f.hash))
}

// 30.1: with the key of a host, an adversary is this host: its recipes make plain packets and sealed
// ones, to which the client listens, and open what this answers.
func TestAdversary(t *testing.T) {
	w := with(t, false)
	f := begin(t, w)
	a := w.Arena()
	want(t, "take", w, api.Step{Kind: api.StTake, Who: host}, true)
	f.send(api.StPlain, f.reply(), f.secrets)
	l := w.Events()
	if len(l) != 2 || l[1].Kind != api.EvCommit || l[1].Who != host || l[1].Done.K != f.parts.K || l[1].Done.Up != f.up || l[1].Done.Down != f.down {
		t.Fatalf("events: %+v", l)
	}
	f.send(api.StPlain, a.List(a.Data("\x15")), nil)
	wantState(t, "finished", w, 0, api.PhOpen, api.OK)
	accept, err := msg.Encode(api.Msg{Num: 6, Fields: []api.Field{{Kind: 's', S: "ssh-userauth"}}})
	if err != nil {
		t.Fatalf("Encode: %v", err)
	}
	n := len(w.Sent())
	f.send(api.StSealed, a.Seal(f.down, 3, payload.Term(a, accept)), f.secrets)
	if x := look(t, w, 0); x.Code != api.OK || len(x.Got) != 1 || x.Got[0] != accept || len(w.Sent()) != n+1 {
		t.Fatalf("sealed: %+v", x)
	}
	// What the client asks is opened with the other key, and comes back to it sealed with its own.
	c := newCook(t, w)
	f.secrets(c)
	up := c.term(f.up)
	down := c.term(f.down)
	sealed := c.add(api.Op{Kind: api.OpSent, A: n})
	opened := c.add(api.Op{Kind: api.OpOpen, A: sealed, B: up})
	c.add(api.Op{Kind: api.OpSeal, A: down, B: opened, C: 4})
	want(t, "reflected", w, api.Step{Kind: api.StSealed, Ops: c.ops}, true)
	if x := look(t, w, 0); x.Code != api.ErrOrder || len(x.Got) != 2 || x.Got[1] != x.Sent[1] || x.Got[1][0] != 50 {
		t.Errorf("reflected: %+v", x)
	}
	want(t, "the wrong number", w, api.Step{Kind: api.StSealed, Ops: c.ops}, true)
}

// 30.1: without that key there is no such recipe, and no other signature will do.
func TestNoAdversary(t *testing.T) {
	w := with(t, false)
	f := begin(t, w)
	c := newCook(t, w)
	f.secrets(c)
	want(t, "an unknown key", w, api.Step{Kind: api.StPlain, Ops: c.recipe(f.reply())}, false)
	want(t, "another key", w, api.Step{Kind: api.StTake, Who: host + 1}, true)
	want(t, "another key", w, api.Step{Kind: api.StPlain, Ops: c.recipe(f.reply())}, true)
	wantState(t, "another key", w, 0, api.PhDead, api.ErrHost)
	for _, e := range w.Events() {
		if e.Kind == api.EvCommit {
			t.Errorf("a commit: %+v", e)
		}
	}
}
