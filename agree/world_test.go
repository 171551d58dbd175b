package agree_test

import (
	"slices"
	"testing"

	"shibboleth/agree"
	"shibboleth/api"
	"shibboleth/conf"
	"shibboleth/keys"
	"shibboleth/payload"
	"shibboleth/recipe"
	"shibboleth/secret"
	"shibboleth/sign"
	"shibboleth/trans"
	"shibboleth/trust"
	"shibboleth/world"
)

// The sessions of the worlds here: two servers, and three clients, of which two want the same host.
const hosts = 2

func open(t *testing.T, r *roll) *world.World {
	t.Helper()
	w := world.New()
	for i := range hosts {
		c := conf.Plain(true, i)
		c.Grants = []api.Grant{{User: "user", Who: 8}, {User: "user", Who: 9}}
		if !w.Do(api.Step{Conf: c}) {
			t.Fatalf("no server")
		}
	}
	for i := range 3 {
		c := conf.Plain(false, i%hosts)
		c.User, c.Keys, c.Guess = "user", []int{10, 8 + i%2}, r.next(2) == 0
		c.Prefs.Kex = []string{c.Prefs.Kex[r.next(len(c.Prefs.Kex))]}
		if !w.Do(api.Step{Conf: c}) {
			t.Fatalf("no client")
		}
	}
	return w
}

// An eavesdropper passes units in order between a client and a server, except when it does
// something else.
type eavesdropper struct {
	w      *world.World
	r      *roll
	ends   map[int]int // by a client: the server to which it is connected; and back
	passed map[int]int // by a session: how many units from its other end were passed to it
}

// next returns the number of the next unit for a session, None if there is none.
func (x *eavesdropper) next(to int) int {
	n := x.passed[to]
	for i, s := range x.w.Sent() {
		if s.Session == x.ends[to] {
			if n == 0 {
				return i
			}
			n--
		}
	}
	return api.None
}

// pass passes the next unit for a session.
func (x *eavesdropper) pass(to int) {
	if i := x.next(to); i != api.None {
		x.passed[to]++
		x.w.Do(api.Step{Kind: api.StPass, To: to, Who: i})
	}
}

// forge delivers to a session, instead of the next unit, one like it in which something is replaced.
func (x *eavesdropper) forge(to int) {
	a, i := x.w.Arena(), x.next(to)
	if i == api.None {
		return
	}
	kind, term := api.StPlain, x.w.Terms()[i]
	v, _ := a.View(term)
	if v.Kind == api.TmSeal {
		kind = api.StSealed
	}
	if len(v.Args) == 0 {
		return
	}
	own := a.Nonce(0, x.r.next(2))
	other, _ := a.View(x.w.Terms()[x.r.next(len(x.w.Terms()))])
	choice := append(other.Args, a.Exp(a.Base("curve25519"), own), a.Data("x"), a.Pub(a.Key(x.r.next(3))))
	v.Args[x.r.next(len(v.Args))] = choice[x.r.next(len(choice))]
	if v.Kind == api.TmSeal {
		term = a.Seal(v.Args[0], uint32(v.B), v.Args[1])
	} else {
		term = a.List(v.Args...)
	}
	ops, is := secret.New(a, x.w.Known(), x.w.Terms()).How(term)
	if is && recipe.Right(ops) {
		x.passed[to]++
		x.w.Do(api.Step{Kind: kind, To: to, Ops: ops})
	}
}

func (x *eavesdropper) act(calm bool) {
	to := x.r.next(x.w.Sessions())
	switch n := x.r.next(60); {
	case n == 0:
		x.w.Do(api.Step{Kind: api.StRekey, To: to})
	case n == 1:
		x.w.Do(api.Step{Kind: api.StSay, To: to, Text: "said"})
	case n == 2:
		x.w.Do(api.Step{Kind: api.StTake, Who: x.r.next(api.MaxPeople)})
	case n == 3 && !calm:
		x.w.Do(api.Step{Kind: api.StPass, To: to, Who: x.r.next(len(x.w.Sent()))})
	case n == 4 && !calm:
		x.w.Do(api.Step{Kind: api.StBad, To: to})
	case n < 8 && !calm:
		x.forge(to)
	default:
		x.pass(to)
	}
}

// P2 to P6: whatever an eavesdropper does, no rule is violated, secrets stay secret, and what one of
// two partners opens is what the other one has sealed.
func TestWorlds(t *testing.T) {
	seen, safe, opened := map[int]int{}, 0, 0
	for seed := range 60 {
		r := roll(seed)
		x := eavesdropper{w: open(t, &r), r: &r, passed: map[int]int{}, ends: map[int]int{0: 2, 1: 3, 2: 0, 3: 1, 4: 0}}
		if seed%5 == 0 {
			x.ends[0] = 4
		}
		for range 220 {
			x.act(seed%2 == 0)
		}
		l := x.w.Events()
		if err := agree.Check(l); err != nil {
			t.Fatalf("seed %d: %v: %+v", seed, err, l)
		}
		for _, e := range l {
			seen[e.Kind]++
		}
		safe += wantSecrets(t, x.w)
		opened += wantChannels(t, x.w)
	}
	for kind := api.EvRunning; kind <= api.EvTaken; kind++ {
		if seen[kind] < 10 {
			t.Errorf("%d events of kind %d", seen[kind], kind)
		}
	}
	if safe < 60 || opened < 300 {
		t.Errorf("%d safe sessions, %d payloads", safe, opened)
	}
}

// wantSecrets checks that the secrets of safe sessions are no use to anybody, even if all keys are
// compromised, and returns how many such sessions there are.
func wantSecrets(t *testing.T, w *world.World) int {
	t.Helper()
	safe := 0
	l := w.Events()
	for who := range api.MaxPeople {
		w.Do(api.Step{Kind: api.StTake, Who: who})
	}
	m := secret.New(w.Arena(), w.Known(), w.Terms())
	for i := range w.Sessions() {
		if !trust.Good(l, i) {
			continue
		}
		safe++
		for _, d := range trust.Keys(l, i) {
			if m.Can(d.K) || m.Can(d.Up) || m.Can(d.Down) {
				t.Fatalf("session %d: %+v can be constructed", i, d)
			}
		}
	}
	return safe
}

// wantChannels checks what partners have opened, and returns how much that is.
func wantChannels(t *testing.T, w *world.World) int {
	t.Helper()
	opened := 0
	for i := range w.Sessions() {
		for _, k := range trust.Partners(w.Events(), i) {
			x, _ := w.Look(i)
			y, _ := w.Look(k)
			if len(y.Got) > len(x.Sent) || !slices.Equal(y.Got, x.Sent[:len(y.Got)]) {
				t.Fatalf("sessions %d and %d: %q, %q", i, k, x.Sent, y.Got)
			}
			opened += len(y.Got)
		}
	}
	return opened
}

// A middle is an adversary between the server 0 and the client 1, who has an exchange with each.
type middle struct {
	t      *testing.T
	w      *world.World
	client api.Done
	server api.Done
	passed int
}

func (x *middle) do(what string, s api.Step) {
	x.t.Helper()
	if !x.w.Do(s) {
		x.t.Fatalf("%s: ill-formed", what)
	}
}

// send delivers a term to a session, if there is a recipe for it.
func (x *middle) send(kind, to int, term api.ID) bool {
	x.t.Helper()
	ops, is := secret.New(x.w.Arena(), x.w.Known(), x.w.Terms()).How(term)
	if is {
		x.do("send", api.Step{Kind: kind, To: to, Ops: ops})
	}
	return is
}

// begin passes versions and initializations, and replaces the client's share, or the server's.
func begin(t *testing.T, host int) *middle {
	t.Helper()
	x := &middle{t: t, w: world.New()}
	x.do("server", api.Step{Conf: conf.Plain(true, host)})
	x.do("client", api.Step{Conf: conf.Plain(false, host)})
	for i := range 4 {
		x.do("pass", api.Step{Kind: api.StPass, Who: i, To: 1 - x.w.Sent()[i].Session})
	}
	a := x.w.Arena()
	own := a.Exp(a.Base("curve25519"), a.Nonce(0, 0))
	first, _ := a.View(x.w.Terms()[4])
	if !x.send(api.StPlain, 0, a.List(first.Args[0], own)) || len(x.w.Events()) != 1 {
		t.Fatalf("events: %+v", x.w.Events())
	}
	x.server = x.w.Events()[0].Done
	ic, _ := payload.Bytes(a, x.w.Terms()[3])
	is, _ := payload.Bytes(a, x.w.Terms()[1])
	p := trans.Parts{VC: x.server.VC, VS: x.server.VS, IC: ic, IS: is, Key: a.Pub(a.Key(host)), E: first.Args[1], F: own, K: a.Exp(first.Args[1], a.Nonce(0, 0))}
	h := trans.Hash(a, p)
	x.client = api.Done{Hash: h, K: p.K}
	x.client.Up, x.client.Down = keys.Both(a, p.K, h, h)
	return x
}

// reply sends the client what its host would answer, if the adversary can sign it.
func (x *middle) reply(host int) bool {
	a := x.w.Arena()
	return x.send(api.StPlain, 1, a.List(a.Data("\x1f"), a.Pub(a.Key(host)), a.Exp(a.Base("curve25519"), a.Nonce(0, 0)), sign.Host(a, "ssh-ed25519", host, x.client.Hash)))
}

// relay opens what was sent sealed, and seals it for the other one.
func (x *middle) relay() {
	x.t.Helper()
	a := x.w.Arena()
	for ; x.passed < len(x.w.Sent()); x.passed++ {
		from := x.w.Sent()[x.passed].Session
		v, _ := a.View(x.w.Terms()[x.passed])
		key := x.server.Up
		if from == 0 {
			key = x.client.Down
		}
		if v.Kind == api.TmSeal && !x.send(api.StSealed, 1-from, a.Seal(key, uint32(v.B), v.Args[1])) {
			x.t.Fatalf("unit %d can't be opened", x.passed)
		}
	}
}

// P2, P3: with the key of the host, an adversary can be in the middle, where it knows all; but what
// the user signs is of no use with the server.
func TestMiddle(t *testing.T) {
	const host = 1
	x := begin(t, host)
	a := x.w.Arena()
	x.do("take", api.Step{Kind: api.StTake, Who: host})
	if !x.reply(host) {
		t.Fatalf("no signature")
	}
	for to := range 2 {
		if !x.send(api.StPlain, to, a.List(a.Data("\x15"))) {
			t.Fatalf("no new keys")
		}
	}
	x.relay()
	l := x.w.Events()
	kinds := map[int]int{}
	for _, e := range l {
		kinds[e.Kind]++
	}
	if kinds[api.EvRunning] != 1 || kinds[api.EvCommit] != 1 || kinds[api.EvRequest] == 0 || kinds[api.EvAccept] != 0 || kinds[api.EvLet] != 0 {
		t.Errorf("events: %+v", l)
	}
	if err := agree.Check(l); err != nil || trust.Good(l, 1) || len(trust.Partners(l, 1)) != 0 {
		t.Errorf("%v, %v, %v", err, trust.Good(l, 1), trust.Partners(l, 1))
	}
	m := secret.New(a, x.w.Known(), x.w.Terms())
	for _, d := range slices.Concat(trust.Keys(l, 0), trust.Keys(l, 1)) {
		if !m.Can(d.K) || !m.Can(d.Up) || !m.Can(d.Down) {
			t.Errorf("%+v is unknown", d)
		}
	}
	if m.Can(a.Key(8)) {
		t.Errorf("the user's key is known")
	}
}

// P2: without that key, there is no such place: whatever the client gets, it does not commit.
func TestNoMiddle(t *testing.T) {
	const host = 1
	x := begin(t, host)
	if x.reply(host) {
		t.Fatalf("a signature")
	}
	// The server's own reply is to another share.
	x.do("pass", api.Step{Kind: api.StPass, Who: 5, To: 1})
	l := x.w.Events()
	if err := agree.Check(l); err != nil || len(trust.Safes(l)) != 0 || len(trust.Keys(l, 1)) != 0 {
		t.Errorf("%v: %+v", err, l)
	}
	if look, _ := x.w.Look(1); look.Phase != api.PhDead || look.Code != api.ErrHost {
		t.Errorf("%+v", look)
	}
}
