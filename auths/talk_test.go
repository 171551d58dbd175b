package auths_test

import (
	"slices"
	"testing"

	"shibboleth/api"
	"shibboleth/authc"
	"shibboleth/auths"
	"shibboleth/conf"
	"shibboleth/fault"
	"shibboleth/term"
)

// A talk is what came of a client and a server that talk to each other.
type talk struct {
	client *authc.Client
	server *auths.Server
	events []api.Event
	wrong  [2]api.Errno // the client's and the server's
}

// converse lets a client and a server talk until both are silent or one has failed.
func converse(t *testing.T, a *term.Arena, cc, sc api.Conf, sid api.ID, told ...string) talk {
	t.Helper()
	x, e := authc.New(a, cc, sid)
	y, f := auths.New(a, sc, sid)
	if e != nil || f != nil {
		t.Fatalf("New: %v, %v", e, f)
	}
	up, e := x.Start()
	for _, s := range told {
		_, _, e = x.Take(s)
	}
	k := talk{client: x, server: y}
	for len(up) == 1 && e == nil {
		down, events, f := y.Take(up[0])
		k.events = append(k.events, events...)
		if k.wrong[1] = fault.Code(f); f != nil {
			return k
		}
		up, events, e = x.Take(down[0])
		k.events = append(k.events, events...)
	}
	k.wrong[0] = fault.Code(e)
	return k
}

// 27.4, 28.4: a user is let in by the first of the client's keys that a grant gives, unless there
// were too many failures before; what the one requests is what the other one accepts.
func TestTalk(t *testing.T) {
	for _, c := range []struct {
		keys     []int
		limit    int
		who      int // of the last request, if there was one
		tried    int
		failures int
		wrong    [2]api.Errno
	}{
		{[]int{8}, 1, 8, 1, 0, [2]api.Errno{}},
		{[]int{3, 8}, 1, 3, 1, 0, [2]api.Errno{}},
		{[]int{1, 2, 8, 3}, 3, 8, 3, 2, [2]api.Errno{}},
		{[]int{1, 2, 8, 3}, 2, 0, 2, 2, [2]api.Errno{1: api.ErrAuth}},
		{[]int{1}, 1, 0, 1, 1, [2]api.Errno{1: api.ErrAuth}},
		{[]int{1, 2}, 3, 0, 2, 2, [2]api.Errno{api.ErrAuth, api.OK}},
		{nil, 3, 0, 0, 0, [2]api.Errno{api.ErrAuth, api.OK}},
	} {
		a := term.New()
		sid := a.Hash(a.Data("s"))
		cc := conf.Plain(false, 1)
		cc.Keys, cc.Algs = c.keys, []string{"ssh-c", "ssh-b", alg}
		k := converse(t, a, cc, with(c.limit), sid, payload(t, 7, api.Field{Kind: 'e', L: []string{"server-sig-algs", alg + ",ssh-b"}}))
		in := c.who != 0
		if k.client.In() != in || k.server.In() != in || k.client.Tried() != c.tried || k.server.Failures() != c.failures || k.wrong != c.wrong {
			t.Errorf("%+v: %v, %v, %d, %d, %v", c, k.client.In(), k.server.In(), k.client.Tried(), k.server.Failures(), k.wrong)
		}
		var want []api.Event
		if in {
			request, accept := accepted(sid, "ann", "ssh-b", c.who), accepted(sid, "ann", "ssh-b", c.who)
			let := accept
			request.Kind, let.Kind = api.EvRequest, api.EvLet
			want = []api.Event{request, accept, let}
		}
		if !slices.Equal(k.events, want) {
			t.Errorf("%+v: %+v", c, k.events)
		}
	}
}

// 27.4, 28.4: a request that was signed for one session lets nobody into another one.
func TestOtherSession(t *testing.T) {
	a := term.New()
	one, other := a.Hash(a.Data("s")), a.Hash(a.Data("t"))
	x := serving(t, a, 20, other)
	for _, name := range []string{alg, "ssh-b"} {
		for _, who := range []int{3, 8} {
			wantRefused(t, x, signed(t, a, one, "ann", name, who))
		}
	}
	wantSent(t, x, signed(t, a, other, "ann", alg, 3), letIn, accepted(other, "ann", alg, 3))
}
