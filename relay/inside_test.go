package relay

import (
	"testing"

	"shibboleth/api"
	"shibboleth/conf"
	"shibboleth/prefs"
	"shibboleth/secret"
	"shibboleth/trust"
)

// What was sent is not told, so that it is looked at here what can be made of it.

// P4: somebody who only listens has no secret of any exchange, not even with all keys, later.
func TestSecrets(t *testing.T) {
	for method := api.MeCurve; method <= api.MeGex; method++ {
		client, server := conf.Plain(false, 1), conf.Plain(true, 1)
		client.Prefs.Kex, client.Guess = []string{prefs.Name(method)}, method != api.MeEcdh
		x, err := New(client, server)
		if err != nil {
			t.Fatalf("New: %v", err)
		}
		for i := range 3 {
			x.Drain(nil)
			x.Rekey(i%2 == 0)
			x.Say(true, "said")
		}
		x.Drain(nil)
		l := x.Events()
		for who := range api.MaxPeople {
			x.world.Do(api.Step{Kind: api.StTake, Who: who})
		}
		m := secret.New(x.world.Arena(), x.world.Known(), x.world.Terms())
		for session := range 2 {
			if !trust.Good(l, session) || len(trust.Partners(l, session)) != 1 || len(trust.Keys(l, session)) != 4 {
				t.Errorf("session %d: %+v", session, l)
			}
			for _, d := range trust.Keys(l, session) {
				if m.Can(d.K) || m.Can(d.Up) || m.Can(d.Down) {
					t.Errorf("session %d: %+v can be constructed", session, d)
				}
			}
		}
	}
}

// 34.1: the server is the session 0, the client the session 1.
func TestSessions(t *testing.T) {
	x, err := New(conf.Plain(false, 1), conf.Plain(true, 1))
	if err != nil {
		t.Fatalf("New: %v", err)
	}
	zero, _ := x.world.Look(0)
	one, _ := x.world.Look(1)
	if x.world.Sessions() != 2 || !zero.Conf.Server || one.Conf.Server || x.Look(true).Conf.Server != true || x.Look(false).Conf.Server {
		t.Errorf("%d sessions, %v, %v", x.world.Sessions(), zero.Conf.Server, one.Conf.Server)
	}
}
