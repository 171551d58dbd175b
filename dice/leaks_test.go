package dice

import (
	"testing"

	"shibboleth/api"
	"shibboleth/secret"
	"shibboleth/term"
)

// 39.2: since nothing leaks of a game, what is counted is tried with histories that no game has.
func TestLeaks(t *testing.T) {
	a := term.New()
	open, hidden := a.Data("x"), a.Nonce(1, 0)
	result := func(k, up, down api.ID) api.Done {
		return api.Done{Key: open, E: open, F: open, Hash: open, Session: open, K: k, Up: up, Down: down}
	}
	event := func(kind, session int, d api.Done) api.Event {
		return api.Event{Kind: kind, Session: session, Who: 1, Done: d}
	}
	commit := func(session int, d api.Done) api.Event { return event(api.EvCommit, session, d) }
	all, none := result(open, open, open), result(hidden, hidden, hidden)
	m := secret.New(a, nil, nil)
	for name, x := range map[string]struct {
		l    []api.Event
		want int
	}{
		"nothing":              {nil, 0},
		"nothing leaks":        {[]api.Event{commit(0, none)}, 0},
		"the secret":           {[]api.Event{commit(0, result(open, hidden, hidden))}, 1},
		"the key up":           {[]api.Event{commit(0, result(hidden, open, hidden))}, 1},
		"the key down":         {[]api.Event{commit(1, result(hidden, hidden, open))}, 1},
		"all three":            {[]api.Event{commit(1, all)}, 3},
		"two exchanges":        {[]api.Event{commit(0, none), commit(0, all)}, 3},
		"two sessions":         {[]api.Event{commit(0, all), commit(1, all)}, 6},
		"a running":            {[]api.Event{event(api.EvRunning, 0, all), commit(1, none)}, 0},
		"a running, an accept": {[]api.Event{event(api.EvRunning, 0, all), event(api.EvAccept, 0, all)}, 3},
		"no exchange":          {[]api.Event{event(api.EvAccept, 0, all)}, 0},
		"of a key that is lost": {
			[]api.Event{event(api.EvTaken, 0, api.Done{}), commit(0, all)}, 0,
		},
		"of a key that is lost later": {
			[]api.Event{commit(0, all), event(api.EvTaken, 0, api.Done{})}, 3,
		},
		"of a session that is not asked for": {[]api.Event{commit(2, all), commit(-1, all)}, 0},
	} {
		if n := leaks(m, x.l, sessions); n != x.want {
			t.Errorf("%s: %d, not %d", name, n, x.want)
		}
	}
}
