package census_test

import (
	"math"
	"slices"
	"testing"

	"shibboleth/api"
	"shibboleth/census"
)

// of returns an event of a session.
func of(session, kind int) api.Event {
	return api.Event{Kind: kind, Session: session, Number: 1, Who: 2}
}

// 37.1: sessions, and the one with the most events.
func TestSessions(t *testing.T) {
	for name, x := range map[string]struct {
		l    []api.Event
		want []int
		busy int
		most int
	}{
		"nothing":                  {nil, nil, 0, 0},
		"no event":                 {[]api.Event{}, nil, 0, 0},
		"a compromise":             {[]api.Event{of(3, api.EvTaken), of(0, api.EvTaken)}, nil, 0, 0},
		"session 0":                {[]api.Event{of(0, api.EvEnd)}, []int{0}, 0, 1},
		"one":                      {[]api.Event{of(5, api.EvEnd), of(5, api.EvLet)}, []int{5}, 5, 2},
		"a kind that is none":      {[]api.Event{of(5, 0), of(2, 8), of(2, -1)}, []int{2, 5}, 2, 2},
		"the greater one":          {[]api.Event{of(1, 1), of(9, 2), of(9, 3)}, []int{1, 9}, 9, 2},
		"the smaller one of two":   {[]api.Event{of(9, 1), of(1, 2), of(9, 3), of(1, 4), of(4, 5)}, []int{1, 4, 9}, 1, 2},
		"negative ones":            {[]api.Event{of(0, 1), of(-3, 2), of(-1, 3)}, []int{-3, -1, 0}, -3, 1},
		"the least and the most":   {[]api.Event{of(math.MaxInt, 1), of(math.MinInt, 2)}, []int{math.MinInt, math.MaxInt}, math.MinInt, 1},
		"compromises do not count": {[]api.Event{of(1, 1), of(1, 7), of(1, 7), of(2, 1), of(2, 6), of(0, 7)}, []int{1, 2}, 2, 2},
	} {
		before := slices.Clone(x.l)
		if got := census.Sessions(x.l); !slices.Equal(got, x.want) {
			t.Errorf("%s: %v, not %v", name, got, x.want)
		}
		if busy, most := census.Busy(x.l); busy != x.busy || most != x.most {
			t.Errorf("%s: %d, %d, not %d, %d", name, busy, most, x.busy, x.most)
		}
		if !slices.Equal(x.l, before) {
			t.Errorf("%s: changed", name)
		}
	}
}

// 37.2: sessions that have ended ahead of an exchange.
func TestLost(t *testing.T) {
	for name, x := range map[string]struct {
		l    []api.Event
		want []int
	}{
		"nothing":                  {nil, nil},
		"no end":                   {[]api.Event{of(1, 1), of(2, 2), of(3, 3), of(4, 0)}, nil},
		"an end":                   {[]api.Event{of(1, 6)}, []int{1}},
		"ends":                     {[]api.Event{of(4, 6), of(-2, 6), of(0, 6), of(3, 6)}, []int{-2, 0, 3, 4}},
		"behind a commit":          {[]api.Event{of(1, 2), of(1, 6)}, nil},
		"behind a running":         {[]api.Event{of(1, 1), of(1, 6)}, nil},
		"behind both, and more":    {[]api.Event{of(1, 1), of(1, 2), of(1, 3), of(1, 6)}, nil},
		"behind another's":         {[]api.Event{of(1, 1), of(2, 2), of(3, 6)}, []int{3}},
		"behind other events":      {[]api.Event{of(1, 3), of(1, 4), of(1, 5), of(1, 7), of(1, 0), of(1, 8), of(1, 6)}, []int{1}},
		"ahead of an exchange":     {[]api.Event{of(1, 6), of(1, 1), of(2, 6), of(2, 2)}, []int{1, 2}},
		"twice":                    {[]api.Event{of(1, 6), of(1, 6)}, []int{1}},
		"ahead, then behind":       {[]api.Event{of(1, 6), of(1, 1), of(1, 6)}, []int{1}},
		"twice behind an exchange": {[]api.Event{of(1, 1), of(1, 6), of(1, 6)}, nil},
		"compromises have no end":  {[]api.Event{of(1, 7), of(1, 1)}, nil},
		"some of each":             {[]api.Event{of(5, 1), of(6, 6), of(5, 6), of(7, 2), of(1, 6), of(7, 6)}, []int{1, 6}},
	} {
		if got := census.Lost(x.l); !slices.Equal(got, x.want) {
			t.Errorf("%s: %v, not %v", name, got, x.want)
		}
	}
}

// literalSessions, literalBusy and literalLost are what the document has, session by session.
func literalSessions(l []api.Event) []int {
	var found []int
	for s := -5; s < 5; s++ {
		if n := eventsOf(l, s); n > 0 {
			found = append(found, s)
		}
	}
	return found
}

func eventsOf(l []api.Event, session int) int {
	n := 0
	for _, e := range l {
		if e.Kind != api.EvTaken && e.Session == session {
			n++
		}
	}
	return n
}

func literalBusy(l []api.Event) (int, int) {
	session, most := 0, 0
	for s := 4; s >= -5; s-- {
		if n := eventsOf(l, s); n > 0 && n >= most {
			session, most = s, n
		}
	}
	return session, most
}

func literalLost(l []api.Event) []int {
	var found []int
	for s := -5; s < 5; s++ {
		end := slices.IndexFunc(l, func(e api.Event) bool { return e.Kind == api.EvEnd && e.Session == s })
		exchange := slices.IndexFunc(l, func(e api.Event) bool {
			return (e.Kind == api.EvRunning || e.Kind == api.EvCommit) && e.Session == s
		})
		if end >= 0 && (exchange < 0 || exchange > end) {
			found = append(found, s)
		}
	}
	return found
}

// 37.1, 37.2: many histories, as the document has it.
func TestManySessions(t *testing.T) {
	r := roll(5)
	for range 3000 {
		l := r.history(true)
		if got := census.Sessions(l); !slices.Equal(got, literalSessions(l)) {
			t.Fatalf("Sessions of %+v: %v", l, got)
		}
		busy, most := census.Busy(l)
		if s, n := literalBusy(l); busy != s || most != n {
			t.Fatalf("Busy of %+v: %d, %d", l, busy, most)
		}
		if got := census.Lost(l); !slices.Equal(got, literalLost(l)) {
			t.Fatalf("Lost of %+v: %v", l, got)
		}
	}
}
