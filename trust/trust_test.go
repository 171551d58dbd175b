package trust_test

import (
	"math"
	"slices"
	"testing"

	"shibboleth/api"
	"shibboleth/trust"
)

func taken(who int) api.Event {
	return api.Event{Kind: api.EvTaken, Who: who}
}

func running(session, number int, d api.Done) api.Event {
	return api.Event{Kind: api.EvRunning, Session: session, Number: number, Who: 1, Done: d}
}

func commit(session, number int, d api.Done) api.Event {
	return api.Event{Kind: api.EvCommit, Session: session, Number: number, Who: 1, Done: d}
}

// numbers are some that are no index, no principal and no session of any history here.
func numbers() []int {
	return []int{-1, -2, api.MaxPeople, math.MinInt, math.MaxInt, math.MaxInt32 + 1}
}

// kinds are all kinds of events, and some that there are none of.
func kinds() []int {
	return []int{api.EvRunning, api.EvCommit, api.EvRequest, api.EvAccept, api.EvLet, api.EvEnd, api.EvTaken, 0, 8, -1, math.MinInt, math.MaxInt}
}

// 31.1: where a key was compromised first.
func TestTakenAt(t *testing.T) {
	for name, x := range map[string]struct {
		l    []api.Event
		who  int
		want int
	}{
		"nothing":             {nil, 0, api.None},
		"an empty history":    {[]api.Event{}, 3, api.None},
		"never":               {[]api.Event{taken(1), taken(2)}, 3, api.None},
		"at the first event":  {[]api.Event{taken(3), taken(2)}, 3, 0},
		"at the last event":   {[]api.Event{taken(1), taken(2), taken(3)}, 3, 2},
		"twice":               {[]api.Event{taken(1), taken(3), taken(2), taken(3)}, 3, 1},
		"principal 0":         {[]api.Event{taken(1), taken(0)}, 0, 1},
		"a negative one":      {[]api.Event{taken(1), taken(-4)}, -4, 1},
		"one beyond the last": {[]api.Event{taken(1), taken(16)}, 16, 1},
		"other sessions":      {[]api.Event{{Kind: api.EvTaken, Session: 3, Number: 3, Who: 2}}, 3, api.None},
		"with all fields":     {[]api.Event{{}, {Kind: api.EvTaken, Session: 4, Number: 1, Who: 3, User: "ann"}}, 3, 1},
	} {
		if at := trust.TakenAt(x.l, x.who); at != x.want {
			t.Errorf("%s: %d, not %d", name, at, x.want)
		}
	}
	l := []api.Event{taken(0), taken(1)}
	for _, who := range numbers() {
		if at := trust.TakenAt(l, who); at != api.None {
			t.Errorf("TakenAt %d: %d", who, at)
		}
	}
	for _, kind := range kinds() {
		at := trust.TakenAt([]api.Event{{Kind: kind, Who: 3}}, 3)
		if (at == 0) != (kind == api.EvTaken) || at != 0 && at != api.None {
			t.Errorf("TakenAt, kind %d: %d", kind, at)
		}
	}
}

// 31.1: a key is kept up to the event by which it is compromised, that one included.
func TestKept(t *testing.T) {
	l := []api.Event{{}, taken(3), {}, taken(3), taken(0)}
	for _, x := range []struct {
		who, at int
		want    bool
	}{
		{3, 0, true}, {3, 1, true}, {3, 2, false}, {3, 3, false}, {3, 5, false}, {3, 6, false},
		{3, -1, true}, {3, math.MinInt, true}, {3, math.MaxInt, false},
		{0, 4, true}, {0, 5, false}, {0, 99, false},
		{1, 0, true}, {1, 5, true}, {1, math.MaxInt, true}, {-1, math.MaxInt, true}, {16, math.MaxInt, true},
	} {
		if trust.Kept(l, x.who, x.at) != x.want {
			t.Errorf("Kept %d, %d: not %v", x.who, x.at, x.want)
		}
	}
	for _, at := range append(numbers(), 0, 1) {
		if !trust.Kept(nil, 0, at) || trust.Kept([]api.Event{taken(0)}, 0, at) != (at <= 0) {
			t.Errorf("Kept at %d", at)
		}
	}
}

// 31.1: only commits and accepts are safe, each as long as its own key is not compromised.
func TestSafe(t *testing.T) {
	for _, kind := range kinds() {
		e := api.Event{Kind: kind, Session: 2, Who: 3}
		may := kind == api.EvCommit || kind == api.EvAccept
		for name, x := range map[string]struct {
			l    []api.Event
			at   int
			want bool
			good bool
		}{
			"alone":                      {[]api.Event{e}, 0, may, may},
			"compromised afterwards":     {[]api.Event{e, taken(3)}, 0, may, may},
			"compromised just before":    {[]api.Event{{}, taken(3), e}, 2, false, false},
			"compromised at first":       {[]api.Event{taken(3), {}, {}, e}, 3, false, false},
			"before and afterwards":      {[]api.Event{taken(3), e, taken(3)}, 1, false, false},
			"another key is compromised": {[]api.Event{taken(2), taken(4), taken(0), e}, 3, may, may},
			"again, after it was":        {[]api.Event{e, taken(3), e}, 2, false, may},
			"the compromise itself":      {[]api.Event{e, taken(3)}, 1, false, may},
		} {
			if trust.Safe(x.l, x.at) != x.want {
				t.Errorf("kind %d, %s: not %v", kind, name, x.want)
			}
			if trust.Good(x.l, 2) != x.good {
				t.Errorf("kind %d, %s: Good: not %v", kind, name, x.good)
			}
		}
	}
	l := []api.Event{commit(1, 0, api.Done{})}
	for _, at := range append(numbers(), 1) {
		if trust.Safe(l, at) || trust.Safe(nil, at) {
			t.Errorf("Safe at %d", at)
		}
	}
	if trust.Safe(nil, 0) {
		t.Errorf("Safe in nothing")
	}
}

// 31.1: the safe events, in order, and the sessions that have one.
func TestSafesAndGood(t *testing.T) {
	l := []api.Event{
		running(0, 0, api.Done{}),
		commit(1, 0, api.Done{}),
		{Kind: api.EvRequest, Session: 1, Who: 8},
		{Kind: api.EvAccept, Session: 0, Who: 8},
		{Kind: api.EvLet, Session: 1, Who: 8},
		taken(1),
		taken(8),
		commit(2, 0, api.Done{}),
		{Kind: api.EvAccept, Session: 3, Who: 8},
		{Kind: api.EvAccept, Session: -7, Who: 9},
		commit(1, 1, api.Done{}),
	}
	if s := trust.Safes(l); !slices.Equal(s, []int{1, 3, 9}) {
		t.Errorf("Safes: %v", s)
	}
	for session, want := range map[int]bool{0: true, 1: true, 2: false, 3: false, 4: false, -7: true, -1: false, math.MaxInt: false} {
		if trust.Good(l, session) != want {
			t.Errorf("Good %d: not %v", session, want)
		}
	}
	if len(trust.Safes(nil)) != 0 || trust.Good(nil, 0) || len(trust.Safes([]api.Event{})) != 0 {
		t.Errorf("an empty history")
	}
}

// 31.2: the first exchange of a session.
func TestFirst(t *testing.T) {
	d, e := api.Done{Hash: 7}, api.Done{Hash: 8}
	for name, x := range map[string]struct {
		l    []api.Event
		want api.Done
		is   bool
	}{
		"nothing":                   {nil, api.Done{}, false},
		"another session's":         {[]api.Event{running(1, 0, d), commit(3, 0, d)}, api.Done{}, false},
		"no exchange":               {[]api.Event{{Kind: api.EvAccept, Session: 2, Done: d}, {Kind: api.EvEnd, Session: 2, Done: d}, {Session: 2, Done: d}}, api.Done{}, false},
		"a later one alone":         {[]api.Event{running(2, 1, d), commit(2, -1, d)}, api.Done{}, false},
		"a running":                 {[]api.Event{running(2, 0, d)}, d, true},
		"a commit":                  {[]api.Event{{}, commit(2, 0, d)}, d, true},
		"a later one ahead":         {[]api.Event{running(2, 1, d), running(2, 0, e)}, e, true},
		"several":                   {[]api.Event{running(2, 0, d), running(2, 0, e), commit(2, 0, e)}, d, true},
		"both kinds":                {[]api.Event{commit(2, 0, e), running(2, 0, d)}, e, true},
		"a result without anything": {[]api.Event{commit(2, 0, api.Done{})}, api.Done{}, true},
	} {
		got, is := trust.First(x.l, 2)
		if got != x.want || is != x.is {
			t.Errorf("%s: %+v, %v", name, got, is)
		}
	}
	if got, is := trust.First([]api.Event{running(-1, 0, d)}, -1); got != d || !is {
		t.Errorf("a negative session: %+v, %v", got, is)
	}
}

// changes are results that differ from d in one field each.
func changes(d api.Done) []api.Done {
	var l []api.Done
	for _, change := range []func(d *api.Done){
		func(d *api.Done) { d.VC += "x" }, func(d *api.Done) { d.VS += "x" },
		func(d *api.Done) { d.IC += "x" }, func(d *api.Done) { d.IS += "x" },
		func(d *api.Done) { d.Choice.Kex += "x" }, func(d *api.Done) { d.Choice.Host += "x" },
		func(d *api.Done) { d.Choice.EncC += "x" }, func(d *api.Done) { d.Choice.EncS += "x" },
		func(d *api.Done) { d.Choice.MacC += "x" }, func(d *api.Done) { d.Choice.MacS += "x" },
		func(d *api.Done) { d.Choice.CompC += "x" }, func(d *api.Done) { d.Choice.CompS += "x" },
		func(d *api.Done) { d.Method++ },
		func(d *api.Done) { d.Wish[0]++ }, func(d *api.Done) { d.Wish[1]++ }, func(d *api.Done) { d.Wish[2]++ },
		func(d *api.Done) { d.Group.P += "x" }, func(d *api.Done) { d.Group.G += "x" },
		func(d *api.Done) { d.Key++ }, func(d *api.Done) { d.E++ }, func(d *api.Done) { d.F++ },
		func(d *api.Done) { d.K++ }, func(d *api.Done) { d.Hash++ }, func(d *api.Done) { d.Session++ },
		func(d *api.Done) { d.Up++ }, func(d *api.Done) { d.Down++ },
	} {
		c := d
		change(&c)
		l = append(l, c)
	}
	return l
}

// 31.2: partners have the same result of their first exchanges, one by a running, one by a commit.
func TestPartners(t *testing.T) {
	d, e := api.Done{VC: "c", Hash: 7}, api.Done{VC: "c", Hash: 8}
	for name, x := range map[string]struct {
		l    []api.Event
		want []int
	}{
		"nothing":                      {nil, nil},
		"no exchange":                  {[]api.Event{commit(3, 0, d), {Kind: api.EvAccept, Session: 2, Done: d}}, nil},
		"a later exchange alone":       {[]api.Event{commit(3, 0, d), running(2, 1, d)}, nil},
		"alone":                        {[]api.Event{running(2, 0, d)}, nil},
		"one":                          {[]api.Event{running(2, 0, d), commit(3, 0, d)}, []int{3}},
		"the other way round":          {[]api.Event{running(3, 0, d), commit(2, 0, d)}, []int{3}},
		"both are runnings":            {[]api.Event{running(2, 0, d), running(3, 0, d)}, nil},
		"both are commits":             {[]api.Event{commit(2, 0, d), commit(3, 0, d)}, nil},
		"itself":                       {[]api.Event{running(2, 0, d), commit(2, 0, d)}, nil},
		"itself, and another one":      {[]api.Event{running(2, 0, d), commit(2, 0, d), commit(1, 0, d), running(0, 0, d)}, []int{1}},
		"another result":               {[]api.Event{running(2, 0, d), commit(3, 0, e)}, nil},
		"a later exchange of another":  {[]api.Event{running(2, 0, d), commit(3, 1, d)}, nil},
		"the second one of another":    {[]api.Event{running(2, 0, d), commit(3, 0, e), commit(3, 0, d)}, nil},
		"a running ahead of a commit":  {[]api.Event{running(2, 0, d), running(3, 0, d), commit(3, 0, d)}, nil},
		"several, in another order":    {[]api.Event{commit(9, 0, d), commit(3, 0, d), running(2, 0, d), commit(-4, 0, d), commit(5, 0, e), commit(0, 0, d)}, []int{-4, 0, 3, 9}},
		"one with several events":      {[]api.Event{running(2, 0, d), commit(3, 0, d), commit(3, 0, d), commit(3, 1, e), commit(1, 0, d)}, []int{1, 3}},
		"their second results differ":  {[]api.Event{running(2, 0, d), commit(3, 0, d), running(2, 0, e), commit(3, 0, d)}, []int{3}},
		"of another host":              {[]api.Event{running(2, 0, d), {Kind: api.EvCommit, Session: 3, Who: 9, Done: d}}, []int{3}},
		"events that are no exchanges": {[]api.Event{running(2, 0, d), {Kind: api.EvLet, Session: 3, Done: d}, {Session: 4, Done: d}, {Kind: api.EvTaken, Done: d}}, nil},
	} {
		if got := trust.Partners(x.l, 2); !slices.Equal(got, x.want) {
			t.Errorf("%s: %v, not %v", name, got, x.want)
		}
	}
	for i, other := range changes(d) {
		l := []api.Event{running(2, 0, d), commit(3, 0, other)}
		if got := trust.Partners(l, 2); len(got) != 0 {
			t.Errorf("results that differ in field %d: %v", i, got)
		}
	}
}

// 31.2: the results of all exchanges, whatever their numbers are.
func TestKeys(t *testing.T) {
	d, e, f := api.Done{Hash: 7}, api.Done{Hash: 8}, api.Done{Hash: 9}
	l := []api.Event{
		running(2, 0, d), commit(3, 0, d), {Kind: api.EvAccept, Session: 2, Done: f}, running(2, 2, e), commit(2, -1, d),
		{Kind: api.EvEnd, Session: 2, Done: f}, {Session: 2, Done: f}, running(2, 0, d),
	}
	if got := trust.Keys(l, 2); !slices.Equal(got, []api.Done{d, e, d, d}) {
		t.Errorf("Keys: %+v", got)
	}
	if got := trust.Keys(l, 3); !slices.Equal(got, []api.Done{d}) {
		t.Errorf("Keys of another one: %+v", got)
	}
	for _, session := range append(numbers(), 0, 1) {
		if len(trust.Keys(l, session)) != 0 || len(trust.Keys(nil, session)) != 0 {
			t.Errorf("Keys of %d", session)
		}
	}
}

// R4: answers are new memory, and the history is left as it is.
func TestMemory(t *testing.T) {
	d := api.Done{Hash: 7}
	l := []api.Event{running(2, 0, d), commit(5, 0, d), commit(3, 0, d), running(2, 1, api.Done{Hash: 8})}
	before := slices.Clone(l)
	safes, partners, keys := trust.Safes(l), trust.Partners(l, 2), trust.Keys(l, 2)
	safes[0], partners[0], keys[0] = 99, 99, api.Done{}
	if !slices.Equal(trust.Safes(l), []int{1, 2}) || !slices.Equal(trust.Partners(l, 2), []int{3, 5}) || trust.Keys(l, 2)[0] != d || !slices.Equal(l, before) {
		t.Errorf("something has changed")
	}
}

// roll is a row of numbers that only looks random.
type roll uint32

func (r *roll) next(n int) int {
	*r = *r*1664525 + 1013904223
	return int(uint32(*r)>>8) % n
}

// history returns a history of a few sessions, principals and results.
func history(r *roll, n int) []api.Event {
	var l []api.Event
	for range n {
		l = append(l, api.Event{Kind: r.next(9), Session: r.next(4), Number: r.next(3) / 2, Who: r.next(3), Done: api.Done{Hash: api.ID(r.next(2))}})
	}
	return l
}

// 31.1, 31.3: an event is safe exactly if it is a commit or an accept and its key was not
// compromised before it, so that it stays safe whatever happens later.
func TestSafeStaysSafe(t *testing.T) {
	r := roll(31)
	for range 300 {
		l := history(&r, 12)
		var safe []int
		for i, e := range l {
			lost := slices.ContainsFunc(l[:i], func(x api.Event) bool { return x.Kind == api.EvTaken && x.Who == e.Who })
			if (e.Kind == api.EvCommit || e.Kind == api.EvAccept) && !lost {
				safe = append(safe, i)
			}
			for n := i + 1; n <= len(l); n++ {
				if trust.Safe(l[:n], i) != slices.Contains(safe, i) {
					t.Fatalf("%+v: event %d is not what it was after %d events", l, i, n)
				}
			}
			if got := trust.Safes(l[:i+1]); !slices.Equal(got, safe) {
				t.Fatalf("%+v: Safes %v, not %v", l[:i+1], got, safe)
			}
		}
		for session := range 5 {
			good := slices.ContainsFunc(safe, func(i int) bool { return l[i].Session == session })
			if trust.Good(l, session) != good {
				t.Fatalf("%+v: Good %d: not %v", l, session, good)
			}
		}
	}
}

// 31.2: being partners is mutual.
func TestPartnersAreMutual(t *testing.T) {
	r := roll(32)
	pairs := 0
	for range 300 {
		l := history(&r, 16)
		for x := range 4 {
			for y := range 4 {
				mine := slices.Contains(trust.Partners(l, x), y)
				if mine != slices.Contains(trust.Partners(l, y), x) {
					t.Fatalf("%+v: %d and %d", l, x, y)
				}
				first, _ := trust.First(l, x)
				other, _ := trust.First(l, y)
				if mine && (x == y || first != other) {
					t.Fatalf("%+v: %d and %d can't be partners", l, x, y)
				}
				if mine {
					pairs++
				}
			}
		}
	}
	if pairs == 0 {
		t.Errorf("there were no partners at all")
	}
}
