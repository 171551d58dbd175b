package census_test

import (
	"math"
	"slices"
	"testing"

	"shibboleth/api"
	"shibboleth/census"
	"shibboleth/fault"
	"shibboleth/trust"
)

// numbers are some that no array of counts has as an index, beside those that one has.
func numbers() []int {
	l := []int{-1, -2, math.MinInt, math.MaxInt, math.MinInt32, math.MaxInt32, 1 << 32, 1<<32 + 1}
	for n := range 20 {
		l = append(l, n)
	}
	return l
}

// place is the index at which n is counted among so many numbers.
func place(n, places int) int {
	if n > 0 && n < places {
		return n
	}
	return 0
}

// 37.1: each kind of event is counted at its own number, all others at 0, and none by anything else
// than what counts.
func TestOfOne(t *testing.T) {
	for _, kind := range numbers() {
		for _, n := range numbers() {
			for _, method := range numbers() {
				want := api.Census{}
				want.Kinds[place(kind, 8)] = 1
				switch kind {
				case api.EvEnd:
					want.Reasons[place(n, 16)] = 1
				case api.EvCommit:
					want.Methods[place(method, 4)] = 1
					want.Safe = 1
				case api.EvAccept:
					want.Safe = 1
				}
				if (kind == api.EvRunning || kind == api.EvCommit) && n != 0 {
					want.Later = 1
				}
				e := api.Event{Kind: kind, Session: 3, Number: n, Who: 4, User: "u", Service: "s", Alg: "a", Sid: 7, Done: api.Done{Method: method}}
				if c := census.Of([]api.Event{e}); c != want {
					t.Fatalf("kind %d, number %d, method %d: %+v, not %+v", kind, n, method, c, want)
				}
			}
		}
	}
	for _, l := range [][]api.Event{nil, {}} {
		if c := census.Of(l); c != (api.Census{}) {
			t.Errorf("no events: %+v", c)
		}
	}
}

// The example of chapter 37.
func TestExample(t *testing.T) {
	c := census.Of([]api.Event{{Kind: api.EvEnd, Number: 2}})
	if c.Kinds[6] != 1 || c.Reasons[2] != 1 {
		t.Errorf("%+v", c)
	}
}

// 37.1: the safe events are those of layer 31.
func TestOfSafe(t *testing.T) {
	commit, accept, taken := api.Event{Kind: api.EvCommit, Who: 1}, api.Event{Kind: api.EvAccept, Who: 8}, api.Event{Kind: api.EvTaken, Who: 1}
	for name, x := range map[string]struct {
		l    []api.Event
		want int
	}{
		"both":                    {[]api.Event{commit, accept}, 2},
		"ahead of a compromise":   {[]api.Event{commit, taken}, 1},
		"behind a compromise":     {[]api.Event{taken, commit}, 0},
		"ahead of it and behind":  {[]api.Event{commit, taken, commit, accept, commit}, 2},
		"another's key":           {[]api.Event{{Kind: api.EvTaken, Who: 2}, commit}, 1},
		"kinds that are not safe": {[]api.Event{{Kind: api.EvRunning}, {Kind: api.EvLet}, {Kind: api.EvRequest}, {Kind: api.EvEnd}}, 0},
	} {
		if c := census.Of(x.l); c.Safe != x.want {
			t.Errorf("%s: %d, not %d", name, c.Safe, x.want)
		}
	}
}

// flat returns all numbers of a census.
func flat(c api.Census) []int {
	return slices.Concat(c.Kinds[:], c.Reasons[:], c.Methods[:], []int{c.Later, c.Safe})
}

// full returns a census whose numbers begin with first, each greater than the one before it by step.
func full(first, step int) api.Census {
	var c api.Census
	for _, n := range places(&c) {
		*n, first = first, first+step
	}
	return c
}

// places returns where all numbers of a census stand, in the order of flat.
func places(c *api.Census) []*int {
	var l []*int
	for i := range c.Kinds {
		l = append(l, &c.Kinds[i])
	}
	for i := range c.Reasons {
		l = append(l, &c.Reasons[i])
	}
	for i := range c.Methods {
		l = append(l, &c.Methods[i])
	}
	return append(l, &c.Later, &c.Safe)
}

// 37.1: sums, which wrap round.
func TestSum(t *testing.T) {
	for _, x := range []struct{ c, d api.Census }{
		{},
		{full(1, 1), api.Census{}},
		{api.Census{}, full(1, 1)},
		{full(1, 1), full(100, 7)},
		{full(-5, 1), full(3, 2)},
		{full(math.MaxInt, 0), full(1, 1)},
		{full(math.MinInt, 1), full(math.MinInt, 0)},
	} {
		c, d := x.c, x.d
		sum, a, b := flat(census.Sum(c, d)), flat(c), flat(d)
		for i := range sum {
			if sum[i] != a[i]+b[i] {
				t.Errorf("number %d: %d and %d: %d", i, a[i], b[i], sum[i])
			}
		}
		if c != x.c || d != x.d {
			t.Errorf("changed")
		}
	}
	if flat(census.Sum(full(math.MaxInt, 0), full(1, 0)))[0] != math.MinInt {
		t.Errorf("does not wrap round")
	}
}

// some is a census that passes, with something at each number.
func some() api.Census {
	c := api.Census{Kinds: [8]int{7, 5, 10, 1, 6, 2, 136, 3}, Methods: [4]int{1, 2, 3, 4}, Later: 15, Safe: 16}
	for i := range c.Reasons {
		c.Reasons[i] = i + 1
	}
	return c
}

// wantCheck checks what is wrong with a census: nothing, or the part with that name.
func wantCheck(t *testing.T, what string, c api.Census, part string) {
	t.Helper()
	err := census.Check(c)
	switch {
	case part == "" && err != nil:
		t.Errorf("%s: %v", what, err)
	case part != "" && (err == nil || err.Error() != "census: "+part+": rule" || fault.Code(err) != api.ErrRule || !slices.Equal(fault.Path(err), []string{"census", part})):
		t.Errorf("%s: %v, not within %s", what, err, part)
	}
}

// with returns the census some after a change.
func with(change func(c *api.Census)) api.Census {
	c := some()
	change(&c)
	return c
}

// 37.3: each condition, at its edges.
func TestCheck(t *testing.T) {
	wantCheck(t, "nothing", api.Census{}, "")
	wantCheck(t, "something", some(), "")
	for what, x := range map[string]struct {
		part   string
		change func(c *api.Census)
	}{
		"an end too many":            {"reasons", func(c *api.Census) { c.Kinds[6]++ }},
		"an end too few":             {"reasons", func(c *api.Census) { c.Kinds[6]-- }},
		"a reason too many":          {"reasons", func(c *api.Census) { c.Reasons[0]++ }},
		"a reason too few":           {"reasons", func(c *api.Census) { c.Reasons[15]-- }},
		"no end":                     {"reasons", func(c *api.Census) { c.Kinds[6] = 0 }},
		"another reason":             {"", func(c *api.Census) { c.Reasons[15]--; c.Reasons[0]++ }},
		"a commit too many":          {"methods", func(c *api.Census) { c.Kinds[2]++ }},
		"a commit too few":           {"methods", func(c *api.Census) { c.Kinds[2]-- }},
		"a method too many":          {"methods", func(c *api.Census) { c.Methods[0]++ }},
		"a method too few":           {"methods", func(c *api.Census) { c.Methods[3]-- }},
		"another method":             {"", func(c *api.Census) { c.Methods[3]--; c.Methods[0]++ }},
		"all exchanges but one":      {"", func(c *api.Census) { c.Later-- }},
		"none of them later":         {"", func(c *api.Census) { c.Later = 0 }},
		"more than all of them":      {"later", func(c *api.Census) { c.Later++ }},
		"a running less":             {"later", func(c *api.Census) { c.Kinds[1]-- }},
		"a running more":             {"", func(c *api.Census) { c.Kinds[1]++ }},
		"no safe one":                {"", func(c *api.Census) { c.Safe = 0 }},
		"more safe ones than all":    {"safe", func(c *api.Census) { c.Safe++ }},
		"an accept less":             {"safe", func(c *api.Census) { c.Kinds[4]-- }},
		"an accept more":             {"", func(c *api.Census) { c.Kinds[4]++ }},
		"as many lets":               {"", func(c *api.Census) { c.Kinds[3], c.Kinds[5], c.Kinds[7], c.Kinds[0] = 0, 0, 0, 0 }},
		"lets do not make up":        {"safe", func(c *api.Census) { c.Kinds[4]--; c.Kinds[5]++; c.Kinds[3]++ }},
		"commits count for both":     {"", func(c *api.Census) { c.Kinds[2]++; c.Methods[2]++; c.Later++; c.Safe++ }},
		"a commit that is not later": {"", func(c *api.Census) { c.Kinds[2]++; c.Methods[2]++ }},
	} {
		wantCheck(t, what, with(x.change), x.part)
	}
}

// 37.3: no number may be negative; the part that is named first is told, whatever is wrong beside.
func TestCheckNegative(t *testing.T) {
	var c api.Census
	for i := range places(&c) {
		part := "safe"
		switch {
		case i < 8:
			part = "kinds"
		case i < 8+16:
			part = "reasons"
		case i < 8+16+4:
			part = "methods"
		case i == 8+16+4:
			part = "later"
		}
		for _, n := range []int{-1, -2, math.MinInt} {
			x := some()
			*places(&x)[i] = n
			wantCheck(t, "number "+part, x, part)
			// All that is told later is wrong, too.
			for _, p := range places(&x)[i:] {
				*p = n
			}
			wantCheck(t, "numbers from "+part, x, part)
		}
	}
	// What is negative is not made up for by something else.
	wantCheck(t, "reasons", with(func(c *api.Census) { c.Reasons[1] -= 8; c.Reasons[2] += 8 }), "reasons")
	wantCheck(t, "methods", with(func(c *api.Census) { c.Methods[1] -= 8; c.Methods[2] += 8 }), "methods")
}

// 37.3: sums that are no int are no less than what they are.
func TestCheckGreat(t *testing.T) {
	c := api.Census{}
	c.Reasons[1], c.Reasons[2], c.Reasons[3] = math.MaxInt, math.MaxInt, 2
	wantCheck(t, "reasons that come to 0 in 64 bits", c, "reasons")
	c = api.Census{}
	c.Methods[1], c.Methods[2], c.Methods[3] = math.MaxInt, math.MaxInt, 2
	wantCheck(t, "methods that come to 0 in 64 bits", c, "methods")
	c = api.Census{}
	c.Kinds[1], c.Kinds[2], c.Kinds[4], c.Methods[0] = math.MaxInt, math.MaxInt, math.MaxInt, math.MaxInt
	c.Later, c.Safe = math.MaxInt, math.MaxInt
	wantCheck(t, "more exchanges than an int", c, "")
	c.Kinds[1], c.Kinds[4] = 0, 0
	wantCheck(t, "as many as an int", c, "")
	c.Kinds[2]--
	c.Methods[0]--
	wantCheck(t, "one too many", c, "later")
	c.Later--
	wantCheck(t, "one too many", c, "safe")
}

// roll is a sequence of pseudo-random numbers.
type roll uint32

func (r *roll) next(n int) int {
	*r = *r*1664525 + 1013904223
	return int(uint32(*r)>>8) % n
}

// history is a list of events of few sessions, principals and names.
func (r *roll) history(taken bool) []api.Event {
	var l []api.Event
	for range r.next(30) {
		e := api.Event{Kind: r.next(10) - 1, Session: r.next(5) - 1, Number: r.next(19) - 1, Who: r.next(3)}
		if r.next(2) == 0 {
			e.Number = 0
		}
		if e.Kind == api.EvTaken && !taken {
			e.Kind = api.EvEnd
		}
		name := func() string { return []string{"", "a", "b", "\xff", "A"}[r.next(5)] }
		e.Done = api.Done{Method: r.next(6) - 1, Choice: api.Choice{Kex: name(), Host: name(), EncC: name(), EncS: name(), MacC: name(), MacS: name(), CompC: name(), CompS: name()}}
		l = append(l, e)
	}
	return l
}

// 37.4: the census of every list passes, and that of two lists is the sum of both, if no key is
// compromised in the first one.
func TestHistories(t *testing.T) {
	r := roll(37)
	differ := 0
	for range 3000 {
		l, more := r.history(r.next(2) == 0), r.history(true)
		all := slices.Concat(l, more)
		c, d := census.Of(l), census.Of(more)
		for _, x := range []api.Census{c, d, census.Of(all)} {
			if err := census.Check(x); err != nil {
				t.Fatalf("%v: %+v", err, x)
			}
		}
		sum := census.Sum(c, d)
		if c.Kinds[api.EvTaken] == 0 && sum != census.Of(all) {
			t.Fatalf("%+v, not %+v, of %+v and %+v", census.Of(all), sum, l, more)
		}
		if sum != census.Of(all) {
			differ++
			if sum.Safe = census.Of(all).Safe; sum != census.Of(all) {
				t.Fatalf("not only safe events differ: %+v, %+v", census.Of(all), sum)
			}
		}
		if census.Of(all).Safe != len(trust.Safes(all)) {
			t.Fatalf("safe events: %+v", all)
		}
	}
	if differ == 0 {
		t.Errorf("no sum differs")
	}
}
