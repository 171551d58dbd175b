package census_test

import (
	"math"
	"slices"
	"testing"

	"shibboleth/api"
	"shibboleth/census"
	"shibboleth/conf"
	"shibboleth/world"
)

// agreed is a commit by which these names were agreed on.
func agreed(c api.Choice) api.Event {
	return api.Event{Kind: api.EvCommit, Done: api.Done{Choice: c}}
}

// kexes are commits that agree on these methods' names.
func kexes(names ...string) []api.Event {
	var l []api.Event
	for _, name := range names {
		l = append(l, agreed(api.Choice{Kex: name}))
	}
	return l
}

// 37.2: each list has the names at its index.
func TestNamesOfLists(t *testing.T) {
	l := []api.Event{agreed(api.Choice{Kex: "k", Host: "h", EncC: "ec", EncS: "es", MacC: "mc", MacS: "ms", CompC: "cc", CompS: "cs"})}
	for list, name := range []string{"k", "h", "ec", "es", "mc", "ms", "cc", "cs"} {
		if got := census.Names(l, list); !slices.Equal(got, []api.Tally{{Name: name, N: 1}}) {
			t.Errorf("list %d: %v", list, got)
		}
	}
	for _, list := range []int{-1, -8, 8, 9, math.MinInt, math.MaxInt} {
		if got := census.Names(l, list); len(got) != 0 {
			t.Errorf("list %d: %v", list, got)
		}
	}
	for list := range 8 {
		for _, l := range [][]api.Event{nil, {}} {
			if got := census.Names(l, list); len(got) != 0 {
				t.Errorf("no events: %v", got)
			}
		}
	}
}

// 37.2: only commits count.
func TestNamesOfKinds(t *testing.T) {
	for _, kind := range numbers() {
		e := agreed(api.Choice{Kex: "k"})
		e.Kind = kind
		if got := census.Names([]api.Event{e}, 0); len(got) != map[bool]int{true: 1}[kind == api.EvCommit] {
			t.Errorf("kind %d: %v", kind, got)
		}
	}
}

// 37.2: the most frequent names first, and of those that are as frequent, the smallest one.
func TestOrderOfTallies(t *testing.T) {
	for _, x := range []struct {
		names []string
		want  []api.Tally
	}{
		{[]string{"a"}, []api.Tally{{Name: "a", N: 1}}},
		{[]string{"b", "a", "b"}, []api.Tally{{Name: "b", N: 2}, {Name: "a", N: 1}}},
		{[]string{"a", "b", "a"}, []api.Tally{{Name: "a", N: 2}, {Name: "b", N: 1}}},
		{[]string{"b", "c", "a"}, []api.Tally{{Name: "a", N: 1}, {Name: "b", N: 1}, {Name: "c", N: 1}}},
		{[]string{"ab", "a", "b", "", "aa"}, []api.Tally{{Name: "", N: 1}, {Name: "a", N: 1}, {Name: "aa", N: 1}, {Name: "ab", N: 1}, {Name: "b", N: 1}}},
		// Bytes are compared, not letters, nor runes.
		{[]string{"a", "B", "\xff", "\u00e9", "\x00", "~"}, []api.Tally{{Name: "\x00", N: 1}, {Name: "B", N: 1}, {Name: "a", N: 1}, {Name: "~", N: 1}, {Name: "\u00e9", N: 1}, {Name: "\xff", N: 1}}},
		{[]string{"c", "x", "b", "c", "x", "a", "x", "b", "y", "", ""}, []api.Tally{{Name: "x", N: 3}, {Name: "", N: 2}, {Name: "b", N: 2}, {Name: "c", N: 2}, {Name: "a", N: 1}, {Name: "y", N: 1}}},
	} {
		for range 5 {
			if got := census.Names(kexes(x.names...), 0); !slices.Equal(got, x.want) {
				t.Errorf("%q: %v, not %v", x.names, got, x.want)
			}
		}
	}
}

// 37.2: names, and how often there are some, as the document has it.
func TestManyNames(t *testing.T) {
	r := roll(11)
	for range 2000 {
		l := r.history(true)
		for list := range 8 {
			var all []string
			for _, e := range l {
				if e.Kind == api.EvCommit {
					c := e.Done.Choice
					all = append(all, []string{c.Kex, c.Host, c.EncC, c.EncS, c.MacC, c.MacS, c.CompC, c.CompS}[list])
				}
			}
			if got := census.Names(l, list); !slices.Equal(got, literal(all)) {
				t.Fatalf("%q: %v", all, got)
			}
		}
	}
}

// literal are the tallies of names, by looking for the next one of them again and again.
func literal(all []string) []api.Tally {
	var l []api.Tally
	for n := len(all); n > 0; n-- {
		sorted := slices.Sorted(slices.Values(all))
		for _, name := range slices.Compact(slices.Clone(sorted)) {
			last, _ := slices.BinarySearch(sorted, name+"\x00")
			first, _ := slices.BinarySearch(sorted, name)
			if last-first == n {
				l = append(l, api.Tally{Name: name, N: n})
			}
		}
	}
	return l
}

// words are the words of chapter 6, by their numbers.
func words() map[byte]string {
	return map[byte]string{
		1: "disconnect", 2: "ignore", 3: "unimplemented", 4: "debug", 5: "service-request", 6: "service-accept", 7: "ext-info",
		20: "kexinit", 21: "newkeys", 30: "ecdh-init", 31: "reply-or-group", 32: "gex-init", 33: "gex-reply", 34: "gex-request",
		50: "userauth-request", 51: "userauth-failure", 52: "userauth-success", 53: "userauth-banner", 60: "userauth-pk-ok",
	}
}

// 37.2: the word of each first byte, whatever follows it.
func TestNums(t *testing.T) {
	for b := range 256 {
		want := words()[byte(b)]
		if want == "" {
			want = "unknown"
		}
		p := string([]byte{byte(b)})
		for _, l := range [][]string{{p, p + "\x01"}, {p + p, p + "\xff\xff and more"}} {
			if got := census.Nums(l); !slices.Equal(got, []api.Tally{{Name: want, N: 2}}) {
				t.Errorf("%q: %v, not %s", l, got, want)
			}
		}
	}
	for _, l := range [][]string{nil, {}} {
		if got := census.Nums(l); len(got) != 0 {
			t.Errorf("no payloads: %v", got)
		}
	}
	if got := census.Nums([]string{""}); !slices.Equal(got, []api.Tally{{Name: "empty", N: 1}}) {
		t.Errorf("an empty payload: %v", got)
	}
	l := []string{"\x15", "", "\x00", "\x14a", "\x02", "\xc3\xa9", "\x14b", "", "\x09", "\x02"}
	want := []api.Tally{{Name: "unknown", N: 3}, {Name: "empty", N: 2}, {Name: "ignore", N: 2}, {Name: "kexinit", N: 2}, {Name: "newkeys", N: 1}}
	before := slices.Clone(l)
	if got := census.Nums(l); !slices.Equal(got, want) || !slices.Equal(l, before) {
		t.Errorf("%v, not %v", got, want)
	}
}

// 37.2: payloads, as the document has it.
func TestManyNums(t *testing.T) {
	r := roll(12)
	for range 1000 {
		var l, all []string
		for range r.next(20) {
			p, word := "", "empty"
			if r.next(5) > 0 {
				p, word = string([]byte{byte(r.next(64)), byte(r.next(256))}), "unknown"
				if w := words()[p[0]]; w != "" {
					word = w
				}
			}
			l, all = append(l, p), append(all, word)
		}
		if got := census.Nums(l); !slices.Equal(got, literal(all)) {
			t.Fatalf("%q: %v", l, got)
		}
	}
}

// What a login comes to, by its numbers: example 7 of the document.
func TestOfWorld(t *testing.T) {
	w := world.New()
	w.Do(api.Step{Kind: api.StSpawn, Conf: conf.Plain(true, 1)})
	w.Do(api.Step{Kind: api.StSpawn, Conf: conf.Plain(false, 1)})
	for i := 0; i < len(w.Sent()); i++ {
		w.Do(api.Step{Kind: api.StPass, Who: i, To: 1 - w.Sent()[i].Session})
	}
	l := w.Events()
	want := api.Census{Kinds: [8]int{1: 1, 2: 1, 3: 1, 4: 1, 5: 1}, Methods: [4]int{1: 1}, Safe: 2}
	if c := census.Of(l); c != want {
		t.Errorf("%+v, not %+v", c, want)
	}
	if s, n := census.Busy(l); s != 1 || n != 3 || !slices.Equal(census.Sessions(l), []int{0, 1}) || len(census.Lost(l)) != 0 {
		t.Errorf("busy: %d, %d", s, n)
	}
	if got := census.Names(l, 0); !slices.Equal(got, []api.Tally{{Name: "curve25519-sha256", N: 1}}) {
		t.Errorf("names: %v", got)
	}
	seen, _ := w.Look(1)
	if got := census.Nums(seen.Sent); len(got) != 2 || got[0] != (api.Tally{Name: "userauth-request", N: 2}) || got[1] != (api.Tally{Name: "service-request", N: 1}) {
		t.Errorf("payloads: %v", got)
	}
}
