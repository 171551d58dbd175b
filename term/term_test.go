package term_test

import (
	"math"
	"slices"
	"strings"
	"testing"

	"shibboleth/api"
	"shibboleth/term"
)

// hugeData is a data term of the size that is asked for.
func hugeData(t *testing.T, a *term.Arena, size int) api.ID {
	t.Helper()
	x := a.Data(strings.Repeat("x", size-5))
	if a.Size(x) != size {
		t.Fatalf("data of size %d: %d", size, a.Size(x))
	}
	return x
}

// raised is the base of a group raised to the exponents, one by one.
func raised(a *term.Arena, group string, exps ...api.ID) api.ID {
	s := a.Base(group)
	for _, x := range exps {
		s = a.Exp(s, x)
	}
	return s
}

// oneOfEach makes a term of each kind, in the order of the kinds.
func oneOfEach(a *term.Arena) []api.ID {
	d, x, k := a.Data("abc"), a.Nonce(1, 2), a.Key(3)
	return []api.ID{d, x, k, a.Pub(k), raised(a, "g14", x), a.Sign("rsa", k, d), a.Hash(d), a.Derive('A', x, d, k), a.Seal(k, 7, d), a.List(d, k)}
}

// wantNone checks that each maker answers None and leaves the arena as it is.
func wantNone(t *testing.T, a *term.Arena, makers map[string]func() api.ID) {
	t.Helper()
	for name, makeTerm := range makers {
		n := a.Len()
		if x := makeTerm(); x != api.None {
			t.Errorf("%s: %d, not None", name, x)
		}
		if a.Len() != n {
			t.Errorf("%s: a term was added", name)
		}
	}
}

func TestExampleOfChapter(t *testing.T) {
	a := term.New()
	got := []api.ID{a.Data("a"), a.Data("a"), a.Key(0), a.Pub(1)}
	if !slices.Equal(got, []api.ID{0, 0, 1, 2}) || a.Len() != 3 {
		t.Errorf("got %v, Len %d", got, a.Len())
	}
}

// 1.1: what is permitted, at each limit.
func TestPermitted(t *testing.T) {
	a := term.New()
	k, x, d := a.Key(0), a.Nonce(0, 0), a.Data("")
	for name, y := range map[string]api.ID{
		"empty data":         d,
		"least nonce":        x,
		"greatest nonce":     a.Nonce(api.MaxNumber, api.MaxNumber),
		"least key":          k,
		"greatest key":       a.Key(api.MaxNumber),
		"shortest group":     a.Base("g"),
		"longest group":      a.Base(strings.Repeat("g", api.MaxGroup)),
		"most exponents":     raised(a, "g", slices.Repeat([]api.ID{x}, api.MaxExps)...),
		"shortest algorithm": a.Sign("s", k, d),
		"longest algorithm":  a.Sign(strings.Repeat("s", api.MaxText), k, d),
		"any bytes":          a.Data("\x00\xff\xfe"),
		"any group":          a.Base("\x00\xff"),
		"any letter":         a.Derive(255, d, d, d),
		"letter 0":           a.Derive(0, d, d, d),
		"any key of a seal":  a.Seal(d, 0, d),
		"greatest number":    a.Seal(k, math.MaxUint32, d),
		"empty list":         a.List(),
		"longest list":       a.List(slices.Repeat([]api.ID{d}, api.MaxArgs)...),
	} {
		if y == api.None {
			t.Errorf("%s: None", name)
		}
	}
}

// 1.1: what is not permitted, one beyond each limit.
func TestNotPermitted(t *testing.T) {
	a := term.New()
	all := oneOfEach(a)
	d, x, k := all[0], all[1], all[2]
	full := raised(a, "g", slices.Repeat([]api.ID{x}, api.MaxExps)...)
	wantNone(t, a, map[string]func() api.ID{
		"nonce below 0":            func() api.ID { return a.Nonce(-1, 0) },
		"nonce's number below 0":   func() api.ID { return a.Nonce(0, -1) },
		"nonce too great":          func() api.ID { return a.Nonce(api.MaxNumber+1, 0) },
		"nonce's number too great": func() api.ID { return a.Nonce(0, api.MaxNumber+1) },
		"nonce extreme":            func() api.ID { return a.Nonce(math.MinInt, math.MaxInt) },
		"key below 0":              func() api.ID { return a.Key(-1) },
		"key too great":            func() api.ID { return a.Key(api.MaxNumber + 1) },
		"no group":                 func() api.ID { return a.Base("") },
		"group too long":           func() api.ID { return a.Base(strings.Repeat("g", api.MaxGroup+1)) },
		"too many exponents":       func() api.ID { return a.Exp(full, x) },
		"no algorithm":             func() api.ID { return a.Sign("", k, d) },
		"algorithm too long":       func() api.ID { return a.Sign(strings.Repeat("s", api.MaxText+1), k, d) },
		"list too long":            func() api.ID { return a.List(slices.Repeat([]api.ID{d}, api.MaxArgs+1)...) },
	})
	for kind, y := range all {
		kind++ // of the first one: 1
		if kind != api.TmKey {
			wantNone(t, a, map[string]func() api.ID{
				"public key of another kind": func() api.ID { return a.Pub(y) },
				"signed with another kind":   func() api.ID { return a.Sign("s", y, d) },
			})
		}
		if kind != api.TmShare {
			wantNone(t, a, map[string]func() api.ID{"raised another kind": func() api.ID { return a.Exp(y, x) }})
		}
		if kind != api.TmNonce {
			wantNone(t, a, map[string]func() api.ID{"raised to another kind": func() api.ID { return a.Exp(all[4], y) }})
		}
	}
}

// 1.1: an argument that denotes no term, at each place.
func TestNoSuchTerm(t *testing.T) {
	a := term.New()
	all := oneOfEach(a)
	d, x, k, s := all[0], all[1], all[2], all[4]
	for _, no := range []api.ID{api.None, -2, api.ID(a.Len()), math.MaxInt, math.MinInt, 1 << 32} {
		wantNone(t, a, map[string]func() api.ID{
			"Pub":                 func() api.ID { return a.Pub(no) },
			"Exp, share":          func() api.ID { return a.Exp(no, x) },
			"Exp, nonce":          func() api.ID { return a.Exp(s, no) },
			"Sign, key":           func() api.ID { return a.Sign("s", no, d) },
			"Sign, term":          func() api.ID { return a.Sign("s", k, no) },
			"Hash":                func() api.ID { return a.Hash(no) },
			"Derive, secret":      func() api.ID { return a.Derive('A', no, d, d) },
			"Derive, hash":        func() api.ID { return a.Derive('A', d, no, d) },
			"Derive, session":     func() api.ID { return a.Derive('A', d, d, no) },
			"Seal, key":           func() api.ID { return a.Seal(no, 0, d) },
			"Seal, term":          func() api.ID { return a.Seal(k, 0, no) },
			"List, the only":      func() api.ID { return a.List(no) },
			"List, the last":      func() api.ID { return a.List(d, no) },
			"List, the first one": func() api.ID { return a.List(no, d) },
		})
		v, is := a.View(no)
		if is || v.Kind != 0 || v.A != 0 || v.B != 0 || v.S != "" || len(v.Args) != 0 || a.Kind(no) != 0 || a.Size(no) != 0 {
			t.Errorf("term %d: %v", no, v)
		}
	}
}

// 1.1: each kind that can come to MaxTerm does so, and none goes beyond it.
func TestMaxTerm(t *testing.T) {
	a := term.New()
	k, d := a.Key(1), a.Data("")
	if a.Size(a.Data(strings.Repeat("y", api.MaxTerm-5))) != api.MaxTerm {
		t.Errorf("data of MaxTerm bytes")
	}
	wantNone(t, a, map[string]func() api.ID{"data": func() api.ID { return a.Data(strings.Repeat("y", api.MaxTerm-4)) }})
	for _, c := range []struct {
		name string
		own  int // what the term has beside one subterm that is as large as may be
		make func(x api.ID) api.ID
	}{
		{"Sign", 5 + 3 + 5, func(x api.ID) api.ID { return a.Sign("rsa", k, x) }},
		{"Hash", 1, func(x api.ID) api.ID { return a.Hash(x) }},
		{"Derive, secret", 2 + 10, func(x api.ID) api.ID { return a.Derive('A', x, d, d) }},
		{"Derive, hash", 2 + 10, func(x api.ID) api.ID { return a.Derive('A', d, x, d) }},
		{"Derive, session", 2 + 10, func(x api.ID) api.ID { return a.Derive('A', d, d, x) }},
		{"Seal, key", 5 + 5, func(x api.ID) api.ID { return a.Seal(x, 0, d) }},
		{"Seal, term", 5 + 5, func(x api.ID) api.ID { return a.Seal(k, 0, x) }},
		{"List", 5 + 10, func(x api.ID) api.ID { return a.List(d, x, d) }},
	} {
		at, beyond := hugeData(t, a, api.MaxTerm-c.own), hugeData(t, a, api.MaxTerm-c.own+1)
		if x := c.make(at); x == api.None || a.Size(x) != api.MaxTerm {
			t.Errorf("%s at MaxTerm: %d of size %d", c.name, x, a.Size(x))
		}
		wantNone(t, a, map[string]func() api.ID{c.name + " beyond MaxTerm": func() api.ID { return c.make(beyond) }})
	}
	half := hugeData(t, a, api.MaxTerm/2)
	wantNone(t, a, map[string]func() api.ID{
		"the same subterm twice": func() api.ID { return a.List(half, half) },
		"the same thrice":        func() api.ID { return a.Derive('A', half, half, half) },
		"many large ones":        func() api.ID { return a.List(slices.Repeat([]api.ID{half}, api.MaxArgs)...) },
	})
}

// differentTerms makes the arguments of all makers vary, one at a time, and names each term.
func differentTerms(a *term.Arena) map[string]func() api.ID {
	k, l, d, e := a.Key(1), a.Key(2), a.Data(""), a.Data("x")
	x, y := a.Nonce(1, 2), a.Nonce(2, 1)
	return map[string]func() api.ID{
		"data of zero bytes":    func() api.ID { return a.Data("\x00") },
		"data of two":           func() api.ID { return a.Data("\x00\x00") },
		"nonce, other number":   func() api.ID { return a.Nonce(1, 1) },
		"nonce, other one":      func() api.ID { return a.Nonce(2, 2) },
		"nonce 0 of 1":          func() api.ID { return a.Nonce(1, 0) },
		"key 0":                 func() api.ID { return a.Key(0) },
		"public key":            func() api.ID { return a.Pub(k) },
		"other public key":      func() api.ID { return a.Pub(l) },
		"base":                  func() api.ID { return a.Base("x") },
		"other base":            func() api.ID { return a.Base("y") },
		"share":                 func() api.ID { return raised(a, "x", x) },
		"share, other group":    func() api.ID { return raised(a, "y", x) },
		"share, other exponent": func() api.ID { return raised(a, "x", y) },
		"share, both":           func() api.ID { return raised(a, "x", x, y) },
		"share, one twice":      func() api.ID { return raised(a, "x", x, x, y) },
		"share, other twice":    func() api.ID { return raised(a, "x", x, y, y) },
		"signature":             func() api.ID { return a.Sign("x", k, d) },
		"signature, other name": func() api.ID { return a.Sign("y", k, d) },
		"signature, other key":  func() api.ID { return a.Sign("x", l, d) },
		"signature, other term": func() api.ID { return a.Sign("x", k, e) },
		"hash":                  func() api.ID { return a.Hash(d) },
		"other hash":            func() api.ID { return a.Hash(e) },
		"derived":               func() api.ID { return a.Derive('x', d, d, d) },
		"derived, letter":       func() api.ID { return a.Derive('y', d, d, d) },
		"derived, secret":       func() api.ID { return a.Derive('x', e, d, d) },
		"derived, hash":         func() api.ID { return a.Derive('x', d, e, d) },
		"derived, session":      func() api.ID { return a.Derive('x', d, d, e) },
		"sealed":                func() api.ID { return a.Seal(k, 1, d) },
		"sealed, other number":  func() api.ID { return a.Seal(k, 2, d) },
		"sealed, other key":     func() api.ID { return a.Seal(l, 1, d) },
		"sealed, other term":    func() api.ID { return a.Seal(k, 1, e) },
		"sealed, swapped":       func() api.ID { return a.Seal(d, 1, k) },
		"empty list":            func() api.ID { return a.List() },
		"list":                  func() api.ID { return a.List(d) },
		"list, other term":      func() api.ID { return a.List(e) },
		"list, twice":           func() api.ID { return a.List(d, d) },
		"list, two":             func() api.ID { return a.List(d, e) },
		"list, other order":     func() api.ID { return a.List(e, d) },
		"list, three":           func() api.ID { return a.List(d, e, d) },
		"list of a list":        func() api.ID { return a.List(a.List()) },
		"list of one, and one":  func() api.ID { return a.List(a.List(d), e) },
		"one, and list of one":  func() api.ID { return a.List(d, a.List(e)) },
	}
}

// 1.2: different terms have different numbers, the next ones; made again, they have them still.
func TestNumbers(t *testing.T) {
	a := term.New()
	if a.Len() != 0 {
		t.Errorf("Len of a new arena: %d", a.Len())
	}
	first := differentTerms(a)
	names := map[api.ID]string{}
	for name, makeTerm := range first {
		x := makeTerm()
		if other, is := names[x]; is || x == api.None || int(x) >= a.Len() {
			t.Errorf("%s: %d, which is %q", name, x, other)
		}
		names[x] = name
	}
	n := a.Len()
	for name, makeTerm := range first {
		if x := makeTerm(); names[x] != name {
			t.Errorf("%s again: %d", name, x)
		}
	}
	if a.Len() != n {
		t.Errorf("terms made again were added: %d, not %d", a.Len(), n)
	}
	for i := range 300 {
		if x := a.Data("next " + strings.Repeat("x", i)); int(x) != n+i || a.Len() != n+i+1 {
			t.Fatalf("new term %d: %d, Len %d", n+i, x, a.Len())
		}
	}
}

// 1.2: subterms with numbers of more than a byte, and of more than two, are told apart.
func TestManyTerms(t *testing.T) {
	a := term.New()
	const many = 70000
	for i := range many {
		if x := a.Nonce(i, many-i); int(x) != i {
			t.Fatalf("nonce %d: %d", i, x)
		}
	}
	seen := map[api.ID]api.ID{}
	for x := range api.ID(many) {
		h := a.Hash(x)
		if y, is := seen[h]; is {
			t.Fatalf("the hashes of %d and %d are %d", x, y, h)
		}
		seen[h] = x
	}
	for h, x := range seen {
		if v, _ := a.View(h); !slices.Equal(v.Args, []api.ID{x}) {
			t.Fatalf("hash of %d: %v", x, v)
		}
	}
}

// 1.3: View, Kind and Size of each kind.
func TestView(t *testing.T) {
	a := term.New()
	k, x, d := a.Key(5), a.Nonce(6, 7), a.Data("abc")
	s := raised(a, "g14", x, x)
	for _, c := range []struct {
		t    api.ID
		want api.Node
		size int
	}{
		{d, api.Node{Kind: api.TmData, S: "abc"}, 8},
		{a.Data(""), api.Node{Kind: api.TmData}, 5},
		{x, api.Node{Kind: api.TmNonce, A: 6, B: 7}, 9},
		{k, api.Node{Kind: api.TmKey, A: 5}, 5},
		{a.Pub(k), api.Node{Kind: api.TmPub, Args: []api.ID{k}}, 6},
		{a.Base("g14"), api.Node{Kind: api.TmShare, S: "g14"}, 12},
		{s, api.Node{Kind: api.TmShare, S: "g14", Args: []api.ID{x, x}}, 30},
		{a.Sign("rsa", k, d), api.Node{Kind: api.TmSig, S: "rsa", Args: []api.ID{k, d}}, 5 + 3 + 5 + 8},
		{a.Hash(d), api.Node{Kind: api.TmHash, Args: []api.ID{d}}, 9},
		{a.Derive('F', s, d, k), api.Node{Kind: api.TmDerive, B: 'F', Args: []api.ID{s, d, k}}, 2 + 30 + 8 + 5},
		{a.Derive(255, d, d, d), api.Node{Kind: api.TmDerive, B: 255, Args: []api.ID{d, d, d}}, 2 + 24},
		{a.Seal(d, math.MaxUint32, x), api.Node{Kind: api.TmSeal, B: math.MaxUint32, Args: []api.ID{d, x}}, 5 + 8 + 9},
		{a.List(), api.Node{Kind: api.TmList}, 5},
		{a.List(k, d, k), api.Node{Kind: api.TmList, Args: []api.ID{k, d, k}}, 5 + 5 + 8 + 5},
	} {
		v, is := a.View(c.t)
		if w := c.want; !is || v.Kind != w.Kind || v.A != w.A || v.B != w.B || v.S != w.S || !slices.Equal(v.Args, w.Args) {
			t.Errorf("View: %v, not %v", v, w)
		}
		if a.Kind(c.t) != c.want.Kind || a.Size(c.t) != c.size {
			t.Errorf("%v: Kind %d, Size %d, not %d", v, a.Kind(c.t), a.Size(c.t), c.size)
		}
	}
}

// 1.3, 1.4: exponents are ordered by A, then by B, in whatever order a share is raised to them,
// and whatever their own numbers are.
func TestExponents(t *testing.T) {
	a := term.New()
	// The numbers of the nonces are in another order than the nonces.
	p, q, r, s := a.Nonce(2, 1), a.Nonce(1, 2), a.Nonce(10, 0), a.Nonce(1, 1)
	want := []api.ID{s, q, q, p, r}
	share := raised(a, "g", want...)
	permute([]api.ID{p, q, q, r, s}, func(l []api.ID) {
		x := raised(a, "g", l...)
		if v, _ := a.View(x); x != share || !slices.Equal(v.Args, want) {
			t.Errorf("raised to %v: %d, not %d: %v", l, x, share, v)
		}
	})
	if raised(a, "g", p, q, r, s) == share || raised(a, "g", p, p, q, r, s) == share {
		t.Errorf("how often an exponent occurs does not count")
	}
}

// permute calls f with each order of l.
func permute(l []api.ID, f func([]api.ID)) {
	var swap func(n int)
	swap = func(n int) {
		if n == len(l) {
			f(slices.Clone(l))
			return
		}
		for i := n; i < len(l); i++ {
			l[n], l[i] = l[i], l[n]
			swap(n + 1)
			l[n], l[i] = l[i], l[n]
		}
	}
	swap(0)
}

// R4: what is handed in is neither changed nor kept, what is handed out is not kept.
func TestMemory(t *testing.T) {
	a := term.New()
	d, e := a.Data("d"), a.Data("e")
	l := []api.ID{e, d}
	x := a.List(l...)
	if !slices.Equal(l, []api.ID{e, d}) {
		t.Errorf("List changes its argument: %v", l)
	}
	l[0] = d
	v, _ := a.View(x)
	if !slices.Equal(v.Args, []api.ID{e, d}) {
		t.Errorf("List keeps its argument: %v", v.Args)
	}
	v.Args[1] = e
	if w, _ := a.View(x); !slices.Equal(w.Args, []api.ID{e, d}) || a.List(e, d) != x {
		t.Errorf("View hands out what is kept: %v", w.Args)
	}
	s := raised(a, "g", a.Nonce(2, 0), a.Nonce(1, 0))
	v, _ = a.View(s)
	v.Args[0] = v.Args[1]
	if w, _ := a.View(s); w.Args[0] == w.Args[1] {
		t.Errorf("View hands out the exponents that are kept")
	}
}

// R5: arenas do not know of one another.
func TestArenasApart(t *testing.T) {
	a, b := term.New(), term.New()
	a.Data("x")
	if b.Len() != 0 || b.Hash(0) != api.None || b.Key(1) != 0 || a.Kind(0) != api.TmData {
		t.Errorf("arenas share terms")
	}
}

func TestNilArena(t *testing.T) {
	var a *term.Arena
	for i, x := range []api.ID{a.Data("a"), a.Nonce(0, 0), a.Key(0), a.Pub(0), a.Base("g"), a.Exp(0, 0), a.Sign("s", 0, 0), a.Hash(0), a.Derive('A', 0, 0, 0), a.Seal(0, 0, 0), a.List(), a.List(0)} {
		if x != api.None {
			t.Errorf("maker %d: %d", i, x)
		}
	}
	if v, is := a.View(0); is || v.Kind != 0 || len(v.Args) != 0 || a.Kind(0) != 0 || a.Size(0) != 0 || a.Len() != 0 {
		t.Errorf("View: %v", v)
	}
}

// R1: an arena that was not made by New has no terms, and takes some.
func TestZeroArena(t *testing.T) {
	var a term.Arena
	if a.Len() != 0 || a.Kind(0) != 0 || a.Hash(0) != api.None {
		t.Errorf("the zero arena has terms")
	}
	if a.Data("a") != 0 || a.Data("a") != 0 || a.Key(0) != 1 || a.Len() != 2 {
		t.Errorf("the zero arena takes no terms")
	}
}
