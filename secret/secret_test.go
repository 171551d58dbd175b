package secret_test

import (
	"math"
	"slices"
	"strings"
	"testing"

	"shibboleth/api"
	"shibboleth/recipe"
	"shibboleth/secret"
	"shibboleth/term"
)

// run evaluates a recipe of any length by layer 14, one step after the other.
func run(a *term.Arena, known, sent []api.ID, l []api.Op) api.ID {
	if recipe.Right(l) {
		return recipe.Eval(a, known, sent, l)
	}
	var results []api.ID
	for _, op := range l {
		var one []api.Op
		given := known
		if op.Kind != api.OpKnow {
			// The results so far are what is known to a recipe that refers to them by its first steps.
			given = results
			for _, p := range operands(&op) {
				one = append(one, api.Op{Kind: api.OpKnow, A: *p})
				*p = len(one) - 1
			}
		}
		results = append(results, recipe.Eval(a, given, sent, append(one, op)))
	}
	return results[len(results)-1]
}

// operands are the numbers of steps that an operation has.
func operands(op *api.Op) []*int {
	switch op.Kind {
	case api.OpPub, api.OpHash, api.OpAt:
		return []*int{&op.A}
	case api.OpExp, api.OpSign, api.OpSeal, api.OpOpen, api.OpAdd:
		return []*int{&op.A, &op.B}
	case api.OpDerive:
		return []*int{&op.A, &op.B, &op.C}
	}
	return nil
}

// A scene is what an adversary has.
type scene struct {
	t           *testing.T
	a           *term.Arena
	known, sent []api.ID
}

func (s scene) mind() *secret.Mind {
	return secret.New(s.a, s.known, s.sent)
}

// want checks which terms can be constructed, and that there is a recipe for exactly these.
func (s scene) want(what string, is bool, l ...api.ID) {
	s.t.Helper()
	m := s.mind()
	for i, x := range l {
		if m.Can(x) != is {
			s.t.Errorf("%s: term %d (%d): not %v", what, i, x, is)
		}
		ops, can := m.How(x)
		if can != is {
			s.t.Errorf("%s: term %d (%d): How: not %v", what, i, x, is)
		}
		if can {
			s.wantRecipe(what, x, ops)
		} else if len(ops) != 0 {
			s.t.Errorf("%s: term %d (%d): %v", what, i, x, ops)
		}
	}
}

// wantRecipe checks that a recipe yields a term, by steps that are all right and all needed.
func (s scene) wantRecipe(what string, x api.ID, ops []api.Op) {
	s.t.Helper()
	if got := run(s.a, s.known, s.sent, ops); got != x {
		s.t.Errorf("%s: the recipe %v yields %d, not %d", what, ops, got, x)
	}
	used := map[int]int{len(ops) - 1: 1}
	for _, op := range ops {
		for _, p := range operands(&op) {
			used[*p]++
		}
	}
	if len(used) != len(ops) {
		s.t.Errorf("%s: of the recipe %v some steps are not needed", what, ops)
	}
}

// wantHad checks which terms are available.
func (s scene) wantHad(what string, l ...api.ID) {
	s.t.Helper()
	m := s.mind()
	for x := range api.ID(s.a.Len()) {
		if m.Has(x) != slices.Contains(l, x) {
			s.t.Errorf("%s: term %d: not %v", what, x, slices.Contains(l, x))
		}
	}
	if m.Len() != len(l) {
		s.t.Errorf("%s: %d terms, not %d", what, m.Len(), len(l))
	}
}

// 33.1, 33.2: a mind that there is none of, the zero one, and one without an arena.
func TestNil(t *testing.T) {
	a := term.New()
	x := a.Data("x")
	for name, m := range map[string]*secret.Mind{"nil": nil, "zero": {}, "no arena": secret.New(nil, []api.ID{x, 0, 1}, []api.ID{0, api.None})} {
		for _, y := range []api.ID{x, 0, 1, api.None, math.MinInt, math.MaxInt} {
			ops, is := m.How(y)
			if m.Has(y) || m.Can(y) || is || len(ops) != 0 {
				t.Errorf("%s: %d", name, y)
			}
		}
		if m.Len() != 0 {
			t.Errorf("%s: Len: %d", name, m.Len())
		}
	}
}

// 33.1: only terms that exist are available, each once.
func TestKnown(t *testing.T) {
	a := term.New()
	x, y, z := a.Key(1), a.Nonce(2, 0), a.Hash(a.Key(3))
	s := scene{t: t, a: a}
	s.wantHad("nothing")
	if m := s.mind(); m.Can(api.None) || m.Can(api.ID(a.Len())) || m.Has(api.None) {
		t.Errorf("a term that there is none of")
	}
	s.known = []api.ID{api.None, x, api.ID(a.Len()), x, math.MaxInt, math.MinInt}
	s.wantHad("known", x)
	s.sent = []api.ID{y, -5, x, y, y}
	s.wantHad("known and sent", x, y)
	s.want("known and sent", true, x, y, a.Pub(x), a.Hash(y))
	s.want("neither", false, z, a.Key(3), a.Nonce(2, 1), a.Pub(a.Key(3)), api.None, math.MaxInt, math.MinInt)
	// A step tells where a term was had first.
	if ops, _ := s.mind().How(x); !slices.Equal(ops, []api.Op{{Kind: api.OpKnow, A: 1}}) {
		t.Errorf("How: %v", ops)
	}
	if ops, _ := s.mind().How(y); !slices.Equal(ops, []api.Op{{Kind: api.OpSent, A: 0}}) {
		t.Errorf("How: %v", ops)
	}
}

// 33.1: a term that comes to exist after a question about it is another question.
func TestLater(t *testing.T) {
	a := term.New()
	later := api.ID(a.Len())
	m := secret.New(a, []api.ID{later}, nil)
	if m.Can(later) || m.Has(later) {
		t.Errorf("a term that does not exist yet")
	}
	x := a.Data("x")
	if _, is := m.How(later); x != later || !m.Can(later) || m.Has(later) || !is || m.Len() != 0 {
		t.Errorf("a term that exists now")
	}
	if k := a.Key(0); m.Can(k) || m.Has(k) {
		t.Errorf("a key")
	}
}

// 33.1: the elements of lists are available, however they are nested.
func TestLists(t *testing.T) {
	a := term.New()
	empty, k, n, d := a.List(), a.Key(1), a.Nonce(1, 0), a.Data("d")
	inner := a.List(n, empty, d)
	outer := a.List(inner, k, k, inner)
	other := a.List(a.Key(2))
	s := scene{t: t, a: a, sent: []api.ID{outer}}
	s.wantHad("nested", outer, inner, empty, k, n, d)
	s.want("nested", true, outer, inner, empty, k, n, d, a.List(k, n), a.List(d, d, d))
	s.want("nested", false, other, a.Key(2), a.List(k, a.Key(2)))
	s.sent = []api.ID{empty}
	s.wantHad("empty", empty)
	s.want("empty", false, outer, inner)
	s.sent = nil
	s.want("nothing", true, empty, a.List(empty, d))
	// A list that can be constructed, but is not available, tells nothing new.
	s.known = []api.ID{k, n}
	s.wantHad("known parts", k, n)
	s.want("known parts", true, outer)
}

// 33.1: what is inside hashes, signatures, derived keys, public keys and shares stays there.
func TestInside(t *testing.T) {
	a := term.New()
	k, n, x := a.Key(1), a.Nonce(1, 0), a.Nonce(2, 0)
	whole := []api.ID{a.Hash(a.List(k, n)), a.Sign("alg", k, n), a.Derive('A', n, x, k), a.Pub(k), a.Exp(a.Base("g"), x), a.Seal(a.Key(2), 3, a.List(k, n, x))}
	s := scene{t: t, a: a, sent: whole}
	s.wantHad("inside", whole...)
	s.want("inside", true, whole...)
	s.want("inside", false, k, n, x, a.List(k, n), a.Key(2), a.List(k, n, x), a.Hash(k), a.Derive('B', n, x, k), a.Sign("alh", k, n))
}

// 33.1: the content of a sealed term is available if its key is known or can be constructed.
func TestSealed(t *testing.T) {
	a := term.New()
	inside := a.List(a.Key(9), a.Data("x"))
	content := []api.ID{inside, a.Key(9), a.Data("x")}
	own := a.Nonce(0, 5)
	for name, x := range map[string]struct {
		key   api.ID
		known []api.ID
		is    bool
	}{
		"a key that is not known":        {a.Key(1), nil, false},
		"a key that is known":            {a.Key(1), []api.ID{a.Key(1)}, true},
		"another key":                    {a.Key(1), []api.ID{a.Key(2)}, false},
		"data":                           {a.Data("k"), nil, true},
		"the adversary's nonce":          {own, nil, true},
		"another's nonce":                {a.Nonce(1, 5), nil, false},
		"another's nonce that is known":  {a.Nonce(1, 5), []api.ID{a.Nonce(1, 5)}, true},
		"a hash of known terms":          {a.Hash(a.List(own, a.Data("y"))), nil, true},
		"a hash of an unknown one":       {a.Hash(a.List(own, a.Key(1))), nil, false},
		"a hash that is known itself":    {a.Hash(a.Key(1)), []api.ID{a.Hash(a.Key(1))}, true},
		"a derived key":                  {a.Derive(200, a.Exp(a.Base("g"), own), own, own), nil, true},
		"a share of another's nonce":     {a.Exp(a.Base("g"), a.Nonce(1, 5)), nil, false},
		"a share that is known, raised":  {a.Exp(a.Exp(a.Base("g"), a.Nonce(1, 5)), own), []api.ID{a.Exp(a.Base("g"), a.Nonce(1, 5))}, true},
		"a share of another group":       {a.Exp(a.Exp(a.Base("g"), a.Nonce(1, 5)), own), []api.ID{a.Exp(a.Base("h"), a.Nonce(1, 5))}, false},
		"a public key":                   {a.Pub(a.Key(1)), []api.ID{a.Pub(a.Key(1))}, true},
		"a public key that is not known": {a.Pub(a.Key(1)), nil, false},
	} {
		sealed := a.Seal(x.key, 7, inside)
		had := append(slices.Clone(x.known), sealed)
		if x.is {
			had = append(had, content...)
		}
		for _, sent := range []bool{false, true} {
			s := scene{t: t, a: a, known: append(slices.Clone(x.known), sealed)}
			if sent {
				s.known, s.sent = x.known, []api.ID{sealed}
			}
			s.wantHad(name, had...)
			s.want(name, x.is, a.Key(9), inside)
			s.want(name, true, sealed)
		}
	}
	// Who can construct a sealed term knew what is inside, or does not learn it.
	s := scene{t: t, a: a, known: []api.ID{a.Key(1), inside}}
	s.want("constructed", true, a.Seal(a.Key(1), math.MaxUint32, inside), a.Seal(own, 0, inside))
	s.want("not constructed", false, a.Seal(a.Key(1), 0, a.Key(2)), a.Seal(a.Key(2), 0, inside))
}

// 33.1: a key may be inside of another sealed term, in any order, or inside of its own.
func TestChains(t *testing.T) {
	a := term.New()
	k := func(n int) api.ID { return a.Nonce(1, n) }
	one, two, three := a.Seal(k(1), 0, k(2)), a.Seal(a.Hash(a.List(k(2), a.Data("x"))), 0, a.List(k(3))), a.Seal(k(3), 0, a.Key(7))
	for _, l := range [][]api.ID{{one, two, three}, {three, two, one}, {two, three, one}, {a.List(three, one, two)}, {three, one, two}} {
		s := scene{t: t, a: a, sent: append([]api.ID{}, l...)}
		s.want("without the first key", false, k(1), k(2), k(3), a.Key(7))
		s.known = []api.ID{k(1)}
		s.want("with the first key", true, k(1), k(2), k(3), a.Key(7))
		s.known = []api.ID{k(2)}
		s.want("with the second key", true, k(2), k(3), a.Key(7))
		s.want("with the second key", false, k(1))
		s.sent = append(s.sent, k(1))
		s.known = nil
		s.want("with the first key at last", true, k(1), k(2), k(3), a.Key(7))
	}
	// Layer upon layer.
	s := scene{t: t, a: a, sent: []api.ID{a.Seal(k(1), 0, a.Seal(k(2), 0, a.Seal(k(3), 0, a.Key(7)))), a.List(k(3), k(2), a.List(k(1)))}}
	s.want("layers", true, a.Key(7))
	// Each inside of the other one, and a key inside of what it opens.
	s = scene{t: t, a: a, sent: []api.ID{a.Seal(k(1), 0, k(2)), a.Seal(k(2), 0, k(1)), a.Seal(k(3), 0, k(3))}}
	s.want("a circle", false, k(1), k(2), k(3))
	s.known = []api.ID{k(2)}
	s.want("a circle with one of them", true, k(1), k(2), a.Hash(k(1)))
	s.want("a circle with one of them", false, k(3))
	h := a.Hash(a.Data("x"))
	s = scene{t: t, a: a, sent: []api.ID{a.Seal(h, 0, a.List(h, a.Key(7), a.Seal(h, 0, h)))}}
	s.want("a key that can be constructed, inside of what it opens", true, h, a.Key(7), a.List(h, h), a.Hash(h))
	if m := s.mind(); !m.Has(h) || m.Len() != 5 {
		t.Errorf("%d terms", m.Len())
	}
	// A sealed term whose key has itself inside.
	in := a.Seal(a.Key(1), 0, a.Data("x"))
	s = scene{t: t, a: a, sent: []api.ID{a.Seal(a.Hash(in), 1, a.Key(1)), in}}
	s.want("a sealed term in a key", true, a.Key(1), a.Hash(in))
}

// 33.1, and the example: which shares can be constructed.
func TestShares(t *testing.T) {
	a := term.New()
	x, y, z, own, other := a.Nonce(1, 0), a.Nonce(2, 0), a.Nonce(3, 0), a.Nonce(0, 0), a.Nonce(0, 1)
	share := func(group string, l ...api.ID) api.ID {
		s := a.Base(group)
		for _, e := range l {
			s = a.Exp(s, e)
		}
		return s
	}
	s := scene{t: t, a: a}
	s.want("nothing", true, a.Base("g"), share("g", own), share("g", own, own, other), a.Base(strings.Repeat("g", api.MaxGroup)))
	s.want("nothing", false, share("g", x), share("g", own, x))
	s.sent = []api.ID{share("g", x)}
	s.want("the share of x", true, share("g", x), share("g", x, own), share("g", own, x), share("g", own, x, own, other, own), a.Base("g"))
	s.want("the share of x", false, share("g", x, x), share("g", x, y), share("g", x, own, y), share("h", x), share("h", x, own), x)
	s.sent = []api.ID{share("g", x), share("g", y)}
	s.want("the shares of x and y", false, share("g", x, y), share("g", y, own, x))
	s.want("the shares of x and y", true, share("g", y, own), share("g", own, x))
	s.known = []api.ID{y}
	s.want("with y", true, share("g", x, y), share("g", y, own, x, y, y), share("h", y), share("h", y, y, own))
	s.want("with y", false, share("g", x, x, y), share("h", x, y), share("g", z, y))
	s.known, s.sent = nil, []api.ID{share("g", x, y, own), share("h", x, z)}
	s.want("one of three", true, share("g", x, y, own, other), share("g", own, own, y, x), share("h", z, own, x))
	s.want("one of three", false, share("g", x, y), share("g", x, own), share("g", y, x, other), share("h", x, y, own), share("g", x, y, own, z))
	s.sent = []api.ID{share("g", x, x, y)}
	s.want("twice", true, share("g", x, x, y), share("g", x, y, x, own))
	s.want("twice", false, share("g", x, y), share("g", x, y, y), share("g", x, x, x, y), share("g", x, x))
	s.known = []api.ID{x}
	s.want("twice, with x", true, share("g", x, y, x, x), share("g", x, x), share("g", x, x, x, x, x, x, x, x))
	s.want("twice, with x", false, share("g", x, y), share("g", y))
	s.known, s.sent = []api.ID{share("g", z)}, []api.ID{share("g", x, z), share("g", own, own, own, own, own, own, own, x)}
	s.want("several to begin with", true, share("g", x, z, own), share("g", z, own), share("g", own, own, own, own, own, own, own, x), share("g", x, z, other, own))
	s.want("several to begin with", false, share("g", x), share("g", own, own, x))
	s.known, s.sent = []api.ID{a.Base("g"), a.Base("h")}, nil
	s.wantHad("bases", a.Base("g"), a.Base("h"))
	s.want("bases", true, share("g", own), a.Base("h"))
	s.want("bases", false, share("g", x))
}

// 33.1: shares that become available late, and shares that open something.
func TestSharesOpen(t *testing.T) {
	a := term.New()
	x, y, own := a.Nonce(1, 0), a.Nonce(2, 0), a.Nonce(0, 0)
	g := a.Base("g")
	gx, gy, gxy := a.Exp(g, x), a.Exp(g, y), a.Exp(a.Exp(g, x), y)
	for name, x := range map[string]struct {
		sent []api.ID
		is   bool
	}{
		"a secret of both":                   {[]api.ID{a.Seal(gxy, 0, a.Key(1)), gx, gy}, false},
		"a secret of one":                    {[]api.ID{a.Seal(a.Exp(gx, own), 0, a.Key(1)), gx}, true},
		"a share that comes later":           {[]api.ID{a.Seal(a.Exp(gx, own), 0, a.Key(1)), a.Seal(a.Exp(gy, own), 0, gx), a.List(gy)}, true},
		"a nonce that comes later":           {[]api.ID{a.Seal(gxy, 0, a.Key(1)), gx, gy, a.Seal(a.Exp(gx, own), 1, y)}, true},
		"the other nonce":                    {[]api.ID{a.Seal(gxy, 0, a.Key(1)), gx, gy, a.Seal(a.Exp(gy, own), 1, x)}, true},
		"both nonces and no share":           {[]api.ID{a.Seal(gxy, 0, a.Key(1)), a.Seal(own, 0, x), a.List(y)}, true},
		"a share with the wrong exponent":    {[]api.ID{a.Seal(a.Exp(gx, own), 0, a.Key(1)), a.Exp(gx, y), x, gy}[:2], false},
		"a share with one more, then itself": {[]api.ID{a.Seal(a.Exp(gx, own), 0, a.Key(1)), a.Exp(gx, y), gx}, true},
		"a nonce behind the share":           {[]api.ID{a.Seal(a.Hash(gxy), 0, a.Key(1)), gx, a.Seal(own, 3, a.List(y, gy))}, true},
	} {
		s := scene{t: t, a: a, sent: x.sent}
		s.want(name, x.is, a.Key(1))
		slices.Reverse(s.sent)
		s.want(name+", the other way round", x.is, a.Key(1))
	}
}

// 33.1: a term of each kind can be constructed if each of its parts can.
func TestParts(t *testing.T) {
	a := term.New()
	k, no, own, d := a.Key(1), a.Key(2), a.Nonce(0, api.MaxNumber), a.Data("d")
	s := scene{t: t, a: a, known: []api.ID{k}}
	s.want("all parts", true, d, a.Data(""), own, k, a.Pub(k), a.Base("g"), a.Sign("alg", k, d), a.Hash(d), a.Derive('A', d, own, k), a.Derive(0, d, d, d), a.Derive(255, k, k, k), a.Derive(128, d, d, own), a.Seal(k, 0, d), a.Seal(d, math.MaxUint32, own), a.List(), a.List(d), a.List(k, d, own))
	s.want("one part", false, no, a.Pub(no), a.Sign("alg", no, d), a.Sign("alg", k, no), a.Hash(no), a.Derive('A', no, d, d), a.Derive('A', d, no, d), a.Derive('A', d, d, no), a.Seal(no, 0, d), a.Seal(d, 0, no), a.List(no), a.List(no, d), a.List(d, no), a.List(d, no, d), a.Nonce(1, 0), a.Nonce(api.MaxNumber, 0))
	// What can't be constructed of its parts may be available all the same.
	s.known = append(s.known, a.Pub(no), a.Sign("alg", no, d), a.Hash(no))
	s.want("available", true, a.Pub(no), a.Sign("alg", no, d), a.Hash(no), a.List(a.Hash(no), a.Pub(no)), a.Hash(a.Sign("alg", no, d)))
	s.want("available", false, no, a.Sign("alg", no, own), a.Hash(a.List(no)))
}

// 33.2: recipes are as long as they have to be, and each term is made once.
func TestLong(t *testing.T) {
	a := term.New()
	x := a.Hash(a.Data("x"))
	var full []api.ID
	for range api.MaxArgs {
		full = append(full, x)
	}
	big := a.List(full...)
	s := scene{t: t, a: a}
	s.want("a full list", true, big)
	if ops, _ := s.mind().How(big); len(ops) != api.MaxArgs+3 {
		t.Errorf("%d steps: %v", len(ops), ops)
	}
	for i := range full {
		full[i] = a.Nonce(0, i)
	}
	lists := a.List(a.List(full...), a.List(full...), a.Hash(a.List(full...)), a.List(full[5:]...))
	s.want("lists", true, lists)
	if ops, _ := s.mind().How(lists); recipe.Right(ops) || len(ops) > 200 {
		t.Errorf("%d steps", len(ops))
	}
	deep := x
	for a.Size(deep) < 1<<15 {
		deep = a.Hash(a.List(deep))
	}
	if m := s.mind(); !m.Can(deep) {
		t.Errorf("a deep term")
	}
	s.sent = []api.ID{a.Seal(deep, 0, a.Key(1))}
	s.want("a deep key", true, a.Key(1))
	// The key can be constructed only when what is at its bottom has become available.
	for deep = a.Nonce(1, 0); a.Size(deep) < 1<<16; {
		deep = a.Hash(deep)
	}
	s.sent = []api.ID{a.Seal(deep, 0, a.Key(1)), a.Seal(x, 0, a.Nonce(1, 0))}
	if m := s.mind(); !m.Has(a.Key(1)) || m.Len() != 4 {
		t.Errorf("a deep key that can be constructed late")
	}
	for deep = a.Key(2); a.Size(deep) < api.MaxTerm; {
		deep = a.Hash(deep)
	}
	s.sent = []api.ID{a.Seal(a.Hash(a.Key(2)), 0, a.Key(1))}
	if m := secret.New(a, []api.ID{deep}, s.sent); m.Can(a.Key(1)) || !m.Has(deep) || m.Can(a.Key(2)) {
		t.Errorf("a deep term of an unknown key")
	}
}

// Terms with many parts that are alike are asked about once: else this test does not come to its end.
func TestMany(t *testing.T) {
	a := term.New()
	wide := a.Key(1)
	for range 13 {
		wide = a.List(wide, wide)
	}
	m := secret.New(a, nil, []api.ID{a.Seal(wide, 0, a.Key(2)), a.Hash(wide)})
	if m.Can(wide) || m.Can(a.List(wide)) || m.Can(a.Key(2)) {
		t.Errorf("without the key")
	}
	m = secret.New(a, []api.ID{a.Key(1)}, []api.ID{a.Seal(wide, 0, a.Key(2))})
	if ops, is := m.How(a.Key(2)); !is || len(ops) != 3*13+3 {
		t.Errorf("with the key: %v", ops)
	}
	// Each term opens the one ahead of it.
	var chain []api.ID
	for n := range 20000 {
		chain = append(chain, a.Seal(a.Hash(a.Nonce(1, n)), 0, a.List(a.Nonce(1, n-1), a.Data("x"))))
	}
	chain = append(chain[1:], a.Nonce(1, 19999))
	m = secret.New(a, nil, chain)
	if ops, is := m.How(a.Nonce(1, 0)); !is || len(ops) != 4*19999+1 || m.Len() != 3*19999+2 {
		t.Errorf("a chain: %v, %d steps, %d terms", is, len(ops), m.Len())
	}
	// Many shares with the same exponent.
	var shares []api.ID
	x := a.Exp(a.Base("g"), a.Nonce(1, 0))
	for n := range 1500 {
		shares = append(shares, a.Exp(x, a.Nonce(2, n)), a.Seal(a.Exp(a.Exp(x, a.Nonce(2, n)), a.Nonce(3, n)), 0, a.Key(n)))
	}
	if m = secret.New(a, nil, shares); m.Len() != 3000 || m.Can(a.Key(0)) {
		t.Errorf("shares: %d terms", m.Len())
	}
}

// R4: the arguments are neither changed nor kept, answers are new memory, and no question changes
// the answer to another one.
func TestMemory(t *testing.T) {
	a := term.New()
	key := a.Hash(a.List(a.Nonce(0, 1), a.Data("x")))
	known, sent := []api.ID{a.Key(1), a.Key(2)}, []api.ID{a.Seal(key, 0, a.List(a.Key(3), a.Key(4))), a.Exp(a.Base("g"), a.Nonce(1, 0))}
	k, s := slices.Clone(known), slices.Clone(sent)
	m := secret.New(a, k, s)
	if !slices.Equal(k, known) || !slices.Equal(s, sent) {
		t.Errorf("the arguments have changed")
	}
	k[0], s[0] = a.Key(8), a.Key(9)
	asked := []api.ID{a.Key(3), a.Hash(a.List(a.Key(4), key)), a.Exp(sent[1], a.Nonce(0, 0)), a.Key(1), a.List(a.Key(3), a.Exp(sent[1], a.Nonce(0, 0)), key), a.Key(9), key}
	terms := a.Len()
	var first [][]api.Op
	for _, x := range asked {
		ops, is := secret.New(a, known, sent).How(x)
		if is != (x != a.Key(9)) {
			t.Errorf("term %d: %v", x, is)
		}
		first = append(first, ops)
	}
	for range 3 {
		for i := range asked {
			i = len(asked) - 1 - i
			ops, is := m.How(asked[i])
			if !slices.Equal(ops, first[i]) || is != m.Can(asked[i]) {
				t.Errorf("term %d: %v, not %v", asked[i], ops, first[i])
			}
			for n := range ops {
				ops[n] = api.Op{Kind: -1}
			}
		}
	}
	if a.Len() != terms || m.Len() != 7 {
		t.Errorf("%d terms more in the arena, %d terms", a.Len()-terms, m.Len())
	}
}
