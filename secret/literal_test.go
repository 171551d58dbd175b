package secret_test

import (
	"slices"
	"testing"

	"shibboleth/api"
	"shibboleth/recipe"
	"shibboleth/term"
)

// literal is what an adversary has as the document has it: the rules are applied until nothing
// more comes of them.
type literal struct {
	a   *term.Arena
	had map[api.ID]bool
}

func (s scene) literal() literal {
	l := literal{s.a, map[api.ID]bool{}}
	for _, x := range slices.Concat(s.known, s.sent) {
		if s.a.Kind(x) != 0 {
			l.had[x] = true
		}
	}
	for n := -1; n < len(l.had); {
		n = len(l.had)
		for x := range api.ID(s.a.Len()) {
			v, _ := s.a.View(x)
			if l.had[x] && v.Kind == api.TmList {
				for _, y := range v.Args {
					l.had[y] = true
				}
			}
			if l.had[x] && v.Kind == api.TmSeal && l.can(v.Args[0]) {
				l.had[v.Args[1]] = true
			}
		}
	}
	return l
}

func (l literal) can(x api.ID) bool {
	v, is := l.a.View(x)
	switch {
	case !is:
		return false
	case l.had[x] || v.Kind == api.TmData || v.Kind == api.TmNonce && v.A == 0:
		return true
	case v.Kind == api.TmKey || v.Kind == api.TmNonce:
		return false
	case v.Kind == api.TmShare:
		if l.all(v.Args) {
			return true
		}
		for y := range l.had {
			w, _ := l.a.View(y)
			if w.Kind == api.TmShare && w.S == v.S {
				if rest, is := less(v.Args, w.Args); is && l.all(rest) {
					return true
				}
			}
		}
		return false
	}
	return l.all(v.Args)
}

func (l literal) all(x []api.ID) bool {
	return !slices.ContainsFunc(x, func(y api.ID) bool { return !l.can(y) })
}

// less is a multiset without another one, if that is a part of it.
func less(all, some []api.ID) ([]api.ID, bool) {
	times := map[api.ID]int{}
	for _, x := range all {
		times[x]++
	}
	for _, x := range some {
		times[x]--
	}
	var rest []api.ID
	for x, n := range times {
		if n < 0 {
			return nil, false
		}
		rest = append(rest, slices.Repeat([]api.ID{x}, n)...)
	}
	return rest, true
}

// roll is a row of numbers that only looks random.
type roll uint32

func (r *roll) next(n int) int {
	*r = *r*1664525 + 1013904223
	return int(uint32(*r)>>8) % n
}

// some is a term of an arena.
func (r *roll) some(a *term.Arena) api.ID {
	return api.ID(r.next(a.Len()))
}

// fill makes terms of those that there are already: mostly such that may hide or open something.
func (r *roll) fill(a *term.Arena, n int) {
	for who := range 3 {
		a.Nonce(who, 0)
		a.Nonce(who, 1)
	}
	for range n {
		switch r.next(16) {
		case 0:
			a.Data([]string{"x", "y"}[r.next(2)])
		case 1:
			a.Key(r.next(3))
		case 2:
			a.Pub(a.Key(r.next(3)))
		case 3, 4, 5:
			a.Exp(a.Base([]string{"g", "h"}[r.next(4)/3]), a.Nonce(r.next(3), r.next(2)))
		case 6, 7:
			a.Exp(r.some(a), a.Nonce(r.next(3), r.next(2)))
		case 8:
			a.Sign("alg", a.Key(r.next(3)), r.some(a))
		case 9:
			a.Hash(r.some(a))
		case 10:
			a.Derive(byte(r.next(256)), r.some(a), r.some(a), r.some(a))
		case 11, 12, 13:
			a.Seal(r.some(a), uint32(r.next(2)), r.some(a))
		default:
			a.List(r.some(a), r.some(a), r.some(a))
		}
	}
}

// scene returns an arena with some of its terms known and some sent.
func (r *roll) scene(t *testing.T) scene {
	s := scene{t: t, a: term.New()}
	r.fill(s.a, 10+r.next(60))
	for range r.next(4) {
		s.known = append(s.known, r.some(s.a))
	}
	for range r.next(8) {
		s.sent = append(s.sent, r.some(s.a)-api.ID(r.next(2)))
	}
	return s
}

// 33.1, 33.2: in arenas of all sorts, each term as the document has it, in whichever order it is asked for.
func TestLiteral(t *testing.T) {
	r := roll(33)
	opened, composed, hidden := 0, 0, 0
	for range 1500 {
		s := r.scene(t)
		want, m := s.literal(), s.mind()
		if m.Len() != len(want.had) {
			t.Fatalf("%v, %v: %d terms, not %d", s.known, s.sent, m.Len(), len(want.had))
		}
		if len(want.had) > len(s.known)+len(s.sent) {
			opened++
		}
		n := s.a.Len()
		first, step := r.next(n), []int{1, n - 1}[r.next(2)]
		for i := range n {
			x := api.ID((first + i*step) % n)
			can := want.can(x)
			if m.Has(x) != want.had[x] || m.Can(x) != can {
				t.Fatalf("%v, %v: term %d: had %v, can %v, not %v, %v", s.known, s.sent, x, m.Has(x), m.Can(x), want.had[x], can)
			}
			ops, is := m.How(x)
			if is != can || !is && len(ops) != 0 {
				t.Fatalf("%v, %v: term %d: How: %v, %v", s.known, s.sent, x, ops, is)
			}
			if can {
				s.wantRecipe("literal", x, ops)
			}
			if can && !want.had[x] {
				composed++
			}
			if !can {
				hidden++
			}
		}
		if t.Failed() {
			return
		}
	}
	if opened < 100 || composed < 1000 || hidden < 1000 {
		t.Errorf("%d scenes with more than was given, %d terms composed, %d hidden", opened, composed, hidden)
	}
}

// steps are n steps that look random; most of their operands are earlier steps.
func (r *roll) steps(n int) []api.Op {
	var l []api.Op
	for i := range n {
		op := api.Op{Kind: r.next(15), S: []string{"x", "g", "A", "alg"}[r.next(4)]}
		for _, p := range []*int{&op.A, &op.B, &op.C} {
			*p = r.next(i+2) - r.next(2)
		}
		l = append(l, op)
	}
	return l
}

// 33.3: whatever a recipe yields can be constructed, and so can everything that could be constructed
// with less.
func TestRecipes(t *testing.T) {
	r := roll(34)
	made := 0
	for range 400 {
		s := r.scene(t)
		before := s.mind()
		for range 8 {
			for _, x := range recipe.All(s.a, s.known, s.sent, r.steps(api.MaxOps)) {
				if x == api.None {
					continue
				}
				made++
				if !before.Can(x) {
					t.Fatalf("%v, %v: term %d", s.known, s.sent, x)
				}
			}
		}
		more := s
		more.known = append([]api.ID{r.some(s.a)}, s.known...)
		more.sent = append(slices.Clone(s.sent), r.some(s.a))
		after := more.mind()
		for x := range api.ID(s.a.Len()) {
			if before.Can(x) && !after.Can(x) || before.Has(x) && !after.Has(x) {
				t.Fatalf("%v, %v: term %d was lost", more.known, more.sent, x)
			}
		}
	}
	if made < 10000 {
		t.Errorf("only %d terms", made)
	}
}
