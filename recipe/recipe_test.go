package recipe_test

import (
	"math"
	"slices"
	"strings"
	"testing"

	"shibboleth/api"
	"shibboleth/recipe"
	"shibboleth/term"
)

// kinds returns a term of each kind, and some more, no two of which are equal.
func kinds(a *term.Arena) []api.ID {
	key, data, nonce := a.Key(3), a.Data("d"), a.Nonce(1, 2)
	share := a.Exp(a.Base("g"), nonce)
	hash := a.Hash(data)
	return []api.ID{
		data, nonce, key, a.Pub(key), share, a.Sign("alg", key, hash), hash, a.Derive('C', share, hash, hash), a.Seal(key, 7, data), a.List(key, data, share),
		a.Data(""), a.Nonce(0, 2), a.Key(4), a.Base("g"), a.Exp(share, a.Nonce(0, 1)), a.Seal(data, 0, key), a.Seal(nonce, 1, hash), a.List(), a.List(a.List()),
	}
}

// know are the steps that yield the first n known terms, so that step i yields the known term i.
func know(n int) []api.Op {
	var l []api.Op
	for i := range n {
		l = append(l, api.Op{Kind: api.OpKnow, A: i})
	}
	return l
}

// evaluate returns the results of all steps, and checks Eval by them.
func evaluate(t *testing.T, a *term.Arena, known, sent []api.ID, l ...api.Op) []api.ID {
	t.Helper()
	all := recipe.All(a, known, sent, l)
	if len(all) != len(l) {
		t.Fatalf("%d results of %d steps", len(all), len(l))
	}
	if x := recipe.Eval(a, known, sent, l); x != all[len(all)-1] {
		t.Errorf("Eval %d, All %v", x, all)
	}
	if !recipe.Right(l) {
		t.Errorf("Right of %d steps", len(l))
	}
	return all
}

// wantAlone checks the result of a step that needs no other one.
func wantAlone(t *testing.T, a *term.Arena, op api.Op, want api.ID) {
	t.Helper()
	if got := evaluate(t, a, nil, nil, op)[0]; got != want {
		t.Errorf("%+v: %d, not %d", head(op), got, want)
	}
}

// wantStep checks the result of a step behind the ones that yield the known terms.
func wantStep(t *testing.T, a *term.Arena, known []api.ID, op api.Op, want api.ID) {
	t.Helper()
	all := evaluate(t, a, known, nil, append(know(len(known)), op)...)
	if got := all[len(known)]; got != want || !slices.Equal(all[:len(known)], known) {
		t.Errorf("%+v: %d, not %d", head(op), got, want)
	}
}

// head shortens what an error tells.
func head(op api.Op) api.Op {
	op.S = op.S[:min(len(op.S), 30)]
	return op
}

func view(a *term.Arena, x api.ID) api.Node {
	v, _ := a.View(x)
	return v
}

// 14.1: the chapter's example.
func TestExample(t *testing.T) {
	a := term.New()
	all := evaluate(t, a, nil, nil, api.Op{Kind: api.OpData, S: "a"}, api.Op{Kind: api.OpHash, A: 0})
	if !slices.Equal(all, []api.ID{a.Data("a"), a.Hash(a.Data("a"))}) {
		t.Errorf("%v", all)
	}
}

// 14.1: data of any bytes; a term that would be too long is none.
func TestData(t *testing.T) {
	a := term.New()
	for _, s := range []string{"", "a", "\x00\xff", strings.Repeat("x", api.MaxTerm-5)} {
		wantAlone(t, a, api.Op{Kind: api.OpData, S: s, A: -1, B: 99, C: math.MinInt}, a.Data(s))
	}
	wantAlone(t, a, api.Op{Kind: api.OpData, S: strings.Repeat("x", api.MaxTerm-4)}, api.None)
}

// 14.1: the adversary's nonces only.
func TestNonce(t *testing.T) {
	a := term.New()
	for _, n := range []int{0, 1, 1000, api.MaxNumber} {
		wantAlone(t, a, api.Op{Kind: api.OpNonce, A: n, B: 3, C: 4, S: "x"}, a.Nonce(0, n))
	}
	for _, n := range []int{-1, math.MinInt, api.MaxNumber + 1, math.MaxInt} {
		wantAlone(t, a, api.Op{Kind: api.OpNonce, A: n}, api.None)
	}
}

// 14.1: groups' names of each length that is permitted.
func TestBase(t *testing.T) {
	a := term.New()
	for _, n := range []int{1, 2, api.MaxGroup} {
		s := strings.Repeat("g", n)
		wantAlone(t, a, api.Op{Kind: api.OpBase, S: s, A: -1, B: -1, C: -1}, a.Base(s))
	}
	for _, n := range []int{0, api.MaxGroup + 1} {
		wantAlone(t, a, api.Op{Kind: api.OpBase, S: strings.Repeat("g", n)}, api.None)
	}
}

// 14.1: known and sent terms by their index, just inside and just outside.
func TestGiven(t *testing.T) {
	a := term.New()
	l := kinds(a)
	known, sent := l[:5], l[5:12]
	for kind, given := range map[int][]api.ID{api.OpKnow: known, api.OpSent: sent} {
		for i, x := range given {
			op := api.Op{Kind: kind, A: i, B: -1, C: 99, S: "s"}
			if got := evaluate(t, a, known, sent, op)[0]; got != x {
				t.Errorf("%+v: %d, not %d", op, got, x)
			}
		}
		for _, i := range []int{-1, -2, math.MinInt, len(given), len(given) + 1, math.MaxInt} {
			op := api.Op{Kind: kind, A: i}
			if got := evaluate(t, a, known, sent, op)[0]; got != api.None {
				t.Errorf("%+v: %d, not None", op, got)
			}
			wantAlone(t, a, op, api.None)
		}
		wantAlone(t, a, api.Op{Kind: kind}, api.None)
	}
}

// 14.1: known and sent numbers that name no term, also if a step's term takes the number.
func TestGivenMissing(t *testing.T) {
	a := term.New()
	x := a.Key(1)
	for _, n := range []api.ID{math.MinInt, -2, api.None, api.ID(a.Len()), api.ID(a.Len()) + 1, math.MaxInt} {
		b := term.New()
		b.Key(1)
		given := []api.ID{x, n, x}
		l := []api.Op{{Kind: api.OpKnow, A: 0}, {Kind: api.OpKnow, A: 1}, {Kind: api.OpKnow, A: 2}, {Kind: api.OpHash, A: 1}}
		want := []api.ID{x, api.None, x, api.None}
		if got := recipe.All(b, given, nil, l); !slices.Equal(got, want) {
			t.Errorf("known %d: %v", n, got)
		}
		l[0].Kind, l[1].Kind, l[2].Kind = api.OpSent, api.OpSent, api.OpSent
		if got := recipe.All(b, nil, given, l); !slices.Equal(got, want) {
			t.Errorf("sent %d: %v", n, got)
		}
		l = []api.Op{{Kind: api.OpData, S: "0"}, {Kind: api.OpData, S: "1"}, {Kind: api.OpKnow, A: 1}, {Kind: api.OpSent, A: 1}}
		if got := recipe.All(b, given, given, l); !slices.Equal(got, []api.ID{1, 2, api.None, api.None}) {
			t.Errorf("known and sent %d, behind new terms: %v", n, got)
		}
	}
	if got := recipe.All(term.New(), []api.ID{0}, []api.ID{0}, []api.Op{{Kind: api.OpKnow}, {Kind: api.OpSent}}); !slices.Equal(got, []api.ID{api.None, api.None}) {
		t.Errorf("an empty arena: %v", got)
	}
}

// 14.1: steps with one operand, and terms of each kind.
func TestOneOperand(t *testing.T) {
	a := term.New()
	l := kinds(a)
	for i, x := range l {
		wantStep(t, a, l, api.Op{Kind: api.OpHash, A: i, B: 99, C: -1, S: "s"}, a.Hash(x))
		pub := api.ID(api.None)
		if a.Kind(x) == api.TmKey {
			pub = a.Pub(x)
		}
		wantStep(t, a, l, api.Op{Kind: api.OpPub, A: i, B: 99, C: -1, S: "s"}, pub)
	}
}

// 14.1: steps with two operands, and terms of each two kinds. A constructor of layer 1 says itself
// what is permitted.
func TestTwoOperands(t *testing.T) {
	a := term.New()
	l := kinds(a)
	for i, x := range l {
		for j, y := range l {
			wantStep(t, a, l, api.Op{Kind: api.OpExp, A: i, B: j, C: -1, S: "s"}, a.Exp(x, y))
			wantStep(t, a, l, api.Op{Kind: api.OpSign, A: i, B: j, C: -1, S: "rsa"}, a.Sign("rsa", x, y))
			wantStep(t, a, l, api.Op{Kind: api.OpSeal, A: i, B: j, C: 5, S: "s"}, a.Seal(x, 5, y))
			for k, z := range l {
				wantStep(t, a, l, api.Op{Kind: api.OpDerive, A: i, B: j, C: k, S: "A"}, a.Derive('A', x, y, z))
			}
		}
	}
}

// 14.1, 14.2: what is sealed is opened with its key only, and nothing else is opened.
func TestOpen(t *testing.T) {
	a := term.New()
	l := kinds(a)
	opened := 0
	for i, x := range l {
		for j, key := range l {
			want := api.ID(api.None)
			if v := view(a, x); v.Kind == api.TmSeal && v.Args[0] == key {
				want = v.Args[1]
				opened++
			}
			wantStep(t, a, l, api.Op{Kind: api.OpOpen, A: i, B: j, C: -1, S: "s"}, want)
		}
	}
	if opened != 3 {
		t.Errorf("%d opened", opened)
	}
	// A key that is equal is the key, whichever step yields it; its public key is not.
	l = []api.ID{a.Seal(a.Nonce(0, 9), 3, a.Key(8)), a.Key(2), a.Seal(a.Key(2), 3, a.Key(8))}
	wantStep(t, a, l, api.Op{Kind: api.OpOpen, A: 0, B: 1}, api.None)
	wantStep(t, a, l, api.Op{Kind: api.OpOpen, A: 2, B: 1}, a.Key(8))
	all := evaluate(t, a, l, nil, append(know(3), api.Op{Kind: api.OpNonce, A: 9}, api.Op{Kind: api.OpOpen, A: 0, B: 3}, api.Op{Kind: api.OpPub, A: 1}, api.Op{Kind: api.OpOpen, A: 2, B: 5})...)
	if all[4] != a.Key(8) || all[6] != api.None {
		t.Errorf("%v", all)
	}
}

// 14.1: lists, element by element; no other term has elements.
func TestLists(t *testing.T) {
	a := term.New()
	l := kinds(a)
	wantStep(t, a, l, api.Op{Kind: api.OpEmpty, A: -1, B: 99, C: -1, S: "s"}, a.List())
	for i, x := range l {
		v := view(a, x)
		isList := v.Kind == api.TmList
		for j, y := range l {
			want := api.ID(api.None)
			if isList {
				want = a.List(append(slices.Clone(v.Args), y)...)
			}
			wantStep(t, a, l, api.Op{Kind: api.OpAdd, A: i, B: j, C: -1, S: "s"}, want)
		}
		for _, n := range []int{math.MinInt, -1, 0, 1, 2, 3, 4, math.MaxInt} {
			want := api.ID(api.None)
			if isList && n >= 0 && n < len(v.Args) {
				want = v.Args[n]
			}
			wantStep(t, a, l, api.Op{Kind: api.OpAt, A: i, B: n, C: -1, S: "s"}, want)
		}
	}
}

// 14.1: an index of a list's element is not a step's number: it may be that of a later one.
func TestAtIsNoStep(t *testing.T) {
	a := term.New()
	x, y, z := a.Data("x"), a.Data("y"), a.Data("z")
	l := []api.ID{a.List(z, y, x, z, y)}
	for i, want := range []api.ID{z, y, x, z, y, api.None} {
		wantStep(t, a, l, api.Op{Kind: api.OpAt, A: 0, B: i}, want)
	}
}

// 14.1: a list of as many terms as there may be, and of one more.
func TestLongLists(t *testing.T) {
	a := term.New()
	l := []api.Op{{Kind: api.OpEmpty}, {Kind: api.OpNonce, A: 1}}
	var want []api.ID
	for i := range api.MaxArgs {
		list := 0
		if i > 0 {
			list = len(l) - 1
		}
		l = append(l, api.Op{Kind: api.OpAdd, A: list, B: 1})
		want = append(want, a.Nonce(0, 1))
		if got := recipe.Eval(a, nil, nil, l); got != a.List(want...) {
			t.Errorf("%d elements: %d", i+1, got)
		}
	}
	l = append(l, api.Op{Kind: api.OpAdd, A: len(l) - 1, B: 1}, api.Op{Kind: api.OpAt, A: len(l) - 1, B: api.MaxArgs - 1}, api.Op{Kind: api.OpAt, A: len(l) - 1, B: api.MaxArgs})
	got := recipe.All(a, nil, nil, l)
	if n := len(got); n != api.MaxArgs+5 || got[n-3] != api.None || got[n-2] != a.Nonce(0, 1) || got[n-1] != api.None {
		t.Errorf("behind %d elements: %v", api.MaxArgs, got)
	}
}

// 14.1: shares with as many exponents as there may be, and with one more.
func TestManyExponents(t *testing.T) {
	a := term.New()
	l := []api.Op{{Kind: api.OpNonce, A: 1}, {Kind: api.OpBase, S: "g"}}
	want := a.Base("g")
	for i := range api.MaxExps {
		l = append(l, api.Op{Kind: api.OpExp, A: i + 1, B: 0})
		want = a.Exp(want, a.Nonce(0, 1))
	}
	if got := recipe.Eval(a, nil, nil, l); got != want || got == api.None {
		t.Errorf("%d exponents: %d", api.MaxExps, got)
	}
	if got := recipe.Eval(a, nil, nil, append(l, api.Op{Kind: api.OpExp, A: api.MaxExps + 1, B: 0})); got != api.None {
		t.Errorf("one more: %d", got)
	}
}

// 14.1: a derived key's letter is the first byte of S; there has to be one.
func TestDeriveLetter(t *testing.T) {
	a := term.New()
	x, y, z := a.Data("x"), a.Data("y"), a.Data("z")
	l := []api.ID{x, y, z}
	for s, letter := range map[string]byte{"A": 'A', "B": 'B', "BA": 'B', "ABCDEF": 'A', "\x00": 0, "\x00A": 0, "\xff": 255, "é": 0xc3, strings.Repeat("F", 1000): 'F'} {
		wantStep(t, a, l, api.Op{Kind: api.OpDerive, A: 0, B: 1, C: 2, S: s}, a.Derive(letter, x, y, z))
	}
	wantStep(t, a, l, api.Op{Kind: api.OpDerive, A: 0, B: 1, C: 2}, api.None)
	wantStep(t, a, l, api.Op{Kind: api.OpDerive, A: 2, B: 0, C: 0, S: "A"}, a.Derive('A', z, x, x))
}

// 14.1: sequence numbers, which are C, from 0 to 2^32 - 1.
func TestSealNumber(t *testing.T) {
	a := term.New()
	key, x := a.Key(1), a.Data("x")
	l := []api.ID{key, x}
	for _, n := range []uint32{0, 1, 255, 1<<31 - 1, 1 << 31, 1<<32 - 2, 1<<32 - 1} {
		op := api.Op{Kind: api.OpSeal, A: 0, B: 1, C: int(n)}
		wantStep(t, a, l, op, a.Seal(key, n, x))
		wantStep(t, a, l, api.Op{Kind: api.OpSeal, A: 1, B: 0, C: int(n)}, a.Seal(x, n, key))
	}
	for _, n := range []int{-1, -1 << 32, math.MinInt, 1 << 32, 1<<32 + 1, 1 << 40, math.MaxInt} {
		wantStep(t, a, l, api.Op{Kind: api.OpSeal, A: 0, B: 1, C: n}, api.None)
	}
}

// 14.1: algorithms' names of each length that is permitted.
func TestSignName(t *testing.T) {
	a := term.New()
	key, x := a.Key(1), a.Data("x")
	l := []api.ID{key, x}
	for _, n := range []int{1, 2, api.MaxText} {
		s := strings.Repeat("s", n)
		wantStep(t, a, l, api.Op{Kind: api.OpSign, A: 0, B: 1, S: s}, a.Sign(s, key, x))
	}
	for _, n := range []int{0, api.MaxText + 1} {
		wantStep(t, a, l, api.Op{Kind: api.OpSign, A: 0, B: 1, S: strings.Repeat("s", n)}, api.None)
	}
}

// 14.1: of each kind of a step the longest term that may be, and terms that would be too long.
func TestTooLong(t *testing.T) {
	for kind, own := range map[int]int{api.OpHash: 1, api.OpSign: 5 + 1 + 5, api.OpSeal: 5 + 5, api.OpDerive: 2 + 5 + 5, api.OpAdd: 5} {
		for extra := range 3 {
			a := term.New()
			key, huge := a.Key(1), a.Data(strings.Repeat("x", api.MaxTerm-own-5+extra))
			known := []api.ID{key, huge, a.List()}
			op := api.Op{Kind: kind, A: 0, B: 1, S: "s"}
			switch kind {
			case api.OpHash:
				op.A = 1
			case api.OpAdd:
				op.A = 2
			}
			x := evaluate(t, a, known, nil, append(know(3), op)...)[3]
			if extra == 0 && a.Size(x) != api.MaxTerm || extra > 0 && x != api.None {
				t.Errorf("kind %d, %d bytes more: %d of size %d", kind, extra, x, a.Size(x))
			}
		}
	}
}

// operand is a step, with a right operand, and which of its operands is to be another one.
type operand struct {
	op  api.Op
	set func(op *api.Op, n int)
}

func setA(op *api.Op, n int) { op.A = n }
func setB(op *api.Op, n int) { op.B = n }
func setC(op *api.Op, n int) { op.C = n }

// operands are all operands of all steps, that are right behind the steps: a secret key, a share,
// an own nonce, a sealed term, a list.
func operands() []operand {
	exp, sign := api.Op{Kind: api.OpExp, A: 1, B: 2}, api.Op{Kind: api.OpSign, A: 0, B: 1, S: "s"}
	derive, seal := api.Op{Kind: api.OpDerive, A: 0, B: 1, C: 2, S: "A"}, api.Op{Kind: api.OpSeal, A: 0, B: 1, C: 2}
	open, add := api.Op{Kind: api.OpOpen, A: 3, B: 2}, api.Op{Kind: api.OpAdd, A: 4, B: 0}
	return []operand{
		{exp, setA}, {exp, setB}, {api.Op{Kind: api.OpPub}, setA}, {sign, setA}, {sign, setB}, {api.Op{Kind: api.OpHash}, setA},
		{derive, setA}, {derive, setB}, {derive, setC}, {seal, setA}, {seal, setB}, {open, setA}, {open, setB}, {add, setA}, {add, setB}, {api.Op{Kind: api.OpAt, A: 4}, setA},
	}
}

// 14.1: an operand that is the step itself, a later one, a negative number, or a step without a result.
func TestOperands(t *testing.T) {
	a := term.New()
	key, share, nonce := a.Key(1), a.Base("g"), a.Nonce(0, 1)
	known := []api.ID{key, share, nonce, a.Seal(nonce, 0, key), a.List(key)}
	for _, o := range operands() {
		steps := append(know(5), api.Op{Kind: -1})
		if x := evaluate(t, a, known, nil, append(steps, o.op)...)[6]; x == api.None {
			t.Errorf("%+v: None", o.op)
		}
		for _, n := range []int{5, 6, 7, 8, 63, 64, 1000, math.MaxInt, -1, -2, math.MinInt} {
			op := o.op
			o.set(&op, n)
			// What comes behind has results, one of which would be right for each of the operands.
			l := slices.Concat(steps, []api.Op{op}, know(5), know(5))
			if got := evaluate(t, a, known, nil, l...)[6]; got != api.None {
				t.Errorf("%+v: %d, not None", op, got)
			}
		}
	}
}

// 14.1: the operand that is the step before, and the first step, which has none before it.
func TestStepBefore(t *testing.T) {
	a := term.New()
	want := a.Data("x")
	l := []api.Op{{Kind: api.OpData, S: "x"}}
	for n := 1; n < api.MaxOps; n++ {
		l = append(l, api.Op{Kind: api.OpHash, A: n - 1})
		want = a.Hash(want)
	}
	if got := evaluate(t, a, nil, nil, l...)[api.MaxOps-1]; got != want {
		t.Errorf("%d, not %d", got, want)
	}
	for _, o := range operands() {
		wantAlone(t, a, o.op, api.None)
		op := o.op
		op.A, op.B, op.C = 0, 0, 0
		wantAlone(t, a, op, api.None)
	}
}

// 14.1: a step without a result leaves the other ones as they are.
func TestNoneAmongOthers(t *testing.T) {
	a := term.New()
	l := []api.Op{{Kind: api.OpData, S: "x"}, {Kind: 99}, {Kind: api.OpHash, A: 1}, {Kind: api.OpHash, A: 0}, {Kind: api.OpAdd, A: 3, B: 3}}
	x := a.Data("x")
	if got := evaluate(t, a, nil, nil, l...); !slices.Equal(got, []api.ID{x, api.None, api.None, a.Hash(x), api.None}) {
		t.Errorf("%v", got)
	}
	if got := recipe.Eval(a, nil, nil, l); got != api.None {
		t.Errorf("Eval: %d", got)
	}
}

// 14.1: kinds of steps that there are not.
func TestNoKind(t *testing.T) {
	a := term.New()
	l := kinds(a)
	for _, kind := range []int{-1, -2, 15, 16, 255, 256, 1 << 32, math.MinInt, math.MaxInt} {
		wantStep(t, a, l, api.Op{Kind: kind, S: "x"}, api.None)
		wantStep(t, a, l, api.Op{Kind: kind, A: 9, B: 1, C: 1, S: "x"}, api.None)
	}
}

// 14.1: no steps, as many as there may be, and more.
func TestSteps(t *testing.T) {
	a := term.New()
	if l := recipe.All(a, nil, nil, nil); len(l) != 0 || recipe.Eval(a, nil, nil, nil) != api.None || !recipe.Right(nil) {
		t.Errorf("no steps: %v", l)
	}
	if l := recipe.All(a, nil, nil, []api.Op{}); len(l) != 0 || recipe.Eval(a, nil, nil, []api.Op{}) != api.None || !recipe.Right([]api.Op{}) {
		t.Errorf("an empty slice of steps: %v", l)
	}
	for _, n := range []int{1, 2, api.MaxOps - 1, api.MaxOps} {
		l := slices.Repeat([]api.Op{{Kind: api.OpData, S: "x"}}, n)
		if got := evaluate(t, a, nil, nil, l...); !slices.Equal(got, slices.Repeat([]api.ID{a.Data("x")}, n)) {
			t.Errorf("%d steps: %v", n, got)
		}
	}
	for _, n := range []int{api.MaxOps + 1, api.MaxOps + 2, 1000} {
		b := term.New()
		l := slices.Repeat([]api.Op{{Kind: api.OpData, S: "x"}}, n)
		if got := recipe.All(b, nil, nil, l); len(got) != 0 || recipe.Eval(b, nil, nil, l) != api.None || recipe.Right(l) || b.Len() != 0 {
			t.Errorf("%d steps: %v", n, got)
		}
	}
}

// 14.1: no arena.
func TestNilArena(t *testing.T) {
	for _, n := range []int{0, 1, api.MaxOps, api.MaxOps + 1} {
		l := make([]api.Op, n)
		if got := recipe.All(nil, []api.ID{0}, []api.ID{0}, l); len(got) != 0 || recipe.Eval(nil, []api.ID{0}, []api.ID{0}, l) != api.None {
			t.Errorf("%d steps: %v", n, got)
		}
	}
}

// 14.1: what is given stays as it is, and what is answered is not kept.
func TestNothingShared(t *testing.T) {
	a := term.New()
	l := kinds(a)
	known, sent := slices.Clone(l[:9]), slices.Clone(l[9:])
	steps := append(know(9), api.Op{Kind: api.OpSent, A: 0}, api.Op{Kind: api.OpAdd, A: 9, B: 2}, api.Op{Kind: api.OpAdd, A: 9, B: 3}, api.Op{Kind: api.OpExp, A: 4, B: 1})
	given := slices.Clone(steps)
	first := evaluate(t, a, known, sent, steps...)
	want := slices.Clone(first)
	for i := range first {
		first[i] = api.None
	}
	if got := evaluate(t, a, known, sent, steps...); !slices.Equal(got, want) {
		t.Errorf("%v, not %v", got, want)
	}
	if !slices.Equal(known, l[:9]) || !slices.Equal(sent, l[9:]) || !slices.Equal(steps, given) {
		t.Errorf("what was given has changed")
	}
	if v := view(a, l[9]); len(v.Args) != 3 || v.Args[0] != l[2] {
		t.Errorf("a list has changed: %v", v)
	}
}

// secrets adds the secret keys, and the other participants' nonces, that occur in a term.
func secrets(a *term.Arena, x api.ID, found map[api.ID]int) {
	v := view(a, x)
	if v.Kind == api.TmKey || v.Kind == api.TmNonce && v.A != 0 {
		found[x]++
	}
	for _, y := range v.Args {
		secrets(a, y, found)
	}
}

// random is a sequence of numbers below n that look arbitrary.
type random uint64

func (r *random) below(n int) int {
	*r = *r*6364136223846793005 + 1442695040888963407
	return int(*r>>33) % n
}

// steps are n steps that look arbitrary; most of their operands are earlier steps.
func (r *random) steps(n int) []api.Op {
	var l []api.Op
	for i := range n {
		op := api.Op{Kind: r.below(17) - 1, S: []string{"", "g", "A", "alg"}[r.below(4)]}
		for _, p := range []*int{&op.A, &op.B, &op.C} {
			*p = r.below(i+3) - 1
		}
		l = append(l, op)
	}
	return l
}

// 14.2: no recipe yields a secret key or another participant's nonce, or a term in which one occurs,
// that does not occur in what is known and sent; and nothing is opened without its key.
func TestNothingOutOfNothing(t *testing.T) {
	a := term.New()
	own, x, y := a.Nonce(0, 0), a.Nonce(1, 0), a.Nonce(2, 0)
	locked := a.Seal(a.Key(5), 1, a.List(x, a.Key(6)))
	known := []api.ID{a.Pub(a.Key(5)), a.Pub(a.Key(6)), a.Key(7)}
	sent := []api.ID{locked, a.Exp(a.Base("g"), y), a.Seal(own, 0, a.List(locked, a.Hash(x))), a.List(a.Data("d"), own), a.Sign("alg", a.Key(6), x), a.Hash(a.Key(5))}
	may := map[api.ID]int{}
	for _, z := range slices.Concat(known, sent) {
		secrets(a, z, may)
	}
	never := []api.ID{a.Key(5), a.Key(6), x, y, a.List(x, a.Key(6))}
	for _, k := range []int{0, 1, 5, 9} {
		for _, n := range []int{0, 7} {
			a.Nonce(k, n)
			a.Key(k + 10)
		}
	}
	var r random
	made := 0
	for range 3000 {
		l := r.steps(1 + r.below(api.MaxOps))
		for i, z := range evaluate(t, a, known, sent, l...) {
			found := map[api.ID]int{}
			secrets(a, z, found)
			for s := range found {
				if may[s] == 0 {
					t.Fatalf("step %d of %+v: %d with %d in it", i, l, z, s)
				}
			}
			if slices.Contains(never, z) {
				t.Fatalf("step %d of %+v: %d", i, l, z)
			}
			if z != api.None {
				made++
			}
		}
	}
	if made < 10000 {
		t.Errorf("only %d terms", made)
	}
}
