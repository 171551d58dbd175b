package trans_test

import (
	"math"
	"slices"
	"strconv"
	"strings"
	"testing"

	"shibboleth/api"
	"shibboleth/term"
	"shibboleth/trans"
)

// plain returns parts without a group request, no two of which are equal.
func plain(a *term.Arena) trans.Parts {
	return trans.Parts{
		VC: "SSH-2.0-c", VS: "SSH-2.0-s", IC: "\x14c", IS: "\x14s",
		Key: a.Pub(a.Key(1)),
		E:   a.Exp(a.Base("g"), a.Nonce(1, 0)), F: a.Exp(a.Base("g"), a.Nonce(2, 0)), K: a.Exp(a.Exp(a.Base("g"), a.Nonce(1, 0)), a.Nonce(2, 0)),
	}
}

// asking returns parts with a group request, no two of which are equal.
func asking(a *term.Arena) trans.Parts {
	p := plain(a)
	p.Asks, p.Wish, p.Group = true, [3]uint32{1024, 2048, 8192}, api.Group{P: "\x80\x01", G: "\x02"}
	return p
}

// elements returns the elements of the hash input, and checks the hash by them.
func elements(t *testing.T, a *term.Arena, p trans.Parts) []api.ID {
	t.Helper()
	l := trans.List(a, p)
	v, is := a.View(l)
	if !is || v.Kind != api.TmList {
		t.Fatalf("no list: %d, %+v", l, v)
	}
	h := trans.Hash(a, p)
	if n, is := a.View(h); !is || n.Kind != api.TmHash || !slices.Equal(n.Args, []api.ID{l}) {
		t.Errorf("the hash of %d: %+v", l, n)
	}
	return v.Args
}

// wantData asks for data terms with these bytes, from the element first on.
func wantData(t *testing.T, a *term.Arena, l []api.ID, first int, want ...string) {
	t.Helper()
	for i, s := range want {
		if v, _ := a.View(l[first+i]); v.Kind != api.TmData || v.S != s {
			t.Errorf("element %d: %+v, not data %q", first+i, v, s)
		}
	}
}

// wantNone asks for no hash input, and for no hash.
func wantNone(t *testing.T, a *term.Arena, p trans.Parts, what string) {
	t.Helper()
	if l, h := trans.List(a, p), trans.Hash(a, p); l != api.None || h != api.None {
		t.Errorf("%s: %d, %d", what, l, h)
	}
}

// missing returns numbers that no term of the arena has. The last ones are those of the terms that
// come next: to make the hash input must not make them exist.
func missing(a *term.Arena) []api.ID {
	l := []api.ID{api.None, -2, math.MinInt, 1 << 32, math.MaxInt}
	for i := range 16 {
		l = append(l, api.ID(a.Len()+i))
	}
	return l
}

// 20.1, example 1: without a group request there are eight elements.
func TestPlain(t *testing.T) {
	a := term.New()
	p := plain(a)
	l := elements(t, a, p)
	if len(l) != 8 {
		t.Fatalf("%d elements", len(l))
	}
	wantData(t, a, l, 0, "SSH-2.0-c", "SSH-2.0-s", "\x14c", "\x14s")
	if !slices.Equal(l[4:], []api.ID{p.Key, p.E, p.F, p.K}) {
		t.Errorf("%v", l)
	}
}

// 20.1, example 1: with a group request there are thirteen.
func TestAsking(t *testing.T) {
	a := term.New()
	p := asking(a)
	l := elements(t, a, p)
	if len(l) != 13 {
		t.Fatalf("%d elements", len(l))
	}
	wantData(t, a, l, 0, "SSH-2.0-c", "SSH-2.0-s", "\x14c", "\x14s")
	if l[4] != p.Key {
		t.Errorf("%v", l)
	}
	wantData(t, a, l, 5, "\x00\x00\x04\x00", "\x00\x00\x08\x00", "\x00\x00\x20\x00", "\x00\x00\x00\x03\x00\x80\x01", "\x00\x00\x00\x01\x02")
	if !slices.Equal(l[10:], []api.ID{p.E, p.F, p.K}) {
		t.Errorf("%v", l)
	}
}

// 20.1: any strings will do, and become data, also those that are encodings of other terms.
func TestStrings(t *testing.T) {
	key := "\xf3\x00\x00\x00\x01" // the encoding of the secret key 1
	for _, s := range []string{"", "a", "\x00", "\xff\xfe", "a\r\nb", key, "\xf1\x00\x00\x00\x01a", strings.Repeat("x", 40000)} {
		a := term.New()
		for _, p := range []trans.Parts{plain(a), asking(a)} {
			n := len(elements(t, a, p))
			p.VC = s
			wantData(t, a, elements(t, a, p), 0, s, "SSH-2.0-s", "\x14c", "\x14s")
			p.VC, p.VS = "", s
			wantData(t, a, elements(t, a, p), 0, "", s, "\x14c", "\x14s")
			p.VS, p.IC = "", s
			wantData(t, a, elements(t, a, p), 0, "", "", s, "\x14s")
			p.IC, p.IS = "", s
			l := elements(t, a, p)
			wantData(t, a, l, 0, "", "", "", s)
			if len(l) != n {
				t.Errorf("%d elements, not %d", len(l), n)
			}
		}
	}
}

// 20.1: all requested sizes, as four bytes each, also those that nobody may ask for.
func TestWish(t *testing.T) {
	a := term.New()
	for n, s := range map[uint32]string{0: "\x00\x00\x00\x00", 1: "\x00\x00\x00\x01", 255: "\x00\x00\x00\xff", 256: "\x00\x00\x01\x00", 0x01020304: "\x01\x02\x03\x04", 1 << 31: "\x80\x00\x00\x00", math.MaxUint32: "\xff\xff\xff\xff"} {
		for i := range 3 {
			p := asking(a)
			p.Wish = [3]uint32{7, 8, 9}
			p.Wish[i] = n
			want := []string{"\x00\x00\x00\x07", "\x00\x00\x00\x08", "\x00\x00\x00\x09"}
			want[i] = s
			wantData(t, a, elements(t, a, p), 5, want...)
		}
	}
}

// 20.1: modulus and generator in wire form: no leading zero bytes, but one if there has to be one.
func TestGroup(t *testing.T) {
	a := term.New()
	for _, x := range []struct{ s, want string }{
		{"", "\x00\x00\x00\x00"},
		{"\x00", "\x00\x00\x00\x00"},
		{"\x00\x00\x00", "\x00\x00\x00\x00"},
		{"\x01", "\x00\x00\x00\x01\x01"},
		{"\x00\x01", "\x00\x00\x00\x01\x01"},
		{"\x7f\x00", "\x00\x00\x00\x02\x7f\x00"},
		{"\x80", "\x00\x00\x00\x02\x00\x80"},
		{"\x00\x80", "\x00\x00\x00\x02\x00\x80"},
		{"\x00\x00\xff\x00", "\x00\x00\x00\x03\x00\xff\x00"},
		{strings.Repeat("\xff", 1024), "\x00\x00\x04\x01\x00" + strings.Repeat("\xff", 1024)},
		{strings.Repeat("\x7f", 1024), "\x00\x00\x04\x00" + strings.Repeat("\x7f", 1024)},
	} {
		p := asking(a)
		p.Group = api.Group{P: x.s, G: "\x05"}
		wantData(t, a, elements(t, a, p), 8, x.want, "\x00\x00\x00\x01\x05")
		p.Group = api.Group{P: "\x17", G: x.s}
		wantData(t, a, elements(t, a, p), 8, "\x00\x00\x00\x01\x17", x.want)
		p.Group = api.Group{P: x.s, G: x.s}
		wantData(t, a, elements(t, a, p), 8, x.want, x.want)
	}
}

// 20.1: the zero parts have strings and numbers too; their terms are whatever has the number 0.
func TestZero(t *testing.T) {
	a := term.New()
	x := a.Key(0)
	l := elements(t, a, trans.Parts{})
	if len(l) != 8 || !slices.Equal(l[4:], []api.ID{x, x, x, x}) {
		t.Errorf("%v", l)
	}
	wantData(t, a, l, 0, "", "", "", "")
	l = elements(t, a, trans.Parts{Asks: true})
	if len(l) != 13 || l[4] != x || !slices.Equal(l[10:], []api.ID{x, x, x}) {
		t.Errorf("%v", l)
	}
	wantData(t, a, l, 5, "\x00\x00\x00\x00", "\x00\x00\x00\x00", "\x00\x00\x00\x00", "\x00\x00\x00\x00", "\x00\x00\x00\x00")
}

// 20.1: terms of any kind will do as key, shares and secret.
func TestKinds(t *testing.T) {
	a := term.New()
	key, data := a.Key(3), a.Data("")
	for _, x := range []api.ID{data, a.Nonce(0, 0), key, a.Pub(key), a.Base("g"), a.Sign("alg", key, data), a.Hash(data), a.Derive('A', data, data, data), a.Seal(data, 1, data), a.List()} {
		for _, p := range []trans.Parts{plain(a), asking(a)} {
			for i, q := range withTerm(p, x) {
				want := []api.ID{p.Key, p.E, p.F, p.K}
				want[i] = x
				l := elements(t, a, q)
				if got := append([]api.ID{l[4]}, l[len(l)-3:]...); !slices.Equal(got, want) {
					t.Errorf("%v, not %v", got, want)
				}
			}
		}
	}
}

// withTerm returns the parts with x as key, as either share and as secret.
func withTerm(p trans.Parts, x api.ID) []trans.Parts {
	l := []trans.Parts{p, p, p, p}
	l[0].Key, l[1].E, l[2].F, l[3].K = x, x, x, x
	return l
}

// 20.1: nothing is hashed if a term is missing, whichever one it is.
func TestMissing(t *testing.T) {
	a := term.New()
	for _, p := range []trans.Parts{plain(a), asking(a)} {
		for _, x := range missing(a) {
			for i, q := range withTerm(p, x) {
				wantNone(t, a, q, "term "+strconv.Itoa(i)+" is "+strconv.Itoa(int(x)))
			}
			q := p
			q.Key, q.E, q.F, q.K = x, x, x, x
			wantNone(t, a, q, "all terms are missing")
		}
		wantNone(t, nil, p, "no arena")
	}
}

// sizes of the hash input but for the bytes of the strings and of the integers: the list, its data
// terms, four keys, and with a request three numbers and the lengths of two integers.
const (
	ownPlain  = 5 + 4*5 + 4*5
	ownAsking = ownPlain + 5*5 + 3*4 + 2*4
)

// bare returns parts whose terms are secret keys and whose strings are empty.
func bare(a *term.Arena, asks bool) trans.Parts {
	return trans.Parts{Key: a.Key(1), E: a.Key(2), F: a.Key(3), K: a.Key(4), Asks: asks}
}

// 20.1: the list has at most MaxTerm bytes, whichever string is long; its hash has one more.
func TestLong(t *testing.T) {
	for _, asks := range []bool{false, true} {
		own, fields := ownPlain, 4
		if asks {
			own, fields = ownAsking, 6
		}
		for field := range fields {
			for more := -2; more <= 3; more++ {
				a := term.New()
				p := bare(a, asks)
				s := strings.Repeat("\x11", api.MaxTerm-own+more)
				*[]*string{&p.VC, &p.VS, &p.IC, &p.IS, &p.Group.P, &p.Group.G}[field] = s
				l, h := trans.List(a, p), trans.Hash(a, p)
				if (l != api.None) != (more <= 0) || (h != api.None) != (more < 0) {
					t.Errorf("%v, string %d, %d bytes more: %d, %d", asks, field, more, l, h)
				}
				if more <= 0 && a.Size(l) != api.MaxTerm+more {
					t.Errorf("%v, string %d, %d bytes more: %d bytes", asks, field, more, a.Size(l))
				}
			}
		}
	}
}

// 20.1: no list either if one string alone, some together, or a term is too long.
func TestTooLong(t *testing.T) {
	a := term.New()
	for _, n := range []int{api.MaxTerm - 5, api.MaxTerm - 4, api.MaxTerm, 1 << 20} {
		s := strings.Repeat("\x11", n)
		for i, p := range []trans.Parts{{VC: s}, {VS: s}, {IC: s}, {IS: s}, {Asks: true, Group: api.Group{P: s}}, {Asks: true, Group: api.Group{G: s}}} {
			q := bare(a, p.Asks)
			q.VC, q.VS, q.IC, q.IS, q.Group = p.VC, p.VS, p.IC, p.IS, p.Group
			wantNone(t, a, q, "string "+strconv.Itoa(i)+" of "+strconv.Itoa(n))
		}
	}
	half := strings.Repeat("\x11", api.MaxTerm/2)
	p := bare(a, false)
	p.IC = half
	elements(t, a, p)
	p.IS = half
	wantNone(t, a, p, "two long strings")
	for i, q := range withTerm(bare(a, false), a.Data(strings.Repeat("x", api.MaxTerm-5))) {
		wantNone(t, a, q, "a long term "+strconv.Itoa(i))
	}
}

// 20.1: leading zero bytes are no part of an integer, however many there are.
func TestManyZeros(t *testing.T) {
	a := term.New()
	p := asking(a)
	p.Group.P = strings.Repeat("\x00", 1<<20) + "\x80\x01"
	wantData(t, a, elements(t, a, p), 8, "\x00\x00\x00\x03\x00\x80\x01", "\x00\x00\x00\x01\x02")
}

// 20.1: without a request, the sizes and the group are not looked at.
func TestNotUsed(t *testing.T) {
	a := term.New()
	p := plain(a)
	l, h := trans.List(a, p), trans.Hash(a, p)
	long := strings.Repeat("x", 1<<20)
	for _, group := range []api.Group{{}, {P: "\x80\x01", G: "\x02"}, {P: "\x00"}, {G: "\x02"}, {P: long, G: long}} {
		for _, wish := range [][3]uint32{{}, {1, 2, 3}, {1024, 2048, 8192}, {9, 0, 0}, {0, 9, 0}, {0, 0, 9}} {
			q := p
			q.Wish, q.Group = wish, group
			if trans.List(a, q) != l || trans.Hash(a, q) != h {
				t.Errorf("%v, %.20q: used", wish, group)
			}
			if !trans.Same(p, q) || !trans.Same(q, p) || !trans.Same(q, q) {
				t.Errorf("%v, %.20q: not the same", wish, group)
			}
		}
	}
}

// changes returns the parts with each of the parts in turn, as it is used, made another one.
func changes(a *term.Arena, p trans.Parts) []trans.Parts {
	x := a.Data("another one")
	l := withTerm(p, x)
	for range 4 {
		l = append(l, p)
	}
	l[4].VC, l[5].VS, l[6].IC, l[7].IS = p.VC+"x", p.VS+"x", p.IC+"x", p.IS+"x"
	if !p.Asks {
		return l
	}
	for i := range p.Wish {
		q := p
		q.Wish[i]++
		l = append(l, q)
	}
	q, r := p, p
	q.Group.P, r.Group.G = p.Group.P+"\x00", p.Group.G+"\x00"
	return append(l, q, r)
}

// variants returns parts all of which are different, as far as they are used.
func variants(a *term.Arena) []trans.Parts {
	p, q := plain(a), asking(a)
	l := append([]trans.Parts{p, q}, changes(a, p)...)
	l = append(l, changes(a, q)...)
	// Each string, each term in the other one's place.
	for _, r := range []trans.Parts{p, q} {
		swapped := []trans.Parts{r, r, r, r, r, r}
		swapped[0].VC, swapped[0].VS = r.VS, r.VC
		swapped[1].IC, swapped[1].IS = r.IS, r.IC
		swapped[2].VC, swapped[2].IC = r.IC, r.VC
		swapped[3].E, swapped[3].F = r.F, r.E
		swapped[4].F, swapped[4].K = r.K, r.F
		swapped[5].Key, swapped[5].E = r.E, r.Key
		l = append(l, swapped...)
		// A byte that moves from one string into the next one.
		moved := r
		moved.VC, moved.VS = r.VC[:len(r.VC)-1], r.VC[len(r.VC)-1:]+r.VS
		l = append(l, moved)
	}
	swapped := []trans.Parts{q, q, q}
	swapped[0].Wish = [3]uint32{2048, 1024, 8192}
	swapped[1].Wish = [3]uint32{1024, 8192, 2048}
	swapped[2].Group = api.Group{P: q.Group.G, G: q.Group.P}
	return append(l, swapped...)
}

// 20.1, 20.2: different parts are not the same, and have different inputs and hashes.
func TestDiffer(t *testing.T) {
	a := term.New()
	l := variants(a)
	for i, p := range l {
		elements(t, a, p)
		for j, q := range l {
			if trans.Same(p, q) != (i == j) {
				t.Errorf("%d and %d: %v", i, j, trans.Same(p, q))
			}
			if (trans.List(a, p) == trans.List(a, q)) != (i == j) || (trans.Hash(a, p) == trans.Hash(a, q)) != (i == j) {
				t.Errorf("%d and %d: the same hash is %v", i, j, i != j)
			}
		}
	}
}

// 20.2: a method with a group request and one without never have one hash, whatever stands where.
func TestMethodsDiffer(t *testing.T) {
	a := term.New()
	p, q := plain(a), plain(a)
	q.Asks = true
	if trans.Same(p, q) || trans.Same(q, p) || trans.List(a, p) == trans.List(a, q) || trans.Hash(a, p) == trans.Hash(a, q) {
		t.Errorf("the same for both methods")
	}
}

// 20.1: Same asks for no arena: terms are the same if their numbers are, also those of no terms.
func TestSameOfNumbers(t *testing.T) {
	numbers := []api.ID{api.None, -2, 0, 1, math.MaxInt, math.MinInt}
	for _, x := range numbers {
		for _, y := range numbers {
			for i := range 4 {
				p, q := withTerm(trans.Parts{}, x)[i], withTerm(trans.Parts{}, y)[i]
				if trans.Same(p, q) != (x == y) {
					t.Errorf("term %d, %d and %d: %v", i, x, y, trans.Same(p, q))
				}
			}
		}
	}
	// The parts are held against each other as they are written.
	p, q := trans.Parts{Asks: true, Group: api.Group{P: "\x01"}}, trans.Parts{Asks: true, Group: api.Group{P: "\x00\x01"}}
	if trans.Same(p, q) || !trans.Same(q, q) {
		t.Errorf("a modulus with a leading zero byte")
	}
}

// R4: the parts that are handed in stay as they are.
func TestNothingChanges(t *testing.T) {
	a := term.New()
	p, q := plain(a), asking(a)
	p.Wish, p.Group = q.Wish, q.Group
	oldP, oldQ := p, q
	l := trans.List(a, p)
	trans.Hash(a, q)
	trans.Same(p, q)
	if p != oldP || q != oldQ {
		t.Errorf("%+v, %+v", p, q)
	}
	b := term.New()
	trans.List(b, plain(b))
	if trans.List(a, p) != l {
		t.Errorf("another list")
	}
}
