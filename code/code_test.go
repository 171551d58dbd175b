package code_test

import (
	"math"
	"slices"
	"strings"
	"testing"

	"shibboleth/api"
	"shibboleth/code"
	"shibboleth/term"
)

// The encodings of a key, of a piece of data, and of two nonces, of which the others are made.
const (
	key1  = "\xf3\x00\x00\x00\x01"
	dataA = "\xf1\x00\x00\x00\x01a"
	non12 = "\xf2\x00\x00\x00\x01\x00\x00\x00\x02"
	non20 = "\xf2\x00\x00\x00\x02\x00\x00\x00\x00"
	n0    = "\x00\x00\x00\x00"
	n1    = "\x00\x00\x00\x01"
	n2    = "\x00\x00\x00\x02"
)

type sample struct {
	text string
	term api.ID
}

// samples are encodings, and their terms, of each kind.
func samples(a *term.Arena) []sample {
	k, d, x, y := a.Key(1), a.Data("a"), a.Nonce(1, 2), a.Nonce(2, 0)
	base := a.Base("gr")
	return []sample{
		{key1, k},
		{dataA, d},
		{non12, x},
		{non20, y},
		{"\xf1" + n0, a.Data("")},
		{"\xf1\x00\x00\x01\x04" + strings.Repeat("\xf3", 260), a.Data(strings.Repeat("\xf3", 260))},
		{"\xf1\x00\x00\x00\x05" + key1, a.Data(key1)},
		{"\xf2\x7f\xff\xff\xff\x01\x02\x03\x04", a.Nonce(api.MaxNumber, 0x01020304)},
		{"\xf3\x7f\xff\xff\xff", a.Key(api.MaxNumber)},
		{"\xf4" + key1, a.Pub(k)},
		{"\xf5" + n2 + "gr" + n0, base},
		{"\xf5" + n2 + "gr" + n1 + non20, a.Exp(base, y)},
		{"\xf5" + n2 + "gr\x00\x00\x00\x03" + non12 + non20 + non20, a.Exp(a.Exp(a.Exp(base, y), x), y)},
		{"\xf6" + n1 + "s" + key1 + dataA, a.Sign("s", k, d)},
		{"\xf7" + dataA, a.Hash(d)},
		{"\xf8B" + non12 + key1 + dataA, a.Derive('B', x, k, d)},
		{"\xf8\xff" + dataA + dataA + dataA, a.Derive(255, d, d, d)},
		{"\xf9\xfe\xdc\xba\x98" + key1 + dataA, a.Seal(k, 0xfedcba98, d)},
		{"\xfa" + n0, a.List()},
		{"\xfa\x00\x00\x00\x03" + dataA + "\xfa" + n1 + key1 + dataA, a.List(d, a.List(k), d)},
	}
}

// wantBad checks that s is the encoding of no term.
func wantBad(t *testing.T, name, s string) {
	t.Helper()
	if x, e := code.Decode(term.New(), s); x != api.None || e != api.ErrForm {
		t.Errorf("%s: Decode(%q): %d, %v", name, s, x, e)
	}
	if code.Opaque(s) {
		t.Errorf("%s: Opaque(%q)", name, s)
	}
}

// wantGood checks that s is decoded to a term that is encoded as s.
func wantGood(t *testing.T, name, s string) {
	t.Helper()
	a := term.New()
	x, e := code.Decode(a, s)
	if e != api.OK || code.Encode(a, x) != s || a.Size(x) != len(s) {
		t.Errorf("%s: Decode: %d, %v", name, x, e)
	}
	if code.Opaque(s) != (a.Kind(x) != api.TmData) {
		t.Errorf("%s: Opaque: %t", name, code.Opaque(s))
	}
}

// nested is the encoding of a piece of data, hashed until the encoding has that length.
func nested(length int) string {
	return strings.Repeat("\xf7", length-len(dataA)) + dataA
}

// 2.1.
func TestU32(t *testing.T) {
	for n, want := range map[uint32]string{0: n0, 1: n1, 255: "\x00\x00\x00\xff", 256: "\x00\x00\x01\x00", 0x01020304: "\x01\x02\x03\x04", math.MaxUint32: "\xff\xff\xff\xff"} {
		if got := code.U32(n); got != want {
			t.Errorf("U32(%d): %q", n, got)
		}
	}
}

// 2.1, 2.2, 2.3: each kind, with the chapter's example among them.
func TestSamples(t *testing.T) {
	a := term.New()
	for _, c := range samples(a) {
		if got := code.Encode(a, c.term); got != c.text || a.Size(c.term) != len(c.text) {
			t.Errorf("Encode: %q, not %q", got, c.text)
		}
		if x, e := code.Decode(a, c.text); x != c.term || e != api.OK {
			t.Errorf("Decode(%q): %d, not %d, %v", c.text, x, c.term, e)
		}
		wantGood(t, c.text, c.text)
	}
}

// 2.1: no such term, no arena.
func TestEncodeNothing(t *testing.T) {
	a := term.New()
	a.Data("a")
	for _, x := range []api.ID{api.None, -2, 1, math.MaxInt, math.MinInt} {
		if got := code.Encode(a, x); got != "" {
			t.Errorf("Encode(%d): %q", x, got)
		}
	}
	if code.Encode(nil, 0) != "" || code.Encode(new(term.Arena), 0) != "" {
		t.Errorf("Encode without an arena, or of an empty one")
	}
}

// 2.2: the errors and their order.
func TestDecodeErrors(t *testing.T) {
	long := "\xf1\x00\x01\xff\xfc" + strings.Repeat("x", api.MaxTerm-4)
	for _, c := range []struct {
		name string
		a    *term.Arena
		s    string
		want api.Errno
	}{
		{"no arena, too long", nil, long, api.ErrArg},
		{"no arena, a term", nil, key1, api.ErrArg},
		{"no arena, nothing", nil, "", api.ErrArg},
		{"too long, of the form", term.New(), long, api.ErrLong},
		{"too long, not of the form", term.New(), strings.Repeat("x", api.MaxTerm+1), api.ErrLong},
		{"not too long, not of the form", term.New(), strings.Repeat("x", api.MaxTerm), api.ErrForm},
		{"zero arena, not of the form", new(term.Arena), "x", api.ErrForm},
	} {
		if x, e := code.Decode(c.a, c.s); x != api.None || e != c.want {
			t.Errorf("%s: %d, %v", c.name, x, e)
		}
		if c.a != nil && code.Opaque(c.s) {
			t.Errorf("%s: Opaque", c.name)
		}
	}
	if x, e := code.Decode(new(term.Arena), key1); x != 0 || e != api.OK {
		t.Errorf("zero arena: %d, %v", x, e)
	}
}

// 2.2, 2.3: terms of MaxTerm bytes, wide and deep, and one byte more.
func TestLongest(t *testing.T) {
	wantGood(t, "data", "\xf1\x00\x01\xff\xfb"+strings.Repeat("x", api.MaxTerm-5))
	wantGood(t, "hash of data", "\xf7\xf1\x00\x01\xff\xfa"+strings.Repeat("x", api.MaxTerm-6))
	wantGood(t, "nested", nested(api.MaxTerm))
	wantBad(t, "nested, without end", strings.Repeat("\xf7", api.MaxTerm))
	wantBad(t, "nested lists, without end", strings.Repeat("\xfa\x00\x00\x00\x20", api.MaxTerm/5))
	if x, e := code.Decode(term.New(), nested(api.MaxTerm+1)); x != api.None || e != api.ErrLong || code.Opaque(nested(api.MaxTerm+1)) {
		t.Errorf("nested, too long: %d, %v", x, e)
	}
}

// 2.2: the limits of terms, at them and one beyond them.
func TestLimits(t *testing.T) {
	group := func(n int) string {
		return "\xf5" + code.U32(uint32(n)) + strings.Repeat("g", n) + n0
	}
	sign := func(n int) string {
		return "\xf6" + code.U32(uint32(n)) + strings.Repeat("s", n) + key1 + dataA
	}
	exps := func(n int) string {
		return "\xf5" + n1 + "g" + code.U32(uint32(n)) + strings.Repeat(non12, n)
	}
	list := func(n int) string {
		return "\xfa" + code.U32(uint32(n)) + strings.Repeat(key1, n)
	}
	wantGood(t, "shortest group", group(1))
	wantGood(t, "longest group", group(api.MaxGroup))
	wantBad(t, "no group", group(0))
	wantBad(t, "group too long", group(api.MaxGroup+1))
	wantGood(t, "shortest algorithm", sign(1))
	wantGood(t, "longest algorithm", sign(api.MaxText))
	wantBad(t, "no algorithm", sign(0))
	wantBad(t, "algorithm too long", sign(api.MaxText+1))
	wantGood(t, "most exponents", exps(api.MaxExps))
	wantBad(t, "too many exponents", exps(api.MaxExps+1))
	wantGood(t, "longest list", list(api.MaxArgs))
	wantBad(t, "list too long", list(api.MaxArgs+1))
	wantGood(t, "greatest key", "\xf3\x7f\xff\xff\xff")
	wantBad(t, "key too great", "\xf3\x80\x00\x00\x00")
	wantGood(t, "greatest nonce", "\xf2\x7f\xff\xff\xff\x7f\xff\xff\xff")
	wantBad(t, "nonce too great", "\xf2\x80\x00\x00\x00\x00\x00\x00\x00")
	wantBad(t, "nonce's number too great", "\xf2\x00\x00\x00\x00\x80\x00\x00\x00")
	wantGood(t, "greatest number of a seal", "\xf9\xff\xff\xff\xff"+key1+key1)
}

// 2.2: what is no term's encoding.
func TestBadForm(t *testing.T) {
	for name, s := range map[string]string{
		"nothing":                    "",
		"kind 0":                     "\xf0",
		"kind 11":                    "\xfb" + key1,
		"no kind":                    "a",
		"data, count too great":      "\xf1\xff\xff\xff\xffa",
		"data, count one too great":  "\xf1" + n2 + "a",
		"two terms":                  key1 + key1,
		"public key of data":         "\xf4" + dataA,
		"public key of a public key": "\xf4\xf4" + key1,
		"signed with data":           "\xf6" + n1 + "s" + dataA + dataA,
		"raised to a key":            "\xf5" + n1 + "g" + n1 + key1,
		"raised to a share":          "\xf5" + n1 + "g" + n1 + "\xf5" + n1 + "g" + n0,
		"exponents, other order":     "\xf5" + n1 + "g" + n2 + non20 + non12,
		"exponents, other order, B":  "\xf5" + n1 + "g" + n2 + "\xf2" + n0 + n2 + "\xf2" + n0 + n1,
		"list, one too few":          "\xfa" + n2 + key1,
		"list, one too many":         "\xfa" + n1 + key1 + key1,
		"bad subterm of a hash":      "\xf7\xf3\x80\x00\x00\x00",
		"bad first subterm":          "\xf9" + n0 + "\xf4" + dataA + dataA,
		"bad last subterm":           "\xf8A" + dataA + dataA + "\xf4" + dataA,
		"bad in a list":              "\xfa" + n2 + "\xf0" + key1,
	} {
		wantBad(t, name, s)
	}
}

// 2.2, 2.4: every encoding cut short, with a byte more, or with any one byte changed: it is an
// encoding exactly if it is the one of the term that Decode answers.
func TestChangedBytes(t *testing.T) {
	for _, c := range samples(term.New()) {
		if len(c.text) > 100 {
			continue
		}
		for i := range c.text {
			wantBad(t, "cut short", c.text[:i])
			for b := range 256 {
				checkExact(t, c.text[:i]+string([]byte{byte(b)})+c.text[i+1:])
			}
		}
		for b := range 256 {
			wantBad(t, "a byte more", c.text+string([]byte{byte(b)}))
		}
	}
}

func checkExact(t *testing.T, s string) {
	t.Helper()
	a := term.New()
	x, e := code.Decode(a, s)
	switch {
	case e == api.OK && code.Encode(a, x) == s && code.Opaque(s) == (a.Kind(x) != api.TmData):
	case e == api.ErrForm && x == api.None && !code.Opaque(s):
	default:
		t.Errorf("Decode(%q): %d, %v, Opaque %t", s, x, e, code.Opaque(s))
	}
}

// 2.2: after an error, an arena still answers as before.
func TestAfterError(t *testing.T) {
	a := term.New()
	k := a.Key(1)
	bad := "\xfa" + n2 + dataA + "\xf4" + dataA
	for range 2 {
		if x, e := code.Decode(a, bad); x != api.None || e != api.ErrForm {
			t.Errorf("Decode: %d, %v", x, e)
		}
	}
	if x, e := code.Decode(a, key1); x != k || e != api.OK || code.Encode(a, k) != key1 {
		t.Errorf("Decode of a term that was there: %d, %v", x, e)
	}
	d := a.Data("a")
	if v, is := a.View(d); !is || v.S != "a" || code.Encode(a, d) != dataA {
		t.Errorf("data: %v", v)
	}
}

// 2.4: no encoding is a prefix of another one, and so all are different.
func TestPrefixes(t *testing.T) {
	a := term.New()
	l := samples(a)
	for i, c := range l {
		for j, d := range l {
			if i != j && strings.HasPrefix(d.text, code.Encode(a, c.term)) {
				t.Errorf("%q begins with %q", d.text, c.text)
			}
		}
	}
}

// 2.4: exponents are encoded in their order, whichever order they were raised to and made in.
func TestShareEncodings(t *testing.T) {
	a := term.New()
	y, x := a.Nonce(2, 0), a.Nonce(1, 2)
	want := "\xf5" + n1 + "g" + n2 + non12 + non20
	for _, exps := range [][]api.ID{{x, y}, {y, x}} {
		s := a.Base("g")
		for _, e := range exps {
			s = a.Exp(s, e)
		}
		if got := code.Encode(a, s); got != want {
			t.Errorf("raised to %v: %q", exps, got)
		}
	}
	b := term.New()
	s, e := code.Decode(b, want)
	v, _ := b.View(s)
	if e != api.OK || !slices.Equal(v.Args, []api.ID{b.Nonce(1, 2), b.Nonce(2, 0)}) {
		t.Errorf("Decode: %v, %v", v, e)
	}
}
