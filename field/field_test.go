package field_test

import (
	"math"
	"slices"
	"strings"
	"testing"

	"shibboleth/api"
	"shibboleth/code"
	"shibboleth/field"
	"shibboleth/term"
)

// kinds returns terms of each kind but data.
func kinds(a *term.Arena) []api.ID {
	key, data := a.Key(1), a.Data("d")
	nonce, other := a.Nonce(1, 2), a.Nonce(0, 3)
	base := a.Base("g")
	// In the order of the exponents, in which the share is also decoded.
	one := a.Exp(base, other)
	share := a.Exp(one, nonce)
	hash := a.Hash(data)
	return []api.ID{
		key, nonce, other, a.Pub(key), base, one, share, hash, a.Sign("alg", key, hash), a.Derive('A', share, hash, hash),
		a.Seal(key, math.MaxUint32, data), a.List(), a.List(data, data, key), a.Hash(a.List(a.Hash(share))),
	}
}

// opaque are byte strings that are encodings of terms other than data.
var opaque = []string{
	"\xf3\x00\x00\x00\x01",
	"\xf3\x7f\xff\xff\xff",
	"\xf2\x00\x00\x00\x01\x00\x00\x00\x02",
	"\xf4\xf3\x00\x00\x00\x01",
	"\xf5\x00\x00\x00\x01g\x00\x00\x00\x00",
	"\xf5\x00\x00\x00\x01g\x00\x00\x00\x02\xf2\x00\x00\x00\x00\x00\x00\x00\x03\xf2\x00\x00\x00\x01\x00\x00\x00\x02",
	"\xf6\x00\x00\x00\x01a\xf3\x00\x00\x00\x01\xf1\x00\x00\x00\x00",
	"\xf7\xf1\x00\x00\x00\x01d",
	"\xf8A\xfa\x00\x00\x00\x00\xfa\x00\x00\x00\x00\xfa\x00\x00\x00\x00",
	"\xf9\xff\xff\xff\xff\xf3\x00\x00\x00\x01\xfa\x00\x00\x00\x00",
	"\xfa\x00\x00\x00\x00",
	"\xfa\x00\x00\x00\x02\xf1\x00\x00\x00\x00\xf1\x00\x00\x00\x01x",
}

// plain are byte strings that are no such encodings; many of them look so.
var plain = []string{
	"", "f", "plain", "\x00", "\xff", "\xf0", "\xf1", "\xf3", "\xfb", "\xf7", "\xfb\x00\x00\x00\x00", "\xf0\x00\x00\x00\x00",
	"\xf1\x00\x00\x00\x00",                                      // of data, and so not opaque
	"\xf1\x00\x00\x00\x01x",                                     // likewise
	"\xf1\x00\x00\x00\x05\xf3\x00\x00\x00\x01",                  // of data that is opaque itself
	"\xf1\x00\x00\x00\x02x",                                     // cut
	"\xf3\x00\x00\x00",                                          // cut
	"\xf3\x00\x00\x00\x01\x00",                                  // one byte more
	"\xf3\x80\x00\x00\x00",                                      // a number above MaxNumber
	"\xf2\x00\x00\x00\x00\xff\xff\xff\xff",                      // likewise
	"\xf3\x00\x00\x00\x01\xf3\x00\x00\x00\x01",                  // two terms
	"\xf4\xfa\x00\x00\x00\x00",                                  // the public key of a list
	"\xf4\xf1\x00\x00\x00\x00",                                  // of data
	"\xf5\x00\x00\x00\x00\x00\x00\x00\x00",                      // a group without a name
	"\xf5\x00\x00\x00\x01g\x00\x00\x00\x01\xfa\x00\x00\x00\x00", // raised to a list
	"\xf5\x00\x00\x00\x01g\x00\x00\x00\x02\xf2\x00\x00\x00\x01\x00\x00\x00\x02\xf2\x00\x00\x00\x00\x00\x00\x00\x03", // exponents in another order
	"\xf5\x00\x00\x00\x01g\x00\x00\x00\x09" + strings.Repeat("\xf2\x00\x00\x00\x00\x00\x00\x00\x00", 9),             // too many
	"\xf6\x00\x00\x00\x00\xf3\x00\x00\x00\x01\xf1\x00\x00\x00\x00",                                                  // an algorithm without a name
	"\xf7\xf7\xf7",         // nothing inside
	"\xfa\x00\x00\x00\x01", // likewise
	"\xfa\x00\x00\x00\x21" + strings.Repeat("\xfa\x00\x00\x00\x00", 33), // too many
	" \xf3\x00\x00\x00\x01", "\x00\x00\x00\x05\xf3\x00\x00\x00\x01",
}

// 8.1: the term of an opaque string is the one that it encodes, and its string is its encoding.
func TestOpaqueStrings(t *testing.T) {
	for _, s := range opaque {
		a := term.New()
		x := field.Of(a, s)
		if k := a.Kind(x); k == 0 || k == api.TmData || k != int(s[0])-240 || code.Encode(a, x) != s {
			t.Errorf("Of(%q): %d of kind %d", s, x, k)
		}
		if got, is := field.Bytes(a, x); got != s || !is {
			t.Errorf("Bytes of the term of %q: %q, %v", s, got, is)
		}
		if got, is := field.Bytes(a, a.Data(s)); got != "" || is {
			t.Errorf("Bytes of the data %q: %q, %v", s, got, is)
		}
	}
}

// 8.1: the term of any other string is data, and nothing besides it is made.
func TestPlainStrings(t *testing.T) {
	for _, s := range plain {
		a := term.New()
		x := field.Of(a, s)
		if v, is := a.View(x); !is || v.Kind != api.TmData || v.S != s || x != a.Data(s) {
			t.Errorf("Of(%q): %d: %v", s, x, v)
		}
		if a.Len() != 1 {
			t.Errorf("Of(%q): %d terms", s, a.Len())
		}
		if got, is := field.Bytes(a, x); got != s || !is {
			t.Errorf("Bytes of the data %q: %q, %v", s, got, is)
		}
	}
}

// 8.1: the chapter's examples.
func TestExamples(t *testing.T) {
	a := term.New()
	if x := field.Of(a, "\xf3\x00\x00\x00\x01"); x != a.Key(1) {
		t.Errorf("a key: %d", x)
	}
	if x := field.Of(a, "\x66"); x != a.Data("f") {
		t.Errorf("data: %d", x)
	}
}

// 8.1: a term of each kind, in an arena that has it already and in another one.
func TestKinds(t *testing.T) {
	a := term.New()
	for _, x := range kinds(a) {
		n := a.Len()
		s, is := field.Bytes(a, x)
		if s != code.Encode(a, x) || !is {
			t.Errorf("Bytes of kind %d: %q, %v", a.Kind(x), s, is)
		}
		if got := field.Of(a, s); got != x || a.Len() != n {
			t.Errorf("Of kind %d: %d, not %d, %d terms more", a.Kind(x), got, x, a.Len()-n)
		}
		b := term.New()
		if got := field.Of(b, s); code.Encode(b, got) != s {
			t.Errorf("Of kind %d in another arena: %d", a.Kind(x), got)
		}
	}
}

// 8.1: the longest data, the longest opaque string, and one byte more of each.
func TestLimits(t *testing.T) {
	const room = api.MaxTerm - 5 // the bytes of the longest data
	fill := strings.Repeat("x", api.MaxTerm)
	hashed := func(n int) string { return "\xf7\xf1" + code.U32(uint32(n)) + fill[:n] }
	a := term.New()
	for _, s := range []string{fill[:room-1], fill[:room]} {
		x := field.Of(a, s)
		if got, is := field.Bytes(a, x); a.Kind(x) != api.TmData || got != s || !is {
			t.Errorf("data of %d bytes: %d, %v", len(s), x, is)
		}
	}
	for _, s := range []string{hashed(room - 2), hashed(room - 1)} {
		x := field.Of(a, s)
		if got, is := field.Bytes(a, x); a.Kind(x) != api.TmHash || got != s || !is {
			t.Errorf("a hash of %d bytes: %d, %v", len(s), x, is)
		}
	}
	n := a.Len()
	for _, s := range []string{fill[:room+1], fill, fill + "x", strings.Repeat(fill, 9), hashed(room), hashed(room)[1:], hashed(room-1) + "x"} {
		if x := field.Of(a, s); x != api.None || a.Len() != n {
			t.Errorf("%d bytes: %d, %d terms more", len(s), x, a.Len()-n)
		}
	}
}

// 8.1: without an arena there are no terms.
func TestNilArena(t *testing.T) {
	for _, s := range slices.Concat(opaque, plain) {
		if x := field.Of(nil, s); x != api.None {
			t.Errorf("Of(nil, %q): %d", s, x)
		}
	}
	for _, x := range []api.ID{math.MinInt, -1, 0, 1, math.MaxInt} {
		if s, is := field.Bytes(nil, x); s != "" || is {
			t.Errorf("Bytes(nil, %d): %q, %v", x, s, is)
		}
	}
}

// 8.1: numbers that name no term have no bytes.
func TestMissingTerms(t *testing.T) {
	a := term.New()
	field.Of(a, "plain")
	for _, b := range []*term.Arena{a, term.New(), {}} {
		for _, x := range []api.ID{math.MinInt, -2, api.None, api.ID(b.Len()), api.ID(b.Len()) + 1, math.MaxInt} {
			if s, is := field.Bytes(b, x); s != "" || is {
				t.Errorf("Bytes of %d among %d terms: %q, %v", x, b.Len(), s, is)
			}
		}
	}
}

// 8.2: different strings have different terms, and each term's string is the one that it is of.
func TestOneToOne(t *testing.T) {
	a := term.New()
	of := map[api.ID]string{}
	for _, s := range slices.Concat(opaque, plain) {
		x := field.Of(a, s)
		if other, has := of[x]; has {
			t.Errorf("%q and %q have one term", s, other)
		}
		of[x] = s
	}
	for x := range api.ID(a.Len()) {
		s, is := field.Bytes(a, x)
		if !is {
			t.Errorf("term %d has no bytes", x)
		}
		if want, has := of[x]; has && s != want || field.Of(a, s) != x {
			t.Errorf("term %d: %q", x, s)
		}
	}
}

// FuzzField checks that every string is its term's, and that only data whose bytes are opaque has none.
func FuzzField(f *testing.F) {
	for _, s := range slices.Concat(opaque, plain) {
		f.Add(s)
	}
	f.Fuzz(func(t *testing.T, s string) {
		a := term.New()
		x := field.Of(a, s)
		if got, is := field.Bytes(a, x); x == api.None || got != s || !is {
			t.Fatalf("%q: %d, %q, %v", s, x, got, is)
		}
		if code.Opaque(s) == (a.Kind(x) == api.TmData) {
			t.Errorf("%q: of kind %d", s, a.Kind(x))
		}
		if _, is := field.Bytes(a, a.Data(s)); is == code.Opaque(s) {
			t.Errorf("the data %q: %v", s, is)
		}
	})
}
