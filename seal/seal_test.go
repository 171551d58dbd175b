package seal_test

import (
	"math"
	"slices"
	"strings"
	"testing"

	"shibboleth/api"
	"shibboleth/code"
	"shibboleth/payload"
	"shibboleth/seal"
	"shibboleth/term"
)

// numbers are sequence numbers, each of which has its neighbours among the others.
var numbers = []uint32{0, 1, 2, 255, 256, 257, 1<<31 - 1, 1 << 31, 1<<31 + 1, 1<<32 - 2, 1<<32 - 1}

// key3 is the encoding of a secret key.
const key3 = "\xf3\x00\x00\x00\x03"

// payloads are messages, with and without terms in them, and payloads that are none.
var payloads = []string{
	"\x15", "\x05\x00\x00\x00\x01x", "\x03\xff\xff\xff\xff", "\x02\x00\x00\x00\x05" + key3,
	"\x1e\x00\x00\x00\x05" + key3, "\x1e\x00\x00\x00\x00", "\x1e\x00\x00\x00\x01x",
	"\x1f\x00\x00\x00\x05" + key3 + "\x00\x00\x00\x01x\x00\x00\x00\x05\xfa\x00\x00\x00\x00", "\x1f\x00\x00\x00\x01\x17\x00\x00\x00\x01\x02",
	"\x00", "\xff", "\x15\x00", "\x05\x00\x00\x00\x02x", key3, "\xfa\x00\x00\x00\x00", "\xf1\x00\x00\x00\x01x", strings.Repeat("\x15", 1000),
}

// kinds returns a term of each kind, and some more.
func kinds(a *term.Arena) []api.ID {
	key, data, nonce := a.Key(3), a.Data("d"), a.Nonce(1, 2)
	share := a.Exp(a.Base("g"), nonce)
	hash := a.Hash(data)
	derived := a.Derive('C', share, hash, hash)
	return []api.ID{
		data, a.Data(""), a.Data("\x15"), nonce, key, a.Key(4), a.Pub(key), a.Base("g"), share, a.Sign("alg", key, hash), hash,
		derived, a.Derive('D', share, hash, hash), a.Seal(key, 7, data), a.List(), a.List(a.Data("\x15")), a.List(data, key, data),
	}
}

// missing are numbers that name no term of an arena.
func missing(a *term.Arena) []api.ID {
	return []api.ID{math.MinInt, -2, api.None, api.ID(a.Len()), api.ID(a.Len()) + 1, math.MaxInt}
}

// unit is a unit as chapter 11 defines it, whatever its length.
func unit(body string) string {
	return code.U32(uint32(len(body))) + body
}

// sealed is the unit of a term that is sealed with a key; what is sealed need not be a payload's term.
func sealed(a *term.Arena, key api.ID, n uint32, inside api.ID) string {
	return unit(code.Encode(a, a.Seal(key, n, inside)))
}

func head(s string) string {
	return s[:min(len(s), 40)]
}

// wantPack checks what Pack answers.
func wantPack(t *testing.T, a *term.Arena, key api.ID, n uint32, body, want string, err api.Errno) {
	t.Helper()
	if got, e := seal.Pack(a, key, n, body); got != want || e != err {
		t.Errorf("Pack of %q, %d bytes, with %d, %d: %q, %v, not %v", head(body), len(body), key, n, head(got), e, err)
	}
}

// wantOpen checks what Open answers.
func wantOpen(t *testing.T, a *term.Arena, key api.ID, n uint32, s, want string, err api.Errno) {
	t.Helper()
	if got, e := seal.Open(a, key, n, s); got != want || e != err {
		t.Errorf("Open of %q, %d bytes, with %d, %d: %q, %v, not %v", head(s), len(s), key, n, head(got), e, err)
	}
}

// wantTerm checks what Term answers.
func wantTerm(t *testing.T, a *term.Arena, s string, want api.ID, err api.Errno) {
	t.Helper()
	if got, e := seal.Term(a, s); got != want || e != err {
		t.Errorf("Term of %q, %d bytes: %d, %v, not %d, %v", head(s), len(s), got, e, want, err)
	}
}

// wantUnit checks what Unit answers.
func wantUnit(t *testing.T, a *term.Arena, x api.ID, want string, err api.Errno) {
	t.Helper()
	if got, e := seal.Unit(a, x); got != want || e != err {
		t.Errorf("Unit of %d: %q, %v, not %v", x, head(got), e, err)
	}
}

// 12.1, 12.2: the chapter's example, and all bytes of such a packet.
func TestExample(t *testing.T) {
	a := term.New()
	key := a.Key(1)
	s, e := seal.Pack(a, key, 0, "\x15")
	if want := "\x00\x00\x00\x15\xf9\x00\x00\x00\x00\xf3\x00\x00\x00\x01\xfa\x00\x00\x00\x01\xf1\x00\x00\x00\x01\x15"; s != want || e != api.OK {
		t.Errorf("Pack: %q, %v", s, e)
	}
	wantOpen(t, a, key, 1, s, "", api.ErrSeal)
	wantOpen(t, a, key, 0, s, "\x15", api.OK)
}

// 12.1, 12.2, 12.4: keys of each kind, each number, and payloads of many forms.
func TestPack(t *testing.T) {
	for _, body := range payloads {
		a := term.New()
		for _, key := range kinds(a) {
			for _, n := range numbers {
				want := sealed(a, key, n, payload.Term(a, body))
				wantPack(t, a, key, n, body, want, api.OK)
				wantOpen(t, a, key, n, want, body, api.OK)
			}
		}
	}
}

// 12.4: a packet is opened with its own key and number only.
func TestPackedOnlyOnce(t *testing.T) {
	a := term.New()
	keys := kinds(a)
	for i, key := range keys {
		for j, n := range numbers {
			s, _ := seal.Pack(a, key, n, "\x05\x00\x00\x00\x01x")
			for k, other := range keys {
				if k != i {
					wantOpen(t, a, other, n, s, "", api.ErrSeal)
				}
			}
			for k, other := range numbers {
				if k != j {
					wantOpen(t, a, key, other, s, "", api.ErrSeal)
				}
			}
			wantOpen(t, a, keys[(i+1)%len(keys)], n+1, s, "", api.ErrSeal)
		}
	}
}

// 12.4: different payloads, keys and numbers have different packets.
func TestDifferentPackets(t *testing.T) {
	a := term.New()
	keys := kinds(a)
	seen := map[string]bool{}
	for _, body := range payloads {
		for _, key := range keys {
			for _, n := range numbers {
				s, _ := seal.Pack(a, key, n, body)
				if seen[s] {
					t.Errorf("%q, %d, %d: a packet of another one", head(body), key, n)
				}
				seen[s] = true
			}
		}
	}
}

// 12.1, 12.2: a packet is opened in another arena by that arena's number of the key.
func TestOtherArena(t *testing.T) {
	a := term.New()
	key := a.Derive('C', a.Data("k"), a.Data("h"), a.Data("s"))
	s, _ := seal.Pack(a, key, 9, payloads[7])
	b := term.New()
	b.Nonce(0, 0)
	own := b.Derive('C', b.Data("k"), b.Data("h"), b.Data("s"))
	if own == key {
		t.Fatalf("the number %d twice", key)
	}
	wantOpen(t, b, own, 9, s, payloads[7], api.OK)
	wantOpen(t, b, key, 9, s, "", api.ErrSeal)
	zero := &term.Arena{}
	own = zero.Key(1)
	wantPack(t, zero, own, 2, "\x15", sealed(zero, own, 2, zero.List(zero.Data("\x15"))), api.OK)
	wantOpen(t, zero, own, 2, sealed(zero, own, 2, zero.List(zero.Data("\x15"))), "\x15", api.OK)
}

// 12.1: the errors of Pack, and which one comes first.
func TestPackErrors(t *testing.T) {
	a := term.New()
	key := a.Key(1)
	big := a.Data(strings.Repeat("x", api.MaxTerm-5))
	long := strings.Repeat("x", api.MaxPayload+1)
	for _, b := range []*term.Arena{a, nil, {}, term.New()} {
		for _, k := range append(missing(b), key, big) {
			wantPack(t, b, k, 0, "", "", api.ErrShort)
			wantPack(t, b, k, 0, long, "", api.ErrLong)
			wantPack(t, b, k, 0, long+long, "", api.ErrLong)
		}
		for _, k := range missing(b) {
			wantPack(t, b, k, 0, "\xff", "", api.ErrArg)
		}
	}
	wantPack(t, nil, key, 0, "\x15", "", api.ErrArg)
	wantPack(t, a, big, 0, "\x15", "", api.ErrLong)
	wantPack(t, a, key, 0, long[1:], sealed(a, key, 0, a.Data(long[1:])), api.OK)
}

// 12.1: a number that names no term is no key, even if the payload's terms take it.
func TestPackWithLaterKey(t *testing.T) {
	for _, body := range payloads {
		a := term.New()
		payload.Term(a, body)
		for key := range api.ID(a.Len() + 1) {
			wantPack(t, term.New(), key, 0, body, "", api.ErrArg)
			wantPack(t, &term.Arena{}, key, 0, body, "", api.ErrArg)
		}
	}
}

// 12.1: a sealed term of MaxTerm bytes, and one byte more.
func TestPackOfLongTerms(t *testing.T) {
	for _, body := range append(slices.Clone(payloads), strings.Repeat("\xff", api.MaxPayload)) {
		a := term.New()
		inside := payload.Term(a, body)
		room := api.MaxTerm - 5 - a.Size(inside) - 5 // for the bytes of a key that is data
		key := a.Data(strings.Repeat("k", room))
		want := sealed(a, key, 1, inside)
		if len(want) != 4+api.MaxTerm {
			t.Fatalf("%d bytes", len(want))
		}
		wantPack(t, a, key, 1, body, want, api.OK)
		wantOpen(t, a, key, 1, want, body, api.OK)
		wantPack(t, a, a.Data(strings.Repeat("k", room+1)), 1, body, "", api.ErrLong)
		wantPack(t, a, a.Data(strings.Repeat("k", api.MaxTerm-5)), 1, body, "", api.ErrLong)
	}
}

// 12.1, 12.2: a payload of MaxPayload bytes, and one byte above, of a message and of none.
func TestMaxPayload(t *testing.T) {
	for _, begin := range []string{"\xff", "\x02\x00\x00\x7f\xfb", "\x1e\x00\x00\x7f\xfb"} {
		a := term.New()
		key := a.Key(1)
		body := begin + strings.Repeat("x", api.MaxPayload-len(begin))
		s, e := seal.Pack(a, key, 5, body)
		if e != api.OK {
			t.Errorf("Pack: %v", e)
		}
		wantOpen(t, a, key, 5, s, body, api.OK)
		wantPack(t, a, key, 5, body+"x", "", api.ErrLong)
	}
	a := term.New()
	key, long := a.Key(1), a.Data(strings.Repeat("x", api.MaxPayload-4))
	for _, inside := range []api.ID{
		a.Data(strings.Repeat("\xff", api.MaxPayload+1)), a.Data(strings.Repeat("\xff", 100000)),
		a.List(a.Data("\x1e"), long), a.List(a.Data("\x1e"), a.Hash(long)), a.List(a.Data("\x02"), a.Data("\x00\x00\x7f\xfc"+strings.Repeat("x", 0x7ffc))),
	} {
		wantOpen(t, a, key, 5, sealed(a, key, 5, inside), "", api.ErrForm)
	}
}

// 12.1: units of terms of each kind, up to the longest one, which is shorter than the longest unit.
func TestUnit(t *testing.T) {
	a := term.New()
	for _, x := range append(kinds(a), a.Data(strings.Repeat("x", api.MaxTerm-5)), a.Hash(a.Data(strings.Repeat("x", api.MaxTerm-6)))) {
		wantUnit(t, a, x, unit(code.Encode(a, x)), api.OK)
	}
	wantUnit(t, a, a.Key(3), "\x00\x00\x00\x05"+key3, api.OK)
	for _, b := range []*term.Arena{a, nil, {}, term.New()} {
		n := b.Len()
		for _, x := range missing(b) {
			wantUnit(t, b, x, "", api.ErrArg)
		}
		if b.Len() != n {
			t.Errorf("Unit: %d terms more", b.Len()-n)
		}
	}
	wantUnit(t, nil, 0, "", api.ErrArg)
}

// 12.1: the term of a body that is opaque, in an arena that has it and in one that has not.
func TestTermOfOpaqueBodies(t *testing.T) {
	a := term.New()
	for _, x := range kinds(a) {
		s := unit(code.Encode(a, x))
		if a.Kind(x) == api.TmData {
			// The encoding of data is not opaque: it stands for itself.
			wantTerm(t, a, s, a.Data(s[4:]), api.OK)
			continue
		}
		wantTerm(t, a, s, x, api.OK)
		b := term.New()
		if got, e := seal.Term(b, s); e != api.OK || code.Encode(b, got) != s[4:] {
			t.Errorf("Term of %q: %d, %v", s, got, e)
		}
		// Cut, or with a byte behind it, a body is not opaque.
		wantTerm(t, a, unit(s[4:]+"x"), a.Data(s[4:]+"x"), api.OK)
		wantTerm(t, a, unit(s[4:len(s)-1]), a.Data(s[4:len(s)-1]), api.OK)
	}
}

// 12.1: the term of a body that is not opaque.
func TestTermOfPlainBodies(t *testing.T) {
	for _, body := range []string{"abc", "\x00", "\xff", "\xf9", "\xf3\x00\x00\x00", "\xf3\x80\x00\x00\x00", "\x0a\x15" + strings.Repeat("\x00", 10), strings.Repeat("\xf7", 100)} {
		a := term.New()
		x, e := seal.Term(a, unit(body))
		if v, _ := a.View(x); e != api.OK || v.Kind != api.TmData || v.S != body || a.Len() != 1 {
			t.Errorf("Term of %q: %d, %v", body, x, e)
		}
	}
}

// 12.1: the longest bodies that have a term, opaque and not, and those that have none.
func TestTermOfLongBodies(t *testing.T) {
	a := term.New()
	fill := strings.Repeat("x", api.MaxPacket)
	const room = api.MaxTerm - 5
	wantTerm(t, a, unit(fill[:room]), a.Data(fill[:room]), api.OK)
	hash := a.Hash(a.Data(fill[:room-1]))
	hashed := code.Encode(a, hash)
	if len(hashed) != api.MaxTerm {
		t.Fatalf("%d bytes", len(hashed))
	}
	wantTerm(t, a, unit(hashed), hash, api.OK)
	over := "\xf7\xf1" + code.U32(room) + fill[:room] // as a hash that is too long is encoded
	for _, body := range []string{fill[:room+1], fill[:api.MaxTerm], fill[:api.MaxTerm+1], fill, hashed[:api.MaxTerm-1], hashed + "x", over} {
		n := a.Len()
		wantTerm(t, a, unit(body), api.None, api.ErrLong)
		wantOpen(t, a, hash, 0, unit(body), "", api.ErrLong)
		wantTerm(t, nil, unit(body), api.None, api.ErrArg)
		if a.Len() != n {
			t.Errorf("Term of %d bytes: %d terms more", len(body), a.Len()-n)
		}
	}
}

// badUnits are strings that are no units, with the errors of their lengths.
func badUnits() map[string]api.Errno {
	a := term.New()
	s := sealed(a, a.Key(1), 0, a.List(a.Data("\x15")))
	l := map[string]api.Errno{
		s + "\x00": api.ErrForm, s + s: api.ErrForm, "\x00\x00\x00\x00": api.ErrForm, "\x00\x00\x00\x00" + s: api.ErrForm,
		"\x01": api.ErrLong, "\xff" + s: api.ErrLong, "\x00\x04\x00\x01": api.ErrLong, "\x00\x04\x00\x01" + s: api.ErrLong,
	}
	for i := range len(s) {
		l[s[:i]] = api.ErrShort
	}
	return l
}

// 12.1, 12.2: a unit's error comes first, then a missing arena.
func TestBadUnits(t *testing.T) {
	a := term.New()
	key := a.Key(1)
	for s, err := range badUnits() {
		for _, b := range []*term.Arena{a, nil, {}} {
			wantTerm(t, b, s, api.None, err)
			for _, k := range append(missing(b), key) {
				wantOpen(t, b, k, 0, s, "", err)
			}
		}
	}
	s := sealed(a, key, 0, a.List(a.Data("\x15")))
	for _, k := range append(missing(nil), key) {
		wantOpen(t, nil, k, 0, s, "", api.ErrArg)
		wantOpen(t, nil, k, 0, unit("abc"), "", api.ErrArg)
	}
	wantTerm(t, nil, s, api.None, api.ErrArg)
	wantTerm(t, nil, unit("abc"), api.None, api.ErrArg)
}

// 12.2: terms that are not sealed, or not as the outermost.
func TestOpenOfOthers(t *testing.T) {
	a := term.New()
	key := a.Key(3)
	inside := a.List(a.Data("\x15"))
	right := a.Seal(key, 7, inside)
	others := append(kinds(a), inside, a.List(right), a.Hash(right), a.Sign("alg", key, right), a.Derive('C', key, inside, inside),
		a.Data(code.Encode(a, right)), a.List(key, inside), a.Seal(right, 7, inside), a.Seal(key, 8, right))
	for _, x := range others {
		if v, _ := a.View(x); v.Kind == api.TmSeal && v.Args[0] == key && v.B == 7 {
			continue
		}
		wantOpen(t, a, key, 7, unit(code.Encode(a, x)), "", api.ErrSeal)
	}
	for _, body := range []string{"abc", "\x15", "\x00", code.Encode(a, right) + "x", code.Encode(a, right)[1:]} {
		wantOpen(t, a, key, 7, unit(body), "", api.ErrSeal)
	}
	wantOpen(t, a, key, 7, unit(code.Encode(a, right)), "\x15", api.OK)
}

// 12.2: terms of other kinds that have the key, and the number, where a sealed term has them.
func TestOpenOfAlike(t *testing.T) {
	a := term.New()
	key := a.Key(3)
	inside := a.List(a.Data("\x15"))
	for _, n := range []byte{0, 7, 255} {
		alike := []api.ID{a.Derive(n, key, inside, inside), a.List(key, inside), a.Sign("alg", key, inside), a.Pub(key), key}
		for _, x := range alike {
			wantOpen(t, a, key, uint32(n), unit(code.Encode(a, x)), "", api.ErrSeal)
		}
		wantOpen(t, a, key, uint32(n), sealed(a, key, uint32(n), inside), "\x15", api.OK)
	}
}

// 12.2: numbers that name no term are no key, even if the unit's terms take them.
func TestOpenWithoutKey(t *testing.T) {
	a := term.New()
	for _, body := range payloads {
		for _, key := range kinds(a) {
			s, _ := seal.Pack(a, key, 3, body)
			for k := range api.ID(8) {
				wantOpen(t, term.New(), k, 3, s, "", api.ErrSeal)
				wantOpen(t, &term.Arena{}, k, 3, s, "", api.ErrSeal)
			}
			for _, k := range missing(a) {
				wantOpen(t, a, k, 3, s, "", api.ErrSeal)
			}
		}
	}
}

// 12.2: what is sealed has to be the term of a payload that is not empty; a wrong key or number comes first.
func TestOpenOfNoPayload(t *testing.T) {
	a := term.New()
	key, other := a.Key(3), a.Key(4)
	number, data := a.Data("\x15"), a.Data("x")
	for _, inside := range []api.ID{
		a.Data(""), number, a.Data("\x05\x00\x00\x00\x01x"), a.Data("\x1e\x00\x00\x00\x05" + key3),
		a.List(), a.List(number, number), a.List(a.Data("")), a.List(key), a.List(a.Data("\xff")), a.List(a.List(number)),
		a.List(a.Data("\x05")), a.List(a.Data("\x05"), data), a.List(a.Data("\x1e"), a.Data(key3)), a.List(a.Data("\x05"), key), a.List(a.Data("\x1f"), data),
		key, a.Pub(key), a.Nonce(0, 0), a.Base("g"), a.Exp(a.Base("g"), a.Nonce(0, 0)), a.Hash(number), a.Sign("alg", key, number), a.Derive('C', data, data, data),
		a.Seal(key, 7, a.List(number)), a.Seal(key, 8, a.List(number)),
	} {
		s := sealed(a, key, 7, inside)
		wantOpen(t, a, key, 7, s, "", api.ErrForm)
		wantOpen(t, a, key, 6, s, "", api.ErrSeal)
		wantOpen(t, a, other, 7, s, "", api.ErrSeal)
		wantOpen(t, a, api.None, 7, s, "", api.ErrSeal)
	}
	for inside, want := range map[api.ID]string{
		a.List(number): "\x15", a.Data("\xff"): "\xff", a.Data("\x00"): "\x00", a.Data(key3): key3,
		a.List(a.Data("\x1e"), key): "\x1e\x00\x00\x00\x05" + key3, a.List(a.Data("\x1e"), a.Data("")): "\x1e\x00\x00\x00\x00",
	} {
		wantOpen(t, a, key, 7, sealed(a, key, 7, inside), want, api.OK)
	}
}

// 12.3.
func TestNext(t *testing.T) {
	for n, want := range map[uint32]uint32{0: 1, 1: 2, 3: 4, 255: 256, 65535: 65536, 1<<31 - 1: 1 << 31, 1 << 31: 1<<31 + 1, 1<<32 - 2: 1<<32 - 1, 1<<32 - 1: 0} {
		if got := seal.Next(n); got != want {
			t.Errorf("Next(%d): %d", n, got)
		}
	}
}

// 12.3, 12.4: packets in order, past the last number.
func TestNextPackets(t *testing.T) {
	a := term.New()
	key := a.Key(1)
	out, in := uint32(1<<32-3), uint32(1<<32-3)
	for range 6 {
		s, _ := seal.Pack(a, key, out, "\x15")
		out = seal.Next(out)
		wantOpen(t, a, key, out, s, "", api.ErrSeal)
		wantOpen(t, a, key, in, s, "\x15", api.OK)
		in = seal.Next(in)
	}
	if out != 3 {
		t.Errorf("the next number: %d", out)
	}
}

// FuzzPack checks that a packet is opened with its own key and number, and with no others.
func FuzzPack(f *testing.F) {
	for i, s := range payloads {
		f.Add(s, uint32(i), uint32(i+1), byte(i))
	}
	f.Fuzz(func(t *testing.T, body string, n, other uint32, kind byte) {
		a := term.New()
		keys := kinds(a)
		key := keys[int(kind)%len(keys)]
		s, e := seal.Pack(a, key, n, body)
		if (e == api.OK) != (len(body) >= 1 && len(body) <= api.MaxPayload) {
			t.Fatalf("%d bytes: %v", len(body), e)
		}
		if e != api.OK {
			return
		}
		wantOpen(t, a, key, n, s, body, api.OK)
		wantOpen(t, a, keys[(int(kind)+1)%len(keys)], n, s, "", api.ErrSeal)
		if other != n {
			wantOpen(t, a, key, other, s, "", api.ErrSeal)
		}
	})
}

// FuzzOpen checks that a unit that is opened is the packet of what it is opened to.
func FuzzOpen(f *testing.F) {
	a := term.New()
	for _, s := range payloads {
		packed, _ := seal.Pack(a, a.Key(3), 7, s)
		f.Add(packed[4:])
	}
	f.Add("")
	f.Fuzz(func(t *testing.T, body string) {
		a := term.New()
		key := a.Key(3)
		got, e := seal.Open(a, key, 7, unit(body))
		if e == api.OK {
			wantPack(t, a, key, 7, got, unit(body), api.OK)
		} else if got != "" {
			t.Errorf("Open of %q: %q, %v", body, got, e)
		}
		x, e := seal.Term(a, unit(body))
		if e == api.OK && code.Opaque(body) {
			wantUnit(t, a, x, unit(body), api.OK)
		}
	})
}
