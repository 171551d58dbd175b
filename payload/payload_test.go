package payload_test

import (
	"maps"
	"math"
	"slices"
	"strings"
	"testing"

	"shibboleth/api"
	"shibboleth/code"
	"shibboleth/msg"
	"shibboleth/payload"
	"shibboleth/schema"
	"shibboleth/term"
	"shibboleth/wire"
)

const cookie = "0123456789abcdef"

// part is a field of a payload: its form on the wire, and its term.
type part struct {
	form string
	term func(a *term.Arena) api.ID
}

// row is a payload of the format of a number.
type row struct {
	num    int
	format string
	parts  []part
}

// d is a field whose term is the data term with its form.
func d(form string) part {
	return part{form, func(a *term.Arena) api.ID { return a.Data(form) }}
}

// raw is a field of letter t whose bytes are no encoding of a term other than data.
func raw(s string) part {
	return part{wire.Text(s), func(a *term.Arena) api.ID { return a.Data(s) }}
}

// enc is a field of letter t whose bytes are the encoding of the term that is made.
func enc(build func(a *term.Arena) api.ID) part {
	a := term.New()
	return part{wire.Text(code.Encode(a, build(a))), build}
}

// These make a term of each kind but data.
func nonce(a *term.Arena) api.ID  { return a.Nonce(1, 2) }
func key(a *term.Arena) api.ID    { return a.Key(3) }
func pub(a *term.Arena) api.ID    { return a.Pub(a.Key(3)) }
func share(a *term.Arena) api.ID  { return a.Exp(a.Base("g14"), a.Nonce(1, 2)) }
func sig(a *term.Arena) api.ID    { return a.Sign("rsa", a.Key(3), a.Data("signed")) }
func hash(a *term.Arena) api.ID   { return a.Hash(a.Data("hashed")) }
func derive(a *term.Arena) api.ID { return a.Derive('A', share(a), hash(a), hash(a)) }
func seal(a *term.Arena) api.ID   { return a.Seal(derive(a), math.MaxUint32, a.Data("sealed")) }
func list(a *term.Arena) api.ID   { return a.List(a.Data("\x15")) }

// other are the terms of each kind but data.
var other = []func(a *term.Arena) api.ID{nonce, key, pub, share, sig, hash, derive, seal, list}

// rows are payloads of each format of each number, and some more of those whose fields may be terms.
var rows = []row{
	{1, "uss", []part{d("\x00\x00\x00\x0b"), d("\x00\x00\x00\x03bye"), d("\x00\x00\x00\x02en")}},
	{2, "s", []part{d("\x00\x00\x00\x00")}},
	{3, "u", []part{d("\xff\xff\xff\xff")}},
	{4, "bss", []part{d("\x01"), d("\x00\x00\x00\x04text"), d("\x00\x00\x00\x00")}},
	{5, "s", []part{d("\x00\x00\x00\x0cssh-userauth")}},
	{6, "s", []part{d("\x00\x00\x00\x05\xf3\x00\x00\x00\x03")}}, // as a key is encoded, but not in a field of letter t
	{7, "e", []part{d("\x00\x00\x00\x00")}},
	{7, "e", []part{d("\x00\x00\x00\x02\x00\x00\x00\x01a\x00\x00\x00\x00\x00\x00\x00\x01b\x00\x00\x00\x05\xf3\x00\x00\x00\x03")}},
	{20, "cnnnnnnnnnnbu", []part{d(cookie), d("\x00\x00\x00\x05k1,k2"), d("\x00\x00\x00\x01h"), d("\x00\x00\x00\x01e"), d("\x00\x00\x00\x01f"), d("\x00\x00\x00\x01i"),
		d("\x00\x00\x00\x01j"), d("\x00\x00\x00\x04none"), d("\x00\x00\x00\x09zlib,none"), d("\x00\x00\x00\x00"), d("\x00\x00\x00\x02de"), d("\x00"), d("\x00\x00\x00\x00")}},
	{21, "", nil},
	{30, "t", []part{raw("")}},
	{30, "t", []part{enc(share)}},
	{31, "ttt", []part{enc(pub), enc(share), enc(sig)}},
	{31, "ttt", []part{raw("\xf3\x00\x00\x00"), enc(list), raw("\xf1\x00\x00\x00\x01x")}},
	{31, "mm", []part{d("\x00\x00\x00\x03\x00\x81\x00"), d("\x00\x00\x00\x05\x7f\x00\x00\x00\x03")}},
	{31, "mm", []part{d("\x00\x00\x00\x00"), d("\x00\x00\x00\x01\x02")}},
	{32, "t", []part{enc(nonce)}},
	{33, "ttt", []part{enc(key), raw("f"), enc(seal)}},
	{34, "uuu", []part{d("\x00\x00\x04\x00"), d("\x00\x00\x07\xd0"), d("\x00\x00\x20\x00")}},
	{50, "sss", []part{d("\x00\x00\x00\x04user"), d("\x00\x00\x00\x07service"), d("\x00\x00\x00\x04none")}},
	{50, "sssbst", []part{d("\x00\x00\x00\x04user"), d("\x00\x00\x00\x07service"), d("\x00\x00\x00\x09publickey"), d("\x00"), d("\x00\x00\x00\x03alg"), enc(pub)}},
	{50, "sssbstt", []part{d("\x00\x00\x00\x04user"), d("\x00\x00\x00\x07service"), d("\x00\x00\x00\x09publickey"), d("\x01"), d("\x00\x00\x00\x03alg"), enc(pub), enc(sig)}},
	{51, "nb", []part{d("\x00\x00\x00\x12publickey,password"), d("\x01")}},
	{52, "", nil},
	{53, "ss", []part{d("\x00\x00\x00\x07hello\r\n"), d("\x00\x00\x00\x02en")}},
	{60, "st", []part{d("\x00\x00\x00\x03alg"), enc(hash)}},
	{60, "st", []part{d("\x00\x00\x00\x03alg"), enc(derive)}},
}

// payload returns the row's bytes.
func (r row) payload() string {
	s := string([]byte{byte(r.num)})
	for _, p := range r.parts {
		s += p.form
	}
	return s
}

// terms returns the elements of the row's term.
func (r row) terms(a *term.Arena) []api.ID {
	l := []api.ID{a.Data(string([]byte{byte(r.num)}))}
	for _, p := range r.parts {
		l = append(l, p.term(a))
	}
	return l
}

// wantBytes checks that t is the term of s and of nothing else.
func wantBytes(tt *testing.T, a *term.Arena, t api.ID, s string) {
	tt.Helper()
	if got, is := payload.Bytes(a, t); got != s || !is {
		tt.Errorf("the bytes of %s: %d bytes, %v, not %d bytes", told(a, t), len(got), is, len(s))
	}
	if got := payload.Term(a, s); got != t {
		tt.Errorf("the term of %d bytes: %s, not %s", len(s), told(a, got), told(a, t))
	}
}

// wantNoBytes checks that t is the term of no payload, and that to ask for it leaves nothing in the arena.
func wantNoBytes(tt *testing.T, a *term.Arena, t api.ID) {
	tt.Helper()
	n := a.Len()
	if got, is := payload.Bytes(a, t); got != "" || is {
		tt.Errorf("the bytes of %s: %q, %v", told(a, t), got, is)
	}
	if a.Len() != n {
		tt.Errorf("the bytes of %s: %d terms more", told(a, t), a.Len()-n)
	}
}

// told is the beginning of what a term is encoded as.
func told(a *term.Arena, t api.ID) string {
	s := code.Encode(a, t)
	return strings.ToValidUTF8(s[:min(len(s), 100)], "?")
}

// The rows of these tests have to be all formats that there are.
func TestRowsAreComplete(tt *testing.T) {
	for num := range 256 {
		for _, format := range schema.Forms(num) {
			if !slices.ContainsFunc(rows, func(r row) bool { return r.num == num && r.format == format && len(r.parts) == len(format) }) {
				tt.Errorf("%d: %s: not among the rows", num, format)
			}
		}
	}
}

// 9.1, 9.2: the chapter's examples.
func TestExamples(tt *testing.T) {
	a := term.New()
	wantBytes(tt, a, a.List(a.Data("\x15")), "\x15")
	wantBytes(tt, a, a.Data("\xff"), "\xff")
}

// 9.1, 9.2: each format of each number, both ways, in an arena that has the term and in one that has not.
func TestRows(tt *testing.T) {
	for _, r := range rows {
		a := term.New()
		t := a.List(r.terms(a)...)
		n := a.Len()
		wantBytes(tt, a, t, r.payload())
		if a.Len() != n {
			tt.Errorf("%d %s: %d terms more than there have to be", r.num, r.format, a.Len()-n)
		}
		b := term.New()
		if got := payload.Term(b, r.payload()); code.Encode(b, got) != code.Encode(a, t) {
			tt.Errorf("%d %s: %s, not %s", r.num, r.format, told(b, got), told(a, t))
		}
	}
}

// 9.1, 9.2: bytes in a field of letter t are of a term of each kind but data; elsewhere they are data.
func TestOpaqueBytes(tt *testing.T) {
	for _, build := range other {
		a := term.New()
		s := code.Encode(a, build(a))
		wantBytes(tt, a, a.List(a.Data("\x1e"), build(a)), "\x1e"+wire.Text(s))
		wantBytes(tt, a, a.List(a.Data("\x02"), a.Data(wire.Text(s))), "\x02"+wire.Text(s))
		wantBytes(tt, a, a.Data("\x1e"+s), "\x1e"+s)
		wantNoBytes(tt, a, a.List(a.Data("\x1e"), a.Data(s)))
		wantNoBytes(tt, a, a.List(a.Data("\x1e"), a.Data(wire.Text(s)), a.Data("")))
		wantNoBytes(tt, a, a.List(a.Data("\x02"), build(a)))
		wantNoBytes(tt, a, a.List(a.Data("\x02"), a.Data(s)))
	}
}

// 9.1, 9.2: a cookie is the only field of another letter whose form may be the encoding of a term; it is data.
func TestOpaqueCookie(tt *testing.T) {
	a := term.New()
	opaque := a.List(a.Data("sixsix"))
	cookie := code.Encode(a, opaque)
	if len(cookie) != 16 || !code.Opaque(cookie) {
		tt.Fatalf("the cookie %q", cookie)
	}
	i := slices.IndexFunc(rows, func(r row) bool { return r.num == 20 })
	parts := rows[i].terms(a)
	parts[1] = a.Data(cookie)
	wantBytes(tt, a, a.List(parts...), "\x14"+cookie+rows[i].payload()[17:])
	parts[1] = opaque
	wantNoBytes(tt, a, a.List(parts...))
}

// 9.1, 9.2: a payload that is as a whole the encoding of a term is data if it is no message, and so are the bytes of encoded data.
func TestOpaquePayloads(tt *testing.T) {
	for _, build := range append(other, func(a *term.Arena) api.ID { return a.Data("x") }) {
		a := term.New()
		s := code.Encode(a, build(a))
		wantBytes(tt, a, a.Data(s), s)
		if a.Kind(build(a)) != api.TmData {
			wantBytes(tt, a, a.List(a.Data("\x20"), build(a)), "\x20"+wire.Text(s))
		}
	}
}

// noMessages returns payloads that are no messages.
func noMessages() []string {
	l := []string{"", "\x00", "\x00\x00", "\x08", "\x13", "\x16", "\x1d", "\x23", "\x31", "\x36", "\x3b", "\x3d", "\x50", "\xf3\x00\x00\x00\x03", "\xff",
		"\x04\x02\x00\x00\x00\x00\x00\x00\x00\x00",                      // a boolean that is none
		"\x1f\x00\x00\x00\x01\x80\x00\x00\x00\x01\x02",                  // a negative integer
		"\x1f\x00\x00\x00\x02\x00\x02\x00\x00\x00\x01\x02",              // an unnecessary zero byte
		"\x33\x00\x00\x00\x01,\x00",                                     // names that are empty
		"\x33\x00\x00\x00\x03a b\x00",                                   // a name with a space
		"\x33" + wire.Text(strings.Repeat("n,", 16)+"n") + "\x00",       // too many names
		"\x33" + wire.Text(strings.Repeat("n", 65)) + "\x00",            // a name that is too long
		"\x07\x00\x00\x00\x09" + strings.Repeat("\x00\x00\x00\x00", 18), // too many extensions
		"\x07\x00\x00\x00\x01\x00\x00\x00\x00",                          // half an extension
	}
	for num := range 256 {
		if !schema.Known(num) {
			l = append(l, string([]byte{byte(num)})+"\x00\x00\x00\x00")
		}
	}
	return l
}

// 9.1, 9.2: payloads that are no message.
func TestNoMessages(tt *testing.T) {
	for _, s := range noMessages() {
		a := term.New()
		wantBytes(tt, a, a.Data(s), s)
		if a.Len() != 1 {
			tt.Errorf("%q: %d terms", s, a.Len())
		}
	}
}

// 9.1, 9.2: messages' payloads that are cut, or that go on; cut, one may be a message of another format.
func TestCutPayloads(tt *testing.T) {
	for _, r := range rows {
		s := r.payload()
		for i := range len(s) {
			wantData(tt, s[:i])
		}
		wantData(tt, s+"\x00")
		wantData(tt, s+"\x00\x00\x00\x00")
		wantData(tt, s+s)
	}
}

// wantData checks the term of a payload, which is data unless the payload is a message.
func wantData(tt *testing.T, s string) {
	tt.Helper()
	a := term.New()
	t := payload.Term(a, s)
	if _, err := msg.Decode(s); err != nil && t != a.Data(s) || err == nil && a.Kind(t) != api.TmList {
		tt.Errorf("the term of %q: %s", s, told(a, t))
	}
	wantBytes(tt, a, t, s)
}

// 9.2: the data term with the bytes of a message is no payload's.
func TestDataOfMessages(tt *testing.T) {
	for _, r := range rows {
		a := term.New()
		wantNoBytes(tt, a, a.Data(r.payload()))
	}
}

// 9.2: a message's term without a part, with one more, or with another number.
func TestChangedLists(tt *testing.T) {
	for _, r := range rows {
		a := term.New()
		whole := r.terms(a)
		wantNoBytes(tt, a, a.List(whole[1:]...))
		wantNoBytes(tt, a, a.List(a.List(whole...)))
		number := r.payload()[:1]
		for _, first := range []api.ID{a.Data(""), a.Data("\x00"), a.Data("\xff"), a.Data(number + "\x00"), a.Data("\x00" + number), a.Data(number + number), a.Key(r.num), a.List(whole[0]), a.Base(number), a.Sign(number, a.Key(0), whole[0])} {
			wantNoBytes(tt, a, a.List(append([]api.ID{first}, whole[1:]...)...))
		}
		// With a part more, or less, it may be a term of another format.
		if _, is := schema.Fit(r.num, len(r.parts)+1); !is {
			wantNoBytes(tt, a, a.List(append(slices.Clone(whole), a.Data("x"))...))
		}
		if _, is := schema.Fit(r.num, len(r.parts)-1); len(r.parts) > 0 && !is {
			wantNoBytes(tt, a, a.List(whole[:len(r.parts)]...))
		}
	}
}

// 9.2: a message's term in which one field is not of its letter.
func TestChangedFields(tt *testing.T) {
	for _, r := range rows {
		for i, p := range r.parts {
			a := term.New()
			var wrong []api.ID
			for _, build := range other {
				t := build(a)
				if r.format[i] == 't' {
					t = a.Data(code.Encode(a, t))
				}
				wrong = append(wrong, t)
			}
			if r.format[i] != 't' {
				// The text of a group or of an algorithm is not taken for bytes.
				wrong = append(wrong, a.Base(p.form), a.Sign(p.form, a.Key(0), a.Data(p.form)))
				wrong = append(wrong, a.Data(""), a.Data(p.form+"\x00"), a.Data("\x00"+p.form), a.Data(p.form+p.form), a.Data(p.form[1:]), a.Data(p.form[:len(p.form)-1]))
			}
			for _, t := range wrong {
				changed := r.terms(a)
				changed[1+i] = t
				wantNoBytes(tt, a, a.List(changed...))
			}
		}
	}
}

// 9.2: what a message's payload consists of, divided elsewhere: joined it is a message, but it is not its term.
func TestDividedElsewhere(tt *testing.T) {
	pairs := 0
	for _, r := range rows {
		for i := 1; i < len(r.parts); i++ {
			if r.format[i-1] == 't' || r.format[i] == 't' {
				continue
			}
			pairs++
			left, right := r.parts[i-1].form, r.parts[i].form
			for cut := range len(left + right) {
				a := term.New()
				changed := r.terms(a)
				changed[i], changed[i+1] = a.Data((left + right)[:cut]), a.Data((left + right)[cut:])
				if cut != len(left) {
					wantNoBytes(tt, a, a.List(changed...))
				}
			}
		}
	}
	if pairs == 0 {
		tt.Errorf("nothing was divided")
	}
}

// 9.2: parts that are, joined, a message of another format of the same number.
func TestOtherFormats(tt *testing.T) {
	a := term.New()
	num, three := a.Data("\x1f"), "\x00\x00\x00\x01a\x00\x00\x00\x01b\x00\x00\x00\x01c"
	wantBytes(tt, a, a.List(num, a.Data("a"), a.Data("b"), a.Data("c")), "\x1f"+three)
	wantNoBytes(tt, a, a.List(num, a.Data(three), a.Data("")))
	wantNoBytes(tt, a, a.List(num, a.Data(three[:5]), a.Data(three[5:])))
	wantNoBytes(tt, a, a.List(num, a.Data(three[:5]), a.Data(three[5:10]), a.Data(three[10:]), a.Data("")))
	request := a.Data("\x32")
	user, rest := a.Data("\x00\x00\x00\x01u"), "\x00\x00\x00\x01m\x00\x00\x00\x00\x01a\x00\x00\x00\x01k"
	wantBytes(tt, a, a.List(request, user, user, a.Data(rest[:5]), a.Data(rest[5:6]), a.Data(rest[6:11]), a.Data("k")), "\x32\x00\x00\x00\x01u\x00\x00\x00\x01u"+rest)
	wantNoBytes(tt, a, a.List(request, user, user, a.Data(rest)))
}

// 9.2: lists that are nothing like a message's term, and terms of other kinds.
func TestOtherTerms(tt *testing.T) {
	a := term.New()
	wantNoBytes(tt, a, a.List())
	for _, build := range other {
		t := build(a)
		wantNoBytes(tt, a, a.List(t))
		wantNoBytes(tt, a, a.List(t, t))
		wantNoBytes(tt, a, a.List(a.Data("\x15"), t))
		wantNoBytes(tt, a, a.List(a.Data("\xf3"), t))
		if a.Kind(t) != api.TmList {
			wantNoBytes(tt, a, t)
		}
	}
	for num := range 256 {
		if !schema.Known(num) {
			wantNoBytes(tt, a, a.List(a.Data(string([]byte{byte(num)}))))
			wantNoBytes(tt, a, a.List(a.Data(string([]byte{byte(num)})), a.Data("\x00\x00\x00\x00")))
		}
	}
	wantNoBytes(tt, a, a.List(slices.Repeat([]api.ID{a.Data("\x02")}, api.MaxArgs)...))
}

// 9.1, 9.2: a payload of MaxPayload bytes, and one byte above: that is data, and data of so many bytes is no payload's.
func TestMaxPayload(tt *testing.T) {
	fill := strings.Repeat("x", api.MaxPayload)
	for above := range 2 {
		a := term.New()
		room := api.MaxPayload - 5 + above // for a string behind the number
		text, hashed := fill[:room], a.Hash(a.Data(fill[:room-6]))
		for s, t := range map[string]api.ID{
			"\x02" + wire.Text(text):                   a.List(a.Data("\x02"), a.Data(wire.Text(text))),
			"\x1e" + wire.Text(text):                   a.List(a.Data("\x1e"), a.Data(text)),
			"\x20" + wire.Text(code.Encode(a, hashed)): a.List(a.Data("\x20"), hashed),
		} {
			if len(s) != api.MaxPayload+above {
				tt.Fatalf("%d bytes", len(s))
			}
			if above == 0 {
				wantBytes(tt, a, t, s)
				continue
			}
			wantNoBytes(tt, a, t)
			if got := payload.Term(a, s); got != a.Data(s) {
				tt.Errorf("the term of %d bytes: %s", len(s), told(a, got))
			}
			wantNoBytes(tt, a, a.Data(s))
			wantBytes(tt, a, a.Data(s[:api.MaxPayload]), s[:api.MaxPayload])
		}
	}
	a := term.New()
	wantBytes(tt, a, a.Data(fill), fill)
	wantNoBytes(tt, a, a.Data(fill+"x"))
	wantNoBytes(tt, a, a.List(a.Data("\x1e"), a.Hash(a.Data(strings.Repeat("x", api.MaxTerm-20)))))
	wantNoBytes(tt, a, a.List(a.Data("\x21"), a.Data(fill), a.Data(fill), a.Data(fill)))
}

// 9.1: the longest payload that has a term, and one byte more.
func TestMaxTerm(tt *testing.T) {
	const room = api.MaxTerm - 5 // the bytes of the longest data
	for _, c := range []string{"\xff", "\x02", "\x00", "\xf1"} {
		a := term.New()
		s := c + strings.Repeat("x", room)
		if got := payload.Term(a, s[:room]); got != a.Data(s[:room]) || a.Size(got) != api.MaxTerm {
			tt.Errorf("the term of %d bytes: %s", room, told(a, got))
		}
		n := a.Len()
		for _, s := range []string{s, s + s} {
			if got := payload.Term(a, s); got != api.None || a.Len() != n {
				tt.Errorf("the term of %d bytes: %s, %d terms more", len(s), told(a, got), a.Len()-n)
			}
		}
		wantNoBytes(tt, a, a.Data(s[:room]))
	}
}

// samples returns the payloads of the other tests, each once.
func samples() []string {
	set := map[string]bool{}
	for _, s := range noMessages() {
		set[s] = true
	}
	for _, r := range rows {
		s := r.payload()
		for i := range len(s) {
			set[s[:i]] = true
		}
		set[s], set[s+"\x00"], set["\x15"+s] = true, true, true
	}
	return slices.Sorted(maps.Keys(set))
}

// 9.1, 9.2: without an arena there are no terms.
func TestNilArena(tt *testing.T) {
	for _, s := range samples() {
		if got := payload.Term(nil, s); got != api.None {
			tt.Errorf("the term of %q: %d", s, got)
		}
	}
	for _, t := range []api.ID{math.MinInt, -1, 0, 1, math.MaxInt} {
		wantNoBytes(tt, nil, t)
	}
}

// 9.2: numbers that name no term are those of no payload.
func TestMissingTerms(tt *testing.T) {
	a := term.New()
	payload.Term(a, rows[0].payload())
	for _, b := range []*term.Arena{a, term.New(), {}} {
		for _, t := range []api.ID{math.MinInt, -2, api.None, api.ID(b.Len()), api.ID(b.Len()) + 1, math.MaxInt} {
			wantNoBytes(tt, b, t)
		}
	}
	zero := &term.Arena{}
	wantBytes(tt, zero, zero.Data("\xff"), "\xff")
}

// 9.3: different payloads have different terms, and every term that has a payload is that payload's.
func TestOneToOne(tt *testing.T) {
	a := term.New()
	of := map[api.ID]string{}
	for _, s := range samples() {
		t := payload.Term(a, s)
		if before, is := of[t]; is {
			tt.Errorf("%q and %q have one term", before, s)
		}
		of[t] = s
	}
	for t := range api.ID(a.Len()) {
		s, is := payload.Bytes(a, t)
		if want, has := of[t]; has && (s != want || !is) {
			tt.Errorf("the bytes of %s: %q, %v, not %q", told(a, t), s, is, want)
		}
		if is && payload.Term(a, s) != t {
			tt.Errorf("the term of %q is not %s", s, told(a, t))
		}
	}
}

// FuzzPayload checks that every payload is its term's.
func FuzzPayload(f *testing.F) {
	for _, s := range samples() {
		f.Add(s)
	}
	f.Fuzz(func(tt *testing.T, s string) {
		a := term.New()
		t := payload.Term(a, s)
		if got, is := payload.Bytes(a, t); len(s) <= api.MaxPayload && (got != s || !is) {
			tt.Fatalf("%q: %s, %q, %v", s, told(a, t), got, is)
		}
		if _, err := msg.Decode(s); (err == nil) != (a.Kind(t) == api.TmList) {
			tt.Errorf("%q: %s", s, told(a, t))
		}
	})
}

// FuzzList checks that a list has the payload of which it is the term, if there is one.
func FuzzList(f *testing.F) {
	for _, r := range rows {
		if len(r.parts) == 2 {
			f.Add(byte(r.num), r.parts[0].form, r.parts[1].form, byte(r.num))
		}
	}
	f.Fuzz(func(tt *testing.T, num byte, left, right string, kind byte) {
		a := term.New()
		parts := []api.ID{a.Data(string([]byte{num})), a.Data(left), a.Data(right), other[int(kind)%len(other)](a)}
		joined := string([]byte{num}) + left + right
		for _, t := range []api.ID{a.List(parts[:2]...), a.List(parts[:3]...), a.List(parts...), a.List(parts[0], parts[1], parts[3]), a.List(parts[0], parts[3])} {
			s, is := payload.Bytes(a, t)
			if is && payload.Term(a, s) != t || !is && (s != "" || payload.Term(a, joined) == t) {
				tt.Errorf("%s: %q, %v", told(a, t), s, is)
			}
		}
	})
}
