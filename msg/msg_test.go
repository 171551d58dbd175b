package msg_test

import (
	"errors"
	"math"
	"slices"
	"strconv"
	"strings"
	"testing"

	"shibboleth/api"
	"shibboleth/fault"
	"shibboleth/msg"
	"shibboleth/schema"
)

const cookie = "0123456789abcdef"

// Values of each letter, which differ from one another where there are several.
var (
	no    = api.Field{Kind: 'b'}
	yes   = api.Field{Kind: 'b', N: 1}
	seven = u(7)
	round = api.Field{Kind: 'c', S: cookie}
	none  = n()
)

func u(n int) api.Field       { return api.Field{Kind: 'u', N: n} }
func s(s string) api.Field    { return api.Field{Kind: 's', S: s} }
func t(s string) api.Field    { return api.Field{Kind: 't', S: s} }
func m(s string) api.Field    { return api.Field{Kind: 'm', S: s} }
func n(l ...string) api.Field { return api.Field{Kind: 'n', L: l} }
func e(l ...string) api.Field { return api.Field{Kind: 'e', L: l} }

// part is a field and its wire form.
type part struct {
	field api.Field
	form  string
}

// kexinitParts are those of the message with the most fields.
var kexinitParts = []part{
	{round, cookie}, {n("k1", "k2"), "\x00\x00\x00\x05k1,k2"}, {n("h"), "\x00\x00\x00\x01h"}, {n("e"), "\x00\x00\x00\x01e"}, {n("f", "g"), "\x00\x00\x00\x03f,g"},
	{n("i"), "\x00\x00\x00\x01i"}, {n("j"), "\x00\x00\x00\x01j"}, {n("none"), "\x00\x00\x00\x04none"}, {n("zlib", "none"), "\x00\x00\x00\x09zlib,none"}, {none, "\x00\x00\x00\x00"},
	{n("de"), "\x00\x00\x00\x02de"}, {no, "\x00"}, {u(0), "\x00\x00\x00\x00"},
}

// rows are a message of each format of each number: each row of layer 6's table.
var rows = []struct {
	num   int
	word  string
	first int // how many fields the first format of the number has
	parts []part
}{
	{1, "disconnect", 3, []part{{u(11), "\x00\x00\x00\x0b"}, {s("bye"), "\x00\x00\x00\x03bye"}, {s("en"), "\x00\x00\x00\x02en"}}},
	{2, "ignore", 1, []part{{s("\x00\xff"), "\x00\x00\x00\x02\x00\xff"}}},
	{3, "unimplemented", 1, []part{{u(math.MaxUint32), "\xff\xff\xff\xff"}}},
	{4, "debug", 3, []part{{yes, "\x01"}, {s("text"), "\x00\x00\x00\x04text"}, {s(""), "\x00\x00\x00\x00"}}},
	{5, "service-request", 1, []part{{s("ssh-userauth"), "\x00\x00\x00\x0cssh-userauth"}}},
	{6, "service-accept", 1, []part{{s("ssh-userauth"), "\x00\x00\x00\x0cssh-userauth"}}},
	{7, "ext-info", 1, []part{{e("a", "", "b", "v"), "\x00\x00\x00\x02\x00\x00\x00\x01a\x00\x00\x00\x00\x00\x00\x00\x01b\x00\x00\x00\x01v"}}},
	{20, "kexinit", 13, kexinitParts},
	{21, "newkeys", 0, nil},
	{30, "ecdh-init", 1, []part{{t("\xf5share"), "\x00\x00\x00\x06\xf5share"}}},
	{31, "reply-or-group", 3, []part{{t("\x80key"), "\x00\x00\x00\x04\x80key"}, {t("\x00f"), "\x00\x00\x00\x02\x00f"}, {t("sig"), "\x00\x00\x00\x03sig"}}},
	{31, "reply-or-group", 3, []part{{m("\x81\x00"), "\x00\x00\x00\x03\x00\x81\x00"}, {m("\x02"), "\x00\x00\x00\x01\x02"}}},
	{32, "gex-init", 1, []part{{t("e"), "\x00\x00\x00\x01e"}}},
	{33, "gex-reply", 3, []part{{t("key"), "\x00\x00\x00\x03key"}, {t(""), "\x00\x00\x00\x00"}, {t("sig"), "\x00\x00\x00\x03sig"}}},
	{34, "gex-request", 3, []part{{u(1024), "\x00\x00\x04\x00"}, {u(2000), "\x00\x00\x07\xd0"}, {u(8192), "\x00\x00\x20\x00"}}},
	{50, "userauth-request", 3, []part{{s("user"), "\x00\x00\x00\x04user"}, {s("service"), "\x00\x00\x00\x07service"}, {s("none"), "\x00\x00\x00\x04none"}}},
	{50, "userauth-request", 3, []part{{s("user"), "\x00\x00\x00\x04user"}, {s("service"), "\x00\x00\x00\x07service"}, {s("publickey"), "\x00\x00\x00\x09publickey"}, {no, "\x00"}, {s("alg"), "\x00\x00\x00\x03alg"}, {t("key"), "\x00\x00\x00\x03key"}}},
	{50, "userauth-request", 3, []part{{s("user"), "\x00\x00\x00\x04user"}, {s("service"), "\x00\x00\x00\x07service"}, {s("publickey"), "\x00\x00\x00\x09publickey"}, {yes, "\x01"}, {s("alg"), "\x00\x00\x00\x03alg"}, {t("key"), "\x00\x00\x00\x03key"}, {t("sig"), "\x00\x00\x00\x03sig"}}},
	{51, "userauth-failure", 2, []part{{n("publickey", "password"), "\x00\x00\x00\x12publickey,password"}, {yes, "\x01"}}},
	{52, "userauth-success", 0, nil},
	{53, "userauth-banner", 2, []part{{s("hello\r\n"), "\x00\x00\x00\x07hello\r\n"}, {s("en"), "\x00\x00\x00\x02en"}}},
	{60, "userauth-pk-ok", 2, []part{{s("alg"), "\x00\x00\x00\x03alg"}, {t("key"), "\x00\x00\x00\x03key"}}},
}

// whole returns the message of a number and of parts, and its payload.
func whole(num int, parts []part) (api.Msg, string) {
	x, payload := api.Msg{Num: num}, string([]byte{byte(num)})
	for _, p := range parts {
		x.Fields = append(x.Fields, p.field)
		payload += p.form
	}
	return x, payload
}

func sameField(x, y api.Field) bool {
	return x.Kind == y.Kind && x.N == y.N && x.S == y.S && slices.Equal(x.L, y.L)
}

func sameMsg(x, y api.Msg) bool {
	return x.Num == y.Num && slices.EqualFunc(x.Fields, y.Fields, sameField)
}

// wantEncodeError checks that a message has no payload, but an error with that text and number.
func wantEncodeError(tt *testing.T, name string, x api.Msg, text string, code api.Errno) {
	tt.Helper()
	payload, err := msg.Encode(x)
	if payload != "" {
		tt.Errorf("%s: %d bytes beside an error", name, len(payload))
	}
	wantError(tt, name, err, text, code)
}

// wantDecodeError checks that a payload has no message, but an error with that text and number.
func wantDecodeError(tt *testing.T, name, payload, text string, code api.Errno) {
	tt.Helper()
	x, err := msg.Decode(payload)
	if x.Num != 0 || x.Fields != nil {
		tt.Errorf("%s: %v beside an error", name, x)
	}
	wantError(tt, name, err, text, code)
}

func wantError(tt *testing.T, name string, err error, text string, code api.Errno) {
	tt.Helper()
	if err == nil || err.Error() != text || !errors.Is(err, code) || fault.Code(err) != code {
		tt.Errorf("%s: %v, not %s", name, err, text)
	} else if path := strings.Join(append(fault.Path(err), code.Error()), ": "); path != text {
		tt.Errorf("%s: the path is %q", name, fault.Path(err))
	}
}

// The rows of these tests have to be all formats that there are.
func TestRowsAreComplete(tt *testing.T) {
	left := map[int][]string{}
	for num := range 256 {
		left[num] = schema.Forms(num)
	}
	for _, r := range rows {
		var letters []byte
		for _, p := range r.parts {
			letters = append(letters, p.field.Kind)
		}
		i := slices.Index(left[r.num], string(letters))
		if i < 0 || schema.Word(r.num) != r.word || len(schema.Forms(r.num)[0]) != r.first {
			tt.Errorf("%d: %s: not a row", r.num, letters)
			continue
		}
		left[r.num] = slices.Delete(left[r.num], i, i+1)
	}
	for num, formats := range left {
		if len(formats) > 0 {
			tt.Errorf("%d: %q: not among the rows", num, formats)
		}
	}
}

// 7.1, 7.2, 7.4: each format of each number, both ways.
func TestRows(tt *testing.T) {
	for _, r := range rows {
		x, payload := whole(r.num, r.parts)
		if got, err := msg.Encode(x); got != payload || err != nil {
			tt.Errorf("Encode of %s: %q, %v", r.word, got, err)
		}
		if got, err := msg.Decode(payload); !sameMsg(got, x) || err != nil {
			tt.Errorf("Decode of %s: %v, %v", r.word, got, err)
		}
	}
	if got, err := msg.Encode(api.Msg{Num: 3, Fields: []api.Field{seven}}); got != "\x03\x00\x00\x00\x07" || err != nil {
		tt.Errorf("the chapter's example: %q, %v", got, err)
	}
}

// 7.1: a message without a format of its number with its number of fields.
func TestEncodeWithoutFormat(tt *testing.T) {
	for _, num := range []int{math.MinInt, -256, -236, -1, 0, 8, 19, 22, 29, 35, 49, 54, 59, 61, 80, 255, 256, 277, 1<<32 + 21, math.MaxInt} {
		for many := range 4 {
			x := api.Msg{Num: num, Fields: make([]api.Field, many)}
			wantEncodeError(tt, "number "+strconv.Itoa(num), x, "message: none", api.ErrNone)
		}
	}
	for num := range 256 {
		for many := range 20 {
			if _, is := schema.Fit(num, many); is {
				continue
			}
			x := api.Msg{Num: num, Fields: slices.Repeat([]api.Field{s("x")}, many)}
			wantEncodeError(tt, strconv.Itoa(many)+" fields", x, "message: none", api.ErrNone)
		}
	}
}

// 7.1: in each place of each row each letter but the format's one, and what is no letter.
func TestEncodeOfOtherKinds(tt *testing.T) {
	values := []api.Field{yes, seven, s("x"), m("x"), n("x"), round, t("x"), e("a", "b")}
	for _, kind := range []byte{0, 1, 'a', 'B', 'S', 'x', ' ', 0x80, 's' + 0x80, 0xff} {
		values = append(values, api.Field{Kind: kind}, api.Field{Kind: kind, S: "x"})
	}
	for _, r := range rows {
		for i, p := range r.parts {
			for _, v := range values {
				if v.Kind == p.field.Kind {
					continue
				}
				x, _ := whole(r.num, r.parts)
				x.Fields[i] = v
				wantEncodeError(tt, "another kind", x, r.word+": "+strconv.Itoa(i)+": form", api.ErrForm)
			}
		}
	}
}

// 7.1: in each place of each row something in a component that has to be empty.
func TestEncodeOfUnusedComponents(tt *testing.T) {
	for _, r := range rows {
		for i, p := range r.parts {
			x, payload := whole(r.num, r.parts)
			for _, c := range []struct {
				used   string // the letters of which the changed component is used
				change func(x *api.Field)
			}{
				{"bu", func(x *api.Field) { x.N++ }},
				{"bu", func(x *api.Field) { x.N-- }},
				{"smct", func(x *api.Field) { x.S += "x" }},
				{"ne", func(x *api.Field) { x.L = append(x.L, "") }},
				{"ne", func(x *api.Field) { x.L = append(x.L, "a", "b") }},
			} {
				if strings.IndexByte(c.used, p.field.Kind) >= 0 {
					continue
				}
				x.Fields[i] = p.field
				c.change(&x.Fields[i])
				wantEncodeError(tt, "an unused component", x, r.word+": "+strconv.Itoa(i)+": form", api.ErrForm)
			}
			x.Fields[i] = p.field
			if x.Fields[i].L == nil {
				x.Fields[i].L = []string{}
			}
			if got, err := msg.Encode(x); got != payload || err != nil {
				tt.Errorf("an empty slice for a nil one: %q, %v", got, err)
			}
		}
	}
}

// 7.1: the errors of values, and which one comes first.
func TestEncodeErrors(tt *testing.T) {
	long, bad := slices.Repeat([]string{"a"}, 17), slices.Repeat([]string{","}, 17)
	cut := func(x api.Field, at int) api.Msg {
		y, _ := whole(20, kexinitParts)
		y.Fields[at] = x
		return y
	}
	for _, c := range []struct {
		m    api.Msg
		text string
		code api.Errno
	}{
		{api.Msg{Num: 4, Fields: []api.Field{{Kind: 'b', N: 2}, s(""), s("")}}, "debug: 0: range", api.ErrRange},
		{api.Msg{Num: 4, Fields: []api.Field{{Kind: 'b', N: -1}, s(""), s("")}}, "debug: 0: range", api.ErrRange},
		{api.Msg{Num: 4, Fields: []api.Field{{Kind: 'b', N: 1 << 32}, s(""), s("")}}, "debug: 0: range", api.ErrRange},
		{api.Msg{Num: 3, Fields: []api.Field{u(-1)}}, "unimplemented: 0: range", api.ErrRange},
		{api.Msg{Num: 3, Fields: []api.Field{u(math.MinInt)}}, "unimplemented: 0: range", api.ErrRange},
		{api.Msg{Num: 3, Fields: []api.Field{u(1 << 32)}}, "unimplemented: 0: range", api.ErrRange},
		{api.Msg{Num: 3, Fields: []api.Field{u(math.MaxInt)}}, "unimplemented: 0: range", api.ErrRange},
		{api.Msg{Num: 34, Fields: []api.Field{u(0), u(1<<32 - 1), u(1 << 32)}}, "gex-request: 2: range", api.ErrRange},
		{api.Msg{Num: 31, Fields: []api.Field{m("\x00"), m("")}}, "reply-or-group: 0: form", api.ErrForm},
		{api.Msg{Num: 31, Fields: []api.Field{m(""), m("\x00\x80")}}, "reply-or-group: 1: form", api.ErrForm},
		{cut(api.Field{Kind: 'c', S: ""}, 0), "kexinit: 0: form", api.ErrForm},
		{cut(api.Field{Kind: 'c', S: cookie[1:]}, 0), "kexinit: 0: form", api.ErrForm},
		{cut(api.Field{Kind: 'c', S: cookie + "0"}, 0), "kexinit: 0: form", api.ErrForm},
		{cut(n(long...), 1), "kexinit: 1: long", api.ErrLong},
		{cut(n(bad...), 10), "kexinit: 10: long", api.ErrLong},
		{cut(n(bad[:16]...), 10), "kexinit: 10: form", api.ErrForm},
		{cut(n(""), 2), "kexinit: 2: form", api.ErrForm},
		{cut(n("a", "b c"), 2), "kexinit: 2: form", api.ErrForm},
		{cut(n(strings.Repeat("x", 65)), 9), "kexinit: 9: form", api.ErrForm},
		{cut(api.Field{Kind: 'b', N: 2}, 11), "kexinit: 11: range", api.ErrRange},
		{cut(u(-1), 12), "kexinit: 12: range", api.ErrRange},
		{api.Msg{Num: 7, Fields: []api.Field{e("a")}}, "ext-info: 0: form", api.ErrForm},
		{api.Msg{Num: 7, Fields: []api.Field{e(slices.Repeat([]string{"a"}, 15)...)}}, "ext-info: 0: form", api.ErrForm},
		{api.Msg{Num: 7, Fields: []api.Field{e(slices.Repeat([]string{"a"}, 17)...)}}, "ext-info: 0: form", api.ErrForm},
		{api.Msg{Num: 7, Fields: []api.Field{e(slices.Repeat([]string{"a"}, 18)...)}}, "ext-info: 0: long", api.ErrLong},
		{api.Msg{Num: 7, Fields: []api.Field{{Kind: 'e', N: 1, L: make([]string, 18)}}}, "ext-info: 0: form", api.ErrForm},
		{api.Msg{Num: 3, Fields: []api.Field{{Kind: 'u', N: -1, S: "x"}}}, "unimplemented: 0: form", api.ErrForm},
		{api.Msg{Num: 51, Fields: []api.Field{{Kind: 'n', S: "a", L: long}, yes}}, "userauth-failure: 0: form", api.ErrForm},
		{api.Msg{Num: 34, Fields: []api.Field{u(0), u(-1), s("x")}}, "gex-request: 1: range", api.ErrRange},
		{api.Msg{Num: 1, Fields: []api.Field{u(-1), s(strings.Repeat("x", 1<<15)), s("")}}, "disconnect: 0: range", api.ErrRange},
		{api.Msg{Num: 50, Fields: []api.Field{s(""), s(""), s(""), yes, t(""), t("")}}, "userauth-request: 4: form", api.ErrForm},
	} {
		wantEncodeError(tt, c.text, c.m, c.text, c.code)
	}
}

// 7.1: a payload may have MaxPayload bytes, and its length is looked at after each field.
func TestEncodeLimit(tt *testing.T) {
	fill := strings.Repeat("x", api.MaxPayload)
	room := api.MaxPayload - 1 - 4 // of a single string
	for _, c := range []struct {
		name string
		m    api.Msg
		text string
		code api.Errno
	}{
		{"full", api.Msg{Num: 2, Fields: []api.Field{s(fill[:room])}}, "", api.OK},
		{"one byte above", api.Msg{Num: 2, Fields: []api.Field{s(fill[:room+1])}}, "ignore: long", api.ErrLong},
		{"much above", api.Msg{Num: 30, Fields: []api.Field{t(strings.Repeat(fill, 20))}}, "ecdh-init: long", api.ErrLong},
		{"full of two", api.Msg{Num: 53, Fields: []api.Field{s(fill[:room-4]), s("")}}, "", api.OK},
		{"above by an empty string", api.Msg{Num: 53, Fields: []api.Field{s(fill[:room-3]), s("")}}, "userauth-banner: long", api.ErrLong},
		{"full, and a boolean", api.Msg{Num: 4, Fields: []api.Field{no, s(fill[:room-5]), s("")}}, "", api.OK},
		{"full of an integer", api.Msg{Num: 31, Fields: []api.Field{m(fill[:room-4]), m("")}}, "", api.OK},
		{"above by an integer's zero byte", api.Msg{Num: 31, Fields: []api.Field{m(fill[:room-4-1]), m("\x80")}}, "reply-or-group: long", api.ErrLong},
		{"full of extensions", api.Msg{Num: 7, Fields: []api.Field{e("", fill[:room-8])}}, "", api.OK},
		{"above by extensions", api.Msg{Num: 7, Fields: []api.Field{e("", fill[:room-7])}}, "ext-info: long", api.ErrLong},
		{"too long ahead of a wrong field", api.Msg{Num: 60, Fields: []api.Field{s(fill[:room+1]), s("")}}, "userauth-pk-ok: long", api.ErrLong},
		{"wrong, and too long", api.Msg{Num: 60, Fields: []api.Field{t(fill), t("")}}, "userauth-pk-ok: 0: form", api.ErrForm},
		{"full ahead of a wrong field", api.Msg{Num: 60, Fields: []api.Field{s(fill[:room]), s("")}}, "userauth-pk-ok: 1: form", api.ErrForm},
		{"too long behind a good field", api.Msg{Num: 1, Fields: []api.Field{u(1), s(fill), u(0)}}, "disconnect: long", api.ErrLong},
	} {
		if c.code != api.OK {
			wantEncodeError(tt, c.name, c.m, c.text, c.code)
			continue
		}
		payload, err := msg.Encode(c.m)
		if len(payload) != api.MaxPayload || err != nil {
			tt.Errorf("%s: %d bytes, %v", c.name, len(payload), err)
		}
		if back, err := msg.Decode(payload); !sameMsg(back, c.m) || err != nil {
			tt.Errorf("%s: Decode: %v", c.name, err)
		}
	}
}

// 7.2: what is no payload of any message.
func TestDecodeWithoutFormat(tt *testing.T) {
	long := strings.Repeat("x", api.MaxPayload)
	wantDecodeError(tt, "an empty payload", "", "message: short", api.ErrShort)
	wantDecodeError(tt, "a long payload", "\x02\x00\x00\x7f\xfc"+long[4:], "message: long", api.ErrLong)
	wantDecodeError(tt, "a long payload without a format", "\x00"+long, "message: long", api.ErrLong)
	wantDecodeError(tt, "a payload of all bytes without a format", "\x00"+long[1:], "message: none", api.ErrNone)
	for num := range 256 {
		if schema.Known(num) {
			continue
		}
		wantDecodeError(tt, "number "+strconv.Itoa(num), string([]byte{byte(num)}), "message: none", api.ErrNone)
		wantDecodeError(tt, "number "+strconv.Itoa(num), string([]byte{byte(num), 0, 0, 0, 0}), "message: none", api.ErrNone)
	}
}

// 7.2: each row's payload cut at each place. A format that is the beginning of a longer one is
// found where the payload ends behind it.
func TestDecodeOfCutPayloads(tt *testing.T) {
	for _, r := range rows {
		_, payload := whole(r.num, r.parts)
		full, end := 0, 1 // the fields that are there, and where they end
		for n := 1; n < len(payload); n++ {
			for n >= end+len(r.parts[full].form) {
				end += len(r.parts[full].form)
				full++
			}
			shorter, begun := whole(r.num, r.parts[:full])
			if _, is := schema.Fit(r.num, full); is && n == end && letters(shorter) == form(r.num, full) {
				if got, err := msg.Decode(begun); !sameMsg(got, shorter) || err != nil {
					tt.Errorf("%s, %d fields: %v, %v", r.word, full, got, err)
				}
			} else if full < r.first {
				wantDecodeError(tt, r.word+" cut", payload[:n], r.word+": "+strconv.Itoa(full)+": short", api.ErrShort)
			} else {
				wantDecodeError(tt, r.word+" cut", payload[:n], r.word+": end: form", api.ErrForm)
			}
		}
	}
}

func letters(x api.Msg) string {
	var b []byte
	for _, f := range x.Fields {
		b = append(b, f.Kind)
	}
	return string(b)
}

func form(num, many int) string {
	s, _ := schema.Fit(num, many)
	return s
}

// 7.2: bytes that are left over behind each row's payload.
func TestDecodeOfLongerPayloads(tt *testing.T) {
	for _, r := range rows {
		_, payload := whole(r.num, r.parts)
		for _, more := range []string{"\x00", "x", "\x00\x00\x00", "\xff\xff\xff\xff", "\x00\x00\x00\x01"} {
			text, code := r.word+": end: form", api.ErrForm
			if len(r.parts) < r.first {
				text, code = r.word+": "+strconv.Itoa(len(r.parts))+": short", api.ErrShort
			}
			wantDecodeError(tt, r.word+" and more", payload+more, text, code)
		}
	}
}

// 7.2: fields that cannot be read.
func TestDecodeErrors(tt *testing.T) {
	kexinit := "\x14" + cookie
	list := func(s string) string { return "\x00\x00\x00" + string([]byte{byte(len(s))}) + s }
	empty := "\x00\x00\x00\x00"
	for _, c := range []struct {
		payload, text string
		code          api.Errno
	}{
		{"\x04\x02" + empty + empty, "debug: 0: form", api.ErrForm},
		{"\x04\xff", "debug: 0: form", api.ErrForm},
		{"\x04\x02" + "\x00", "debug: 0: form", api.ErrForm},
		{"\x01\x00\x00\x00\x01\x00\x00\x00\x02a", "disconnect: 1: short", api.ErrShort},
		{"\x02\xff\xff\xff\xff", "ignore: 0: short", api.ErrShort},
		{"\x02\x80\x00\x00\x00", "ignore: 0: short", api.ErrShort},
		{"\x07\x00\x00\x00\x09", "ext-info: 0: long", api.ErrLong},
		{"\x07\xff\xff\xff\xff" + empty, "ext-info: 0: long", api.ErrLong},
		{"\x07\x80\x00\x00\x00", "ext-info: 0: long", api.ErrLong},
		{"\x07\x00\x00\x00\x08" + empty, "ext-info: 0: short", api.ErrShort},
		{"\x07\x00\x00\x00\x01" + empty, "ext-info: 0: short", api.ErrShort},
		{"\x07\x00\x00\x00", "ext-info: 0: short", api.ErrShort},
		{"\x07\x00\x00\x00\x00" + empty, "ext-info: end: form", api.ErrForm},
		{kexinit + list(","), "kexinit: 1: form", api.ErrForm},
		{kexinit + list("a,"), "kexinit: 1: form", api.ErrForm},
		{kexinit + list("a") + list("a b"), "kexinit: 2: form", api.ErrForm},
		{kexinit + list("a") + list("a\x00"), "kexinit: 2: form", api.ErrForm},
		{kexinit + list(strings.Repeat(",", 15)), "kexinit: 1: form", api.ErrForm},
		{kexinit + list(strings.Repeat(",", 16)), "kexinit: 1: long", api.ErrLong},
		{kexinit + list(strings.Repeat("a,", 16)+"a"), "kexinit: 1: long", api.ErrLong},
		{kexinit + list(strings.Repeat("a", 65)), "kexinit: 1: form", api.ErrForm},
		{kexinit + strings.Repeat(empty, 10) + "\x02" + empty, "kexinit: 11: form", api.ErrForm},
		{kexinit + strings.Repeat(empty, 10) + "\x00\x00\x00\x00", "kexinit: 12: short", api.ErrShort},
		{"\x33" + list(",") + "\x02", "userauth-failure: 0: form", api.ErrForm},
		{"\x33" + list("a") + "\x02", "userauth-failure: 1: form", api.ErrForm},
		// Of several formats the first one's error is told, whatever the other ones' are.
		{"\x1f" + list("a") + list("\x80"), "reply-or-group: 2: short", api.ErrShort},
		{"\x1f" + list("\x00a") + list("a"), "reply-or-group: 2: short", api.ErrShort},
		{"\x1f" + list("a") + list("\x00"), "reply-or-group: 2: short", api.ErrShort},
		{"\x1f" + list("\x80"), "reply-or-group: 1: short", api.ErrShort},
		{"\x1f" + list("a") + list("a") + list("a") + list("a"), "reply-or-group: end: form", api.ErrForm},
		{"\x32" + list("u") + list("s") + list("m") + "\x02" + list("a") + list("k"), "userauth-request: end: form", api.ErrForm},
		{"\x32" + list("u") + list("s") + list("m") + "\x01", "userauth-request: end: form", api.ErrForm},
		{"\x32" + list("u") + list("s") + "\x00", "userauth-request: 2: short", api.ErrShort},
	} {
		wantDecodeError(tt, strconv.Quote(c.payload), c.payload, c.text, c.code)
	}
}

// 7.2: the first format that consumes all bytes is the message's.
func TestDecodeOfSeveralFormats(tt *testing.T) {
	for payload, want := range map[string]api.Msg{
		"\x1f\x00\x00\x00\x01a\x00\x00\x00\x01b":                   {Num: 31, Fields: []api.Field{m("a"), m("b")}},
		"\x1f\x00\x00\x00\x00\x00\x00\x00\x00":                     {Num: 31, Fields: []api.Field{m(""), m("")}},
		"\x1f\x00\x00\x00\x01a\x00\x00\x00\x01b\x00\x00\x00\x00":   {Num: 31, Fields: []api.Field{t("a"), t("b"), t("")}},
		"\x1f\x00\x00\x00\x01\x80\x00\x00\x00\x00\x00\x00\x00\x00": {Num: 31, Fields: []api.Field{t("\x80"), t(""), t("")}},
		"\x32" + strings.Repeat("\x00", 12):                        {Num: 50, Fields: []api.Field{s(""), s(""), s("")}},
		"\x32" + strings.Repeat("\x00", 21):                        {Num: 50, Fields: []api.Field{s(""), s(""), s(""), no, s(""), t("")}},
		"\x32" + strings.Repeat("\x00", 25):                        {Num: 50, Fields: []api.Field{s(""), s(""), s(""), no, s(""), t(""), t("")}},
	} {
		if got, err := msg.Decode(payload); !sameMsg(got, want) || err != nil {
			tt.Errorf("%q: %v, %v", payload, got, err)
		}
		if got, err := msg.Encode(want); got != payload || err != nil {
			tt.Errorf("%v: %q, %v", want, got, err)
		}
	}
}

// R4: the lists of a decoded message share nothing.
func TestDecodedListsAreNew(tt *testing.T) {
	x, payload := whole(20, kexinitParts)
	got, _ := msg.Decode(payload)
	for i := range got.Fields {
		got.Fields[i].L = append(got.Fields[i].L, "more")
		for j := range got.Fields[i].L {
			got.Fields[i].L[j] = "changed"
		}
		for j := i + 1; j < len(got.Fields); j++ {
			if !sameField(got.Fields[j], x.Fields[j]) {
				tt.Errorf("field %d changes with field %d", j, i)
			}
		}
	}
	if got, _ := msg.Decode(payload); !sameMsg(got, x) {
		tt.Errorf("the next answer: %v", got)
	}
}

// 7.3: each field of each row, and numbers of no field.
func TestGet(tt *testing.T) {
	for _, r := range rows {
		x, _ := whole(r.num, r.parts)
		for i, p := range r.parts {
			if got := msg.Get(x, i); !sameField(got, p.field) {
				tt.Errorf("%s, field %d: %v", r.word, i, got)
			}
		}
		for _, i := range []int{math.MinInt, -1, len(r.parts), len(r.parts) + 1, math.MaxInt} {
			if got := msg.Get(x, i); got.Kind != 0 || got.N != 0 || got.S != "" || got.L != nil {
				tt.Errorf("%s, field %d: %v", r.word, i, got)
			}
		}
	}
	// Neither number nor kinds have to be a message's.
	odd := api.Field{Kind: '?', N: -3, S: "s", L: []string{"l"}}
	if got := msg.Get(api.Msg{Num: -1, Fields: []api.Field{{}, odd}}, 1); !sameField(got, odd) {
		tt.Errorf("a field that is not valid: %v", got)
	}
}

// R4: what is done to a field that was got is not done to the message.
func TestGetIsNew(tt *testing.T) {
	x := api.Msg{Num: 51, Fields: []api.Field{n("a", "b"), yes}}
	got := msg.Get(x, 0)
	got.L[0] = "changed"
	if x.Fields[0].L[0] != "a" {
		tt.Errorf("the message has changed")
	}
}

// 7.3: the number, and the number of fields, of each row, and other ones.
func TestIs(tt *testing.T) {
	for _, r := range rows {
		x, _ := whole(r.num, r.parts)
		for _, num := range []int{math.MinInt, -1, 0, r.num - 1, r.num, r.num + 1, r.num + 256, math.MaxInt} {
			for _, many := range []int{math.MinInt, -1, 0, len(r.parts) - 1, len(r.parts), len(r.parts) + 1, math.MaxInt} {
				if got, want := msg.Is(x, num, many), num == r.num && many == len(r.parts); got != want {
					tt.Errorf("%s, %d with %d: %v", r.word, num, many, got)
				}
			}
		}
	}
	if !msg.Is(api.Msg{Num: -5, Fields: make([]api.Field, 4)}, -5, 4) || !msg.Is(api.Msg{}, 0, 0) {
		tt.Errorf("a message without a format")
	}
}

// FuzzDecode checks that what can be decoded is encoded as it was, and that errors are alone.
func FuzzDecode(f *testing.F) {
	for _, r := range rows {
		_, payload := whole(r.num, r.parts)
		f.Add(payload)
	}
	f.Fuzz(func(tt *testing.T, payload string) {
		x, err := msg.Decode(payload)
		if err != nil {
			if x.Num != 0 || x.Fields != nil || fault.Code(err) == api.OK {
				tt.Errorf("%v beside %v", x, err)
			}
			return
		}
		if back, err := msg.Encode(x); back != payload || err != nil {
			tt.Errorf("%v: %q, %v", x, back, err)
		}
		for _, field := range x.Fields {
			if _, is := msg.Value(field); !is {
				tt.Errorf("%v is not valid", field)
			}
		}
	})
}
