package msg_test

import (
	"math"
	"math/big"
	"slices"
	"strings"
	"testing"

	"shibboleth/api"
	"shibboleth/msg"
)

// 7.3: valid values of each letter, at their limits, and their wire forms.
func TestValue(tt *testing.T) {
	name := strings.Repeat("n", api.MaxText)
	long := strings.Repeat("x", api.MaxPayload+1)
	for _, c := range []part{
		{no, "\x00"}, {yes, "\x01"},
		{u(0), "\x00\x00\x00\x00"}, {u(1), "\x00\x00\x00\x01"}, {u(0x01020304), "\x01\x02\x03\x04"}, {u(math.MaxInt32 + 1), "\x80\x00\x00\x00"}, {u(math.MaxUint32), "\xff\xff\xff\xff"},
		{s(""), "\x00\x00\x00\x00"}, {s("\x00a,\xff"), "\x00\x00\x00\x04\x00a,\xff"}, {s(long), "\x00\x00\x80\x01" + long},
		{t(""), "\x00\x00\x00\x00"}, {t("\xf3\x00\x00\x00\x01"), "\x00\x00\x00\x05\xf3\x00\x00\x00\x01"}, {t("\xf3"), "\x00\x00\x00\x01\xf3"}, {t(long), "\x00\x00\x80\x01" + long},
		{m(""), "\x00\x00\x00\x00"}, {m("\x01"), "\x00\x00\x00\x01\x01"}, {m("\x7f\x00"), "\x00\x00\x00\x02\x7f\x00"}, {m("\x80"), "\x00\x00\x00\x02\x00\x80"}, {m("\xff\xff"), "\x00\x00\x00\x03\x00\xff\xff"},
		{n(), "\x00\x00\x00\x00"}, {api.Field{Kind: 'n', L: []string{}}, "\x00\x00\x00\x00"}, {n("a"), "\x00\x00\x00\x01a"}, {n("!", "~", "!"), "\x00\x00\x00\x05!,~,!"},
		{n(name), "\x00\x00\x00\x40" + name}, {n(slices.Repeat([]string{"a"}, api.MaxNames)...), "\x00\x00\x00\x1f" + strings.Repeat("a,", 15) + "a"},
		{round, cookie}, {api.Field{Kind: 'c', S: strings.Repeat("\x00", 16)}, strings.Repeat("\x00", 16)},
		{e(), "\x00\x00\x00\x00"}, {api.Field{Kind: 'e', L: []string{}}, "\x00\x00\x00\x00"}, {e("", ""), "\x00\x00\x00\x01" + strings.Repeat("\x00", 8)}, {e("a,", "\xff"), "\x00\x00\x00\x01\x00\x00\x00\x02a,\x00\x00\x00\x01\xff"},
		{e(slices.Repeat([]string{"a"}, 2*api.MaxExts)...), "\x00\x00\x00\x08" + strings.Repeat("\x00\x00\x00\x01a", 16)},
	} {
		if got, is := msg.Value(c.field); got != c.form || !is {
			tt.Errorf("%c of %d bytes: %d bytes, %v", c.field.Kind, len(c.form), len(got), is)
		}
	}
}

// 7.3: values of each letter that are not valid.
func TestValueThatIsNotValid(tt *testing.T) {
	var l []api.Field
	for _, n := range []int{math.MinInt, -1 << 32, -1, 2, 256, 257, math.MaxInt} {
		l = append(l, api.Field{Kind: 'b', N: n})
	}
	for _, n := range []int{math.MinInt, -1 << 32, -1, 1 << 32, 1<<32 + 1, math.MaxInt} {
		l = append(l, u(n))
	}
	for _, s := range []string{"", "x", cookie[1:], cookie + "x", cookie + cookie} {
		l = append(l, api.Field{Kind: 'c', S: s})
	}
	l = append(l, m("\x00"), m("\x00\x00"), m("\x00\x01"), m("\x00\x80"))
	for _, name := range []string{"", " ", "a b", "a,b", ",", "\x7f", "\x80", "a\n", strings.Repeat("n", api.MaxText+1)} {
		l = append(l, n(name), n("a", name), n(name, "a"))
	}
	l = append(l, n(slices.Repeat([]string{"a"}, api.MaxNames+1)...))
	for _, many := range []int{1, 3, 15, 17, 18, 19, 20, 1000} {
		l = append(l, e(slices.Repeat([]string{"a"}, many)...))
	}
	for _, x := range l {
		if got, is := msg.Value(x); got != "" || is {
			tt.Errorf("%v: %q, %v", x, got, is)
		}
	}
}

// 7.3: a valid value of each letter with something in a component that it does not use.
func TestValueWithUnusedComponents(tt *testing.T) {
	for _, x := range []api.Field{no, yes, u(0), seven} {
		wantInvalid(tt, x, func(x *api.Field) { x.S = "\x00" }, func(x *api.Field) { x.L = []string{"a", "b"} }, func(x *api.Field) { x.L = []string{""} })
	}
	for _, x := range []api.Field{s(""), s("x"), t(""), t("x"), m(""), m("x"), round} {
		wantInvalid(tt, x, func(x *api.Field) { x.N = 1 }, func(x *api.Field) { x.N = -1 }, func(x *api.Field) { x.L = []string{"a", "b"} }, func(x *api.Field) { x.L = []string{""} })
	}
	for _, x := range []api.Field{n(), n("a"), e(), e("a", "b")} {
		wantInvalid(tt, x, func(x *api.Field) { x.N = 1 }, func(x *api.Field) { x.N = -1 }, func(x *api.Field) { x.S = "a" }, func(x *api.Field) { x.S = "\x00" })
	}
}

// wantInvalid checks that x is valid, and is no more after each of the changes.
func wantInvalid(tt *testing.T, x api.Field, changes ...func(x *api.Field)) {
	tt.Helper()
	if _, is := msg.Value(x); !is {
		tt.Errorf("%v is not valid", x)
	}
	for _, change := range changes {
		y := x
		change(&y)
		if got, is := msg.Value(y); got != "" || is {
			tt.Errorf("%v: %q, %v", y, got, is)
		}
	}
}

// 7.3: there are eight letters; no other kind has values.
func TestValueOfEachKind(tt *testing.T) {
	valid := map[byte]api.Field{'b': yes, 'u': seven, 's': s("x"), 'm': m("x"), 'n': n("a"), 'c': round, 't': t("x"), 'e': e("a", "b")}
	for kind := range 256 {
		want, is := valid[byte(kind)]
		if _, got := msg.Value(want); got != is {
			tt.Errorf("%d: %v", kind, got)
		}
		if is {
			continue
		}
		for _, x := range []api.Field{{}, yes, s("x"), round, n("a"), e("a", "b")} {
			x.Kind = byte(kind)
			if got, is := msg.Value(x); got != "" || is {
				tt.Errorf("%v: %q, %v", x, got, is)
			}
		}
	}
}

// 7.4: every small integer is read as it was written.
func TestIntegersBothWays(tt *testing.T) {
	for i := range 1 << 16 {
		x := api.Msg{Num: 31, Fields: []api.Field{m(string(big.NewInt(int64(i)).Bytes())), m("")}}
		payload, err := msg.Encode(x)
		if err != nil {
			tt.Fatalf("%d: %v", i, err)
		}
		if back, err := msg.Decode(payload); !sameMsg(back, x) || err != nil {
			tt.Fatalf("%d: %v, %v", i, back, err)
		}
	}
}

// R4: arguments stay as they are.
func TestArgumentsStay(tt *testing.T) {
	list, ext := []string{"b", "a"}, []string{"v", "w", "", "x"}
	x := api.Msg{Num: 51, Fields: []api.Field{n(list...), yes}}
	y := api.Msg{Num: 7, Fields: []api.Field{e(ext...)}}
	msg.Encode(x)
	msg.Encode(y)
	msg.Value(x.Fields[0])
	msg.Value(y.Fields[0])
	if !sameMsg(x, api.Msg{Num: 51, Fields: []api.Field{n("b", "a"), yes}}) || !sameMsg(y, api.Msg{Num: 7, Fields: []api.Field{e("v", "w", "", "x")}}) {
		tt.Errorf("%v, %v", x, y)
	}
}

// FuzzValue checks that any value that is valid is decoded from its message's payload again.
func FuzzValue(f *testing.F) {
	for _, r := range rows {
		for _, p := range r.parts {
			f.Add(p.field.Kind, p.field.N, p.field.S, strings.Join(p.field.L, "\n"))
		}
	}
	// A number and a place in it for each letter.
	places := map[byte]api.Msg{
		'b': {Num: 4, Fields: []api.Field{{}, s("a"), s("b")}}, 'u': {Num: 3, Fields: []api.Field{{}}}, 's': {Num: 2, Fields: []api.Field{{}}}, 'm': {Num: 31, Fields: []api.Field{{}, m("a")}},
		'n': {Num: 51, Fields: []api.Field{{}, yes}}, 't': {Num: 33, Fields: []api.Field{{}, t(""), t("a")}}, 'e': {Num: 7, Fields: []api.Field{{}}},
	}
	f.Fuzz(func(tt *testing.T, kind byte, number int, text, list string) {
		x := api.Field{Kind: kind, N: number, S: text}
		if list != "" {
			x.L = strings.Split(list, "\n")
		}
		form, is := msg.Value(x)
		place, has := places[kind]
		if !has {
			if is && kind != 'c' {
				tt.Errorf("%v is valid", x)
			}
			return
		}
		place.Fields = append([]api.Field{x}, place.Fields[1:]...)
		payload, err := msg.Encode(place)
		if len(form) > api.MaxPayload/2 {
			return
		}
		if is != (err == nil) || is && payload[1:1+len(form)] != form {
			tt.Fatalf("%v: %q, %v, but %q, %v", x, form, is, payload, err)
		}
		if back, err := msg.Decode(payload); is && (!sameMsg(back, place) || err != nil) {
			tt.Errorf("%v: %v, %v", place, back, err)
		}
	})
}
