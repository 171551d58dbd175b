package kexinit_test

import (
	"encoding/binary"
	"math"
	"reflect"
	"slices"
	"strconv"
	"strings"
	"testing"

	"shibboleth/api"
	"shibboleth/fault"
	"shibboleth/kexinit"
	"shibboleth/prefs"
)

const cookie = "0123456789abcdef"

// The four markers, in the chapter's order.
const (
	extC    = "ext-info-c"
	extS    = "ext-info-s"
	strictC = "kex-strict-c-v00"
	strictS = "kex-strict-s-v00"
)

var markers = []string{extC, extS, strictC, strictS}

// text returns the wire form of names.
func text(l ...string) string {
	s := strings.Join(l, ",")
	return string(binary.BigEndian.AppendUint32(nil, uint32(len(s)))) + s
}

// wire returns a payload of that cookie and these ten lists of names, and what follows them.
func wire(cookie string, lists [10][]string, rest string) string {
	s := "\x14" + cookie
	for _, l := range lists {
		s += text(l...)
	}
	return s + rest
}

// first returns a payload whose first name list is l, and whose other ones are empty.
func first(l ...string) string {
	return wire(cookie, [10][]string{l}, "\x00\x00\x00\x00\x00")
}

// full returns an Init of which all fields differ, and its payload.
func full() (api.Init, string) {
	x := api.Init{
		Cookie: cookie,
		Prefs: api.Prefs{
			Kex: []string{"k1", "k2"}, Host: []string{"h"}, EncC: []string{"ec", "e"}, EncS: []string{"es"},
			MacC: nil, MacS: []string{"ms", "ms"}, CompC: []string{"cc"}, CompS: []string{"!", "~", "c"},
		},
		Langs: [2][]string{{"en"}, {"de", "fr"}},
		ExtC:  true, ExtS: true, StrictC: true, StrictS: true, Follows: true,
	}
	return x, wire(cookie, [10][]string{
		{"k1", "k2", extC, extS, strictC, strictS}, {"h"}, {"ec", "e"}, {"es"}, nil, {"ms", "ms"}, {"cc"}, {"!", "~", "c"}, {"en"}, {"de", "fr"},
	}, "\x01\x00\x00\x00\x00")
}

// examples are Inits of all kinds, and their payloads.
func examples() map[string]api.Init {
	all, _ := full()
	m := map[string]api.Init{
		"all":          all,
		"nothing":      {Cookie: cookie},
		"zero cookie":  {Cookie: strings.Repeat("\x00", 16)},
		"plain":        {Cookie: kexinit.Cookie(1, 2), Prefs: prefs.Plain()},
		"follows":      {Cookie: cookie, Follows: true},
		"one language": {Cookie: cookie, Langs: [2][]string{{"en"}, nil}},
		"other one":    {Cookie: cookie, Langs: [2][]string{nil, {"en"}}},
		"odd names":    {Cookie: cookie, Prefs: api.Prefs{Kex: []string{"a", "a", "ext-info", "EXT-INFO-C", "kex-strict-c-v001"}}},
		"markers elsewhere": {Cookie: cookie, Langs: [2][]string{markers, markers}, Prefs: api.Prefs{
			Host: markers, EncC: markers, EncS: markers, MacC: markers, MacS: markers, CompC: markers, CompS: markers,
		}},
	}
	for flags := range 16 {
		x := marked(flags)
		x.Prefs = prefs.Plain()
		m["markers "+strconv.Itoa(flags)] = x
		m["markers alone "+strconv.Itoa(flags)] = marked(flags)
	}
	return m
}

// marked returns an Init with the markers whose bits are set.
func marked(flags int) api.Init {
	return api.Init{Cookie: cookie, ExtC: flags&1 != 0, ExtS: flags&2 != 0, StrictC: flags&4 != 0, StrictS: flags&8 != 0}
}

// many returns n names.
func many(n int) []string {
	var l []string
	for i := range n {
		l = append(l, "n"+strconv.Itoa(i))
	}
	return l
}

// wantFault checks that err is e within these locations.
func wantFault(t *testing.T, name string, err error, e api.Errno, path ...string) {
	t.Helper()
	if fault.Code(err) != e || !slices.Equal(fault.Path(err), path) {
		t.Errorf("%s: %v, not %v within %q", name, err, e, path)
	}
}

// 16.1: each field stands where it has to.
func TestBuild(t *testing.T) {
	x, want := full()
	if s, err := kexinit.Build(x); s != want || err != nil {
		t.Errorf("%q, %v, not %q", s, err, want)
	}
	s, err := kexinit.Build(api.Init{Cookie: cookie})
	if want := first(); s != want || err != nil {
		t.Errorf("of nothing: %q, %v, not %q", s, err, want)
	}
	x = api.Init{Cookie: kexinit.Cookie(1, 2), Prefs: prefs.Plain()}
	want = wire(kexinit.Cookie(1, 2), [10][]string{
		{"curve25519-sha256", "ecdh-sha2-nistp256", "diffie-hellman-group-exchange-sha256"},
		{"ssh-ed25519", "rsa-sha2-256"}, {"aes256-gcm", "aes128-ctr"}, {"aes256-gcm", "aes128-ctr"},
		{"hmac-sha2-256", "hmac-sha2-512"}, {"hmac-sha2-256", "hmac-sha2-512"}, {"none"}, {"none"}, nil, nil,
	}, "\x00\x00\x00\x00\x00")
	if s, err := kexinit.Build(x); s != want || err != nil {
		t.Errorf("of the default preferences: %q, %v, not %q", s, err, want)
	}
}

// 16.1: the markers that are set stand behind the names, in their order.
func TestBuildOfMarkers(t *testing.T) {
	for flags := range 16 {
		x := marked(flags)
		x.Prefs.Kex = []string{"z", "a"}
		want := []string{"z", "a"}
		for i, name := range markers {
			if flags>>i&1 != 0 {
				want = append(want, name)
			}
		}
		if s, err := kexinit.Build(x); s != first(want...) || err != nil {
			t.Errorf("%q: %q, %v", want, s, err)
		}
	}
}

// 16.1: a marker in Kex is an error, wherever it stands, whether it is set or not, and before all
// that is wrong with the message.
func TestBuildWithMarkerInKex(t *testing.T) {
	for i, name := range markers {
		for _, kex := range [][]string{{name}, {name, "a"}, {"a", name}, {"a", name, "b"}, {name, name}, append(many(20), name), {"", name}} {
			for _, flags := range []int{0, 1 << i, 15} {
				x := marked(flags)
				x.Prefs.Kex = kex
				s, err := kexinit.Build(x)
				wantFault(t, strings.Join(kex, ","), err, api.ErrForm, "kexinit")
				if s != "" {
					t.Errorf("%q: %q", kex, s)
				}
				x.Cookie = "short"
				_, err = kexinit.Build(x)
				wantFault(t, strings.Join(kex, ",")+" and a cookie", err, api.ErrForm, "kexinit")
			}
		}
	}
}

// lists are the places of the ten name lists, in the message's order.
func lists(x *api.Init) []*[]string {
	p := &x.Prefs
	return []*[]string{&p.Kex, &p.Host, &p.EncC, &p.EncS, &p.MacC, &p.MacS, &p.CompC, &p.CompS, &x.Langs[0], &x.Langs[1]}
}

// 16.1: the errors of layer 7, within "kexinit" and their own locations.
func TestBuildFails(t *testing.T) {
	for _, c := range []string{"", "short", cookie[1:], cookie + "0", cookie + cookie} {
		s, err := kexinit.Build(api.Init{Cookie: c, Prefs: prefs.Plain()})
		wantFault(t, "cookie "+c, err, api.ErrForm, "kexinit", "kexinit", "0")
		if s != "" {
			t.Errorf("cookie %q: %q", c, s)
		}
	}
	for i := range 10 {
		for name, c := range map[string]struct {
			l []string
			e api.Errno
		}{
			"as many as there may be": {many(api.MaxNames), api.OK},
			"one more":                {many(api.MaxNames + 1), api.ErrLong},
			"too many, and no names":  {make([]string, api.MaxNames+1), api.ErrLong},
			"empty":                   {[]string{""}, api.ErrForm},
			"comma":                   {[]string{"a", "b,c"}, api.ErrForm},
			"space":                   {[]string{" "}, api.ErrForm},
			"too long":                {[]string{strings.Repeat("x", api.MaxText+1)}, api.ErrForm},
			"not ASCII":               {[]string{"\x80"}, api.ErrForm},
		} {
			x := api.Init{Cookie: cookie}
			*lists(&x)[i] = c.l
			s, err := kexinit.Build(x)
			if c.e == api.OK {
				if s == "" || err != nil {
					t.Errorf("list %d, %s: %q, %v", i, name, s, err)
				}
				continue
			}
			wantFault(t, "list "+strconv.Itoa(i)+", "+name, err, c.e, "kexinit", "kexinit", strconv.Itoa(i+1))
			if s != "" {
				t.Errorf("list %d, %s: %q", i, name, s)
			}
		}
	}
}

// 16.1: of several errors the first field's is told.
func TestBuildWithSeveralErrors(t *testing.T) {
	for i := range 10 {
		x := api.Init{Cookie: cookie}
		for _, l := range lists(&x)[i:] {
			*l = []string{""}
		}
		_, err := kexinit.Build(x)
		wantFault(t, "from list "+strconv.Itoa(i), err, api.ErrForm, "kexinit", "kexinit", strconv.Itoa(i+1))
		x.Cookie = ""
		_, err = kexinit.Build(x)
		wantFault(t, "a cookie, and from list "+strconv.Itoa(i), err, api.ErrForm, "kexinit", "kexinit", "0")
	}
}

// 16.1: the markers count as names of the first list.
func TestBuildWithManyNamesAndMarkers(t *testing.T) {
	for flags, n := range map[int]int{0: 16, 1: 15, 8: 15, 6: 14, 13: 13, 15: 12} {
		x := marked(flags)
		x.Prefs.Kex = many(n)
		if s, err := kexinit.Build(x); s == "" || err != nil {
			t.Errorf("%d names, markers %d: %q, %v", n, flags, s, err)
		}
		x.Prefs.Kex = many(n + 1)
		s, err := kexinit.Build(x)
		wantFault(t, "a name too many", err, api.ErrLong, "kexinit", "kexinit", "1")
		if s != "" {
			t.Errorf("%d names, markers %d: %q", n+1, flags, s)
		}
	}
}

// 16.1: what a payload contains.
func TestParse(t *testing.T) {
	want, s := full()
	if x, err := kexinit.Parse(s); err != nil || !reflect.DeepEqual(x, want) {
		t.Errorf("%+v, %v, not %+v", x, err, want)
	}
	x, err := kexinit.Parse(first())
	if err != nil || !kexinit.Same(x, api.Init{Cookie: cookie}) {
		t.Errorf("of nothing: %+v, %v", x, err)
	}
}

// 16.1: the names in the lists are not looked at, but for the first list's markers.
func TestParseOfOddNames(t *testing.T) {
	l := many(api.MaxNames)
	s := wire(cookie, [10][]string{{"a", "a", "kex"}, markers, l, {extC, extC}, {strictS, extC, "x"}, nil, {"~"}, l, markers, {"en", "en"}}, "\x00\x00\x00\x00\x00")
	x, err := kexinit.Parse(s)
	want := api.Init{
		Cookie: cookie,
		Prefs:  api.Prefs{Kex: []string{"a", "a", "kex"}, Host: markers, EncC: l, EncS: []string{extC, extC}, MacC: []string{strictS, extC, "x"}, CompC: []string{"~"}, CompS: l},
		Langs:  [2][]string{markers, {"en", "en"}},
	}
	if err != nil || !kexinit.Same(x, want) {
		t.Errorf("%+v, %v, not %+v", x, err, want)
	}
}

// inOrder tells by the chapter's words whether a first name list is right.
func inOrder(l []string) bool {
	for i, name := range l {
		rank := slices.Index(markers, name)
		if rank < 0 {
			continue
		}
		for _, later := range l[i+1:] {
			if slices.Index(markers, later) <= rank { // another name has the rank -1
				return false
			}
		}
	}
	return true
}

// 16.1: all first lists of up to five names, with markers in any order, in between, and twice.
func TestParseOfMarkers(t *testing.T) {
	alphabet := append([]string{"a", "ext-info-d"}, markers...)
	right := 0
	var visit func(l []string)
	visit = func(l []string) {
		if inOrder(l) {
			right++
		}
		checkMarkers(t, l)
		if len(l) < 5 {
			for _, name := range alphabet {
				visit(append(slices.Clone(l), name))
			}
		}
	}
	visit(nil)
	// Two names and four markers: for m markers among n names, 4 over m times 2^(n-m) lists.
	if right != 1+6+18+40+81+162 {
		t.Errorf("%d lists are right", right)
	}
}

// checkMarkers checks what Parse says of a payload whose first name list is l.
func checkMarkers(t *testing.T, l []string) {
	t.Helper()
	x, err := kexinit.Parse(first(l...))
	if !inOrder(l) {
		wantFault(t, strings.Join(l, ","), err, api.ErrForm, "kexinit")
		if !reflect.DeepEqual(x, api.Init{}) {
			t.Errorf("%q: %+v", l, x)
		}
		return
	}
	want := api.Init{
		Cookie: cookie, ExtC: slices.Contains(l, extC), ExtS: slices.Contains(l, extS),
		StrictC: slices.Contains(l, strictC), StrictS: slices.Contains(l, strictS),
	}
	for _, name := range l {
		if !slices.Contains(markers, name) {
			want.Prefs.Kex = append(want.Prefs.Kex, name)
		}
	}
	if err != nil || !kexinit.Same(x, want) {
		t.Errorf("%q: %+v, %v", l, x, err)
	}
}

// 16.1: the same, by hand.
func TestParseOfMarkersByHand(t *testing.T) {
	for _, l := range [][]string{
		{extC}, {extS}, {strictC}, {strictS}, markers, {"a", extC}, {"a", "b", extS, strictS}, {"a", extC, extS, strictC, strictS}, append(many(12), markers...),
	} {
		if _, err := kexinit.Parse(first(l...)); err != nil {
			t.Errorf("%q: %v", l, err)
		}
	}
	for _, l := range [][]string{
		{extC, extC}, {"a", strictS, strictS}, {extC, strictC, extC}, // twice
		{extS, extC}, {strictS, strictC}, {"a", strictC, extS}, {extC, strictS, strictC}, {strictS, strictC, extS, extC}, // in another order
		{extC, "a"}, {"a", strictC, "b"}, {"a", extC, extS, strictC, strictS, "b"}, {extC, "a", extS}, {"a", strictS, "a"}, // ahead of a name
	} {
		x, err := kexinit.Parse(first(l...))
		wantFault(t, strings.Join(l, ","), err, api.ErrForm, "kexinit")
		if !reflect.DeepEqual(x, api.Init{}) {
			t.Errorf("%q: %+v", l, x)
		}
	}
}

// 16.1: the last field must be 0.
func TestParseOfLastField(t *testing.T) {
	_, s := full()
	for _, last := range []string{"\x00\x00\x00\x01", "\x01\x00\x00\x00", "\x00\x01\x00\x00", "\x00\x00\x80\x00", "\xff\xff\xff\xff"} {
		x, err := kexinit.Parse(s[:len(s)-4] + last)
		wantFault(t, last, err, api.ErrForm, "kexinit")
		if !reflect.DeepEqual(x, api.Init{}) {
			t.Errorf("%q: %+v", last, x)
		}
	}
}

// 16.1: payloads of other messages.
func TestParseOfOtherNumber(t *testing.T) {
	for _, s := range []string{"\x15", "\x34", "\x03\x00\x00\x00\x07", "\x02\x00\x00\x00\x00", "\x1e\x00\x00\x00\x01a", "\x07\x00\x00\x00\x00"} {
		x, err := kexinit.Parse(s)
		wantFault(t, s, err, api.ErrNone, "kexinit")
		if !reflect.DeepEqual(x, api.Init{}) {
			t.Errorf("%q: %+v", s, x)
		}
	}
}

// 16.1: what is no payload has the errors of layer 7.
func TestParseOfNoPayload(t *testing.T) {
	_, s := full()
	for name, c := range map[string]struct {
		s    string
		e    api.Errno
		path []string
	}{
		"empty":                 {"", api.ErrShort, []string{"message"}},
		"too long":              {s + strings.Repeat("x", api.MaxPayload), api.ErrLong, []string{"message"}},
		"unknown number":        {"\x16" + s[1:], api.ErrNone, []string{"message"}},
		"number 0":              {"\x00", api.ErrNone, []string{"message"}},
		"another one, cut":      {"\x03\x00", api.ErrShort, []string{"unimplemented", "0"}},
		"only the number":       {"\x14", api.ErrShort, []string{"kexinit", "0"}},
		"a cookie too short":    {"\x14" + cookie[1:], api.ErrShort, []string{"kexinit", "0"}},
		"only the cookie":       {"\x14" + cookie, api.ErrShort, []string{"kexinit", "1"}},
		"cut at the end":        {s[:len(s)-1], api.ErrShort, []string{"kexinit", "12"}},
		"without the last":      {s[:len(s)-4], api.ErrShort, []string{"kexinit", "12"}},
		"without follows":       {s[:len(s)-5], api.ErrShort, []string{"kexinit", "11"}},
		"a byte more":           {s + "\x00", api.ErrForm, []string{"kexinit", "end"}},
		"two as follows":        {s[:len(s)-5] + "\x02\x00\x00\x00\x00", api.ErrForm, []string{"kexinit", "11"}},
		"an empty name":         {first("a", ""), api.ErrForm, []string{"kexinit", "1"}},
		"too many names":        {first(many(17)...), api.ErrLong, []string{"kexinit", "1"}},
		"too many with markers": {first(append(many(13), markers...)...), api.ErrLong, []string{"kexinit", "1"}},
		"a language that is none": {wire(cookie, [10][]string{9: {"a b"}}, "\x00\x00\x00\x00\x00"),
			api.ErrForm, []string{"kexinit", "10"}},
		"markers out of order, and cut": {first(extS, extC)[:60], api.ErrShort, []string{"kexinit", "6"}},
	} {
		x, err := kexinit.Parse(c.s)
		wantFault(t, name, err, c.e, append([]string{"kexinit"}, c.path...)...)
		if !reflect.DeepEqual(x, api.Init{}) {
			t.Errorf("%s: %+v", name, x)
		}
	}
}

// 16.2: the bytes of cookies.
func TestCookie(t *testing.T) {
	const zero, full = "\x00\x00\x00\x00\x00\x00\x00", "\x7f\x7f\x7f\x7f\x7f\x7f\x7f"
	forms := map[int]string{
		0: zero, 1: "\x00\x00\x00\x00\x00\x00\x01", 2: "\x00\x00\x00\x00\x00\x00\x02", 127: "\x00\x00\x00\x00\x00\x00\x7f",
		128: "\x00\x00\x00\x00\x00\x01\x00", 255: "\x00\x00\x00\x00\x00\x01\x7f", 1<<14 - 1: "\x00\x00\x00\x00\x00\x7f\x7f", 1 << 14: "\x00\x00\x00\x00\x01\x00\x00",
		1 << 31: "\x00\x00\x08\x00\x00\x00\x00", 1 << 42: "\x01\x00\x00\x00\x00\x00\x00", 1 << 48: "\x40\x00\x00\x00\x00\x00\x00",
		1<<42 | 2<<35 | 3<<28 | 4<<21 | 5<<14 | 6<<7 | 7: "\x01\x02\x03\x04\x05\x06\x07",
		1<<49 - 1: full, 1 << 49: zero, 1<<49 + 1: "\x00\x00\x00\x00\x00\x00\x01", 1<<50 - 1: full, math.MaxInt: full,
		-1: zero, -2: zero, -128: zero, -1 << 49: zero, -1<<49 + 1: zero, math.MinInt: zero, math.MinInt + 1: zero,
	}
	for a, formA := range forms {
		for b, formB := range forms {
			if got, want := kexinit.Cookie(a, b), "c"+formA+formB+"k"; got != want {
				t.Errorf("Cookie(%d, %d) = %q, not %q", a, b, got, want)
			}
		}
	}
	if got := kexinit.Cookie(1, 2); !strings.HasPrefix(got, "\x63\x00\x00\x00\x00\x00\x00\x01") {
		t.Errorf("the chapter's example: %q", got)
	}
}

// 16.2: each field that differs counts.
func TestSame(t *testing.T) {
	changes := map[string]func(x *api.Init){
		"cookie":        func(x *api.Init) { x.Cookie = "0123456789abcdeF" },
		"no cookie":     func(x *api.Init) { x.Cookie = "" },
		"kex":           func(x *api.Init) { x.Prefs.Kex = []string{"k2", "k1"} },
		"comp-s":        func(x *api.Init) { x.Prefs.CompS = []string{"!", "~"} },
		"mac-c":         func(x *api.Init) { x.Prefs.MacC = []string{"m"} },
		"lang to it":    func(x *api.Init) { x.Langs[0] = nil },
		"another lang":  func(x *api.Init) { x.Langs[0] = []string{"EN"} },
		"lang from it":  func(x *api.Init) { x.Langs[1] = []string{"de"} },
		"langs turned":  func(x *api.Init) { x.Langs[1] = []string{"fr", "de"} },
		"langs swapped": func(x *api.Init) { x.Langs[0], x.Langs[1] = x.Langs[1], x.Langs[0] },
		"ext-c":         func(x *api.Init) { x.ExtC = !x.ExtC },
		"ext-s":         func(x *api.Init) { x.ExtS = !x.ExtS },
		"strict-c":      func(x *api.Init) { x.StrictC = !x.StrictC },
		"strict-s":      func(x *api.Init) { x.StrictS = !x.StrictS },
		"follows":       func(x *api.Init) { x.Follows = !x.Follows },
	}
	for name, change := range changes {
		x, _ := full()
		y, _ := full()
		if !kexinit.Same(x, y) {
			t.Fatalf("not the same as itself")
		}
		change(&y)
		if kexinit.Same(x, y) || kexinit.Same(y, x) || !kexinit.Same(y, y) {
			t.Errorf("%s does not count", name)
		}
	}
	for i := range 10 {
		var x, y api.Init
		*lists(&y)[i] = []string{}
		if !kexinit.Same(x, y) || !kexinit.Same(y, x) {
			t.Errorf("list %d: nil is not the same as empty", i)
		}
		*lists(&y)[i] = []string{""}
		if kexinit.Same(x, y) || kexinit.Same(y, x) {
			t.Errorf("list %d: one name is the same as none", i)
		}
	}
	for a := range 16 {
		for b := range 16 {
			if got := kexinit.Same(marked(a), marked(b)); got != (a == b) {
				t.Errorf("markers %d and %d: %v", a, b, got)
			}
		}
	}
}

// 16.3: Parse behind Build gives what was built.
func TestParseInvertsBuild(t *testing.T) {
	for name, x := range examples() {
		s, err := kexinit.Build(x)
		if err != nil {
			t.Errorf("%s: %v", name, err)
			continue
		}
		if y, err := kexinit.Parse(s); err != nil || !kexinit.Same(x, y) {
			t.Errorf("%s: %+v, %v, not %+v", name, y, err, x)
		}
	}
}

// 16.3: Build behind Parse gives what was parsed, for every payload with a byte of any value at any
// place that can be parsed.
func TestBuildInvertsParse(t *testing.T) {
	_, all := full()
	parsed := 0
	for _, s := range []string{all, first(), first(markers...), first("a", extC, extS), first("ext-info-d", strictC)} {
		for i := range s {
			for b := range 256 {
				changed := s[:i] + string([]byte{byte(b)}) + s[i+1:]
				x, err := kexinit.Parse(changed)
				if err != nil {
					continue
				}
				parsed++
				if back, err := kexinit.Build(x); back != changed || err != nil {
					t.Errorf("%q: %q, %v", changed, back, err)
				}
			}
		}
	}
	if parsed < 10000 {
		t.Errorf("only %d payloads could be parsed", parsed)
	}
}

// R4: Build leaves its argument as it is, even where there is room behind Kex.
func TestArgumentStays(t *testing.T) {
	x, _ := full()
	room := []string{"k1", "k2", "behind", "behind", "behind", "behind"}
	x.Prefs.Kex = room[:2]
	if _, err := kexinit.Build(x); err != nil {
		t.Errorf("%v", err)
	}
	want, _ := full()
	if !reflect.DeepEqual(x, want) || !slices.Equal(room[2:], slices.Repeat([]string{"behind"}, 4)) {
		t.Errorf("%+v, %q", x, room)
	}
}

// R4: no two lists of a result share memory.
func TestParseIsNew(t *testing.T) {
	s := wire(cookie, [10][]string{{"a"}, {"a"}, {"a"}, {"a"}, {"a"}, {"a"}, {"a"}, {"a"}, {"a"}, {"a"}}, "\x00\x00\x00\x00\x00")
	x, err := kexinit.Parse(s)
	if err != nil {
		t.Fatal(err)
	}
	all := lists(&x)
	for i, l := range all {
		(*l)[0] = "changed"
		for j, other := range all[i+1:] {
			if (*other)[0] != "a" {
				t.Errorf("the lists %d and %d share memory", i, i+1+j)
			}
		}
	}
	if y, err := kexinit.Parse(s); err != nil || kexinit.Same(x, y) {
		t.Errorf("after a change: %+v, %v", y, err)
	}
}
