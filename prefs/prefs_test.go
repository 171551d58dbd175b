package prefs_test

import (
	"math"
	"reflect"
	"slices"
	"strconv"
	"strings"
	"testing"

	"shibboleth/api"
	"shibboleth/fault"
	"shibboleth/prefs"
)

// The chapter's words and names.
var (
	words   = []string{"kex", "host", "enc-c", "enc-s", "mac-c", "mac-s", "comp-c", "comp-s"}
	methods = []string{"curve25519-sha256", "ecdh-sha2-nistp256", "diffie-hellman-group-exchange-sha256"}
)

// many returns n names.
func many(n int) []string {
	var l []string
	for i := range n {
		l = append(l, "n"+strconv.Itoa(i))
	}
	return l
}

// list returns a pointer to the list i of p, told by its field's place: it asks nothing of prefs.
func list(p *api.Prefs, i int) *[]string {
	return reflect.ValueOf(p).Elem().Field(i).Addr().Interface().(*[]string)
}

// with returns the default preferences with l as the list i.
func with(i int, l []string) api.Prefs {
	p := prefs.Plain()
	*list(&p, i) = l
	return p
}

// distinct returns Prefs of which no two lists are equal.
func distinct() api.Prefs {
	return api.Prefs{
		Kex: []string{"k"}, Host: []string{"h", "i"}, EncC: []string{"ec"}, EncS: []string{"es"},
		MacC: []string{"mc"}, MacS: nil, CompC: []string{"cc", "cc"}, CompS: []string{"", "a,b"},
	}
}

// 15.1: the eight lists, in their order.
func TestLists(t *testing.T) {
	got := prefs.Lists(distinct())
	want := [][]string{{"k"}, {"h", "i"}, {"ec"}, {"es"}, {"mc"}, nil, {"cc", "cc"}, {"", "a,b"}}
	if !slices.EqualFunc(got, want, slices.Equal) {
		t.Errorf("%q, not %q", got, want)
	}
	if got := prefs.Lists(api.Prefs{}); !slices.EqualFunc(got, make([][]string, 8), slices.Equal) {
		t.Errorf("of no names: %q", got)
	}
}

// 15.1: Of puts the lists where Lists takes them from.
func TestOf(t *testing.T) {
	for _, p := range []api.Prefs{{}, distinct(), prefs.Plain()} {
		got, is := prefs.Of(prefs.Lists(p))
		if !is || !reflect.DeepEqual(got, p) {
			t.Errorf("%q, %v, not %q", got, is, p)
		}
	}
	got, is := prefs.Of([][]string{{"0"}, {"1"}, {"2"}, {"3"}, {"4"}, {"5"}, {"6"}, {"7"}})
	for i := range words {
		if l := *list(&got, i); !is || !slices.Equal(l, []string{strconv.Itoa(i)}) {
			t.Errorf("list %d: %q, %v", i, l, is)
		}
	}
	if got, is := prefs.Of(make([][]string, 8)); !is || !prefs.Same(got, api.Prefs{}) {
		t.Errorf("of eight empty lists: %q, %v", got, is)
	}
}

// 15.1: there must be exactly eight lists.
func TestOfOtherThanEight(t *testing.T) {
	for n := range 20 {
		l := slices.Repeat([][]string{{"a"}}, n)
		p, is := prefs.Of(l)
		if is != (n == 8) {
			t.Errorf("%d lists: %v", n, is)
		}
		if !is && !reflect.DeepEqual(p, api.Prefs{}) {
			t.Errorf("%d lists: %q", n, p)
		}
	}
	if p, is := prefs.Of(nil); is || !reflect.DeepEqual(p, api.Prefs{}) {
		t.Errorf("nil: %q, %v", p, is)
	}
}

// R4: neither lists nor Prefs share memory with what they were made of.
func TestListsAndOfAreNew(t *testing.T) {
	p := distinct()
	for _, l := range prefs.Lists(p) {
		overwrite(l)
	}
	if !reflect.DeepEqual(p, distinct()) {
		t.Errorf("Lists: its argument became %q", p)
	}
	lists := prefs.Lists(p)
	q, _ := prefs.Of(lists)
	for _, l := range lists {
		overwrite(l)
	}
	if !reflect.DeepEqual(q, distinct()) {
		t.Errorf("Of: its result became %q", q)
	}
	one := []string{"a"}
	q, _ = prefs.Of(slices.Repeat([][]string{one}, 8))
	wantApart(t, &q)
}

// overwrite changes all of l, and what lies behind it in memory.
func overwrite(l []string) {
	for i := range l[:cap(l)] {
		l[:cap(l)][i] = "changed"
	}
}

// wantApart checks that no list of p changes with another one.
func wantApart(t *testing.T, p *api.Prefs) {
	t.Helper()
	before := prefs.Lists(*p)
	for i := range words {
		l := list(p, i)
		overwrite(*l)
		for j := i + 1; j < len(words); j++ {
			if !slices.Equal(*list(p, j), before[j]) {
				t.Errorf("the lists %d and %d share memory", i, j)
			}
		}
	}
}

// 15.1: Prefs are the same only if all lists are.
func TestSame(t *testing.T) {
	base := []string{"a", "b"}
	for i := range words {
		p := with(i, base)
		for _, c := range []struct {
			l    []string
			want bool
		}{
			{[]string{"a", "b"}, true},
			{nil, false},
			{[]string{}, false},
			{[]string{"a"}, false},
			{[]string{"b"}, false},
			{[]string{"a", "b", "b"}, false},
			{[]string{"a", "b", ""}, false},
			{[]string{"b", "a"}, false},
			{[]string{"a", "c"}, false},
			{[]string{"c", "b"}, false},
			{[]string{"a", "B"}, false},
			{[]string{"a,b"}, false},
		} {
			q := with(i, c.l)
			if got := prefs.Same(p, q); got != c.want {
				t.Errorf("list %d: %q and %q: %v", i, base, c.l, got)
			}
			if got := prefs.Same(q, p); got != c.want {
				t.Errorf("list %d: %q and %q: %v", i, c.l, base, got)
			}
		}
		if !prefs.Same(with(i, nil), with(i, []string{})) {
			t.Errorf("list %d: nil is not the same as empty", i)
		}
	}
	if !prefs.Same(api.Prefs{}, api.Prefs{}) || !prefs.Same(distinct(), distinct()) || prefs.Same(distinct(), prefs.Plain()) {
		t.Errorf("none, all, or different ones")
	}
	swapped := distinct()
	swapped.EncC, swapped.EncS = swapped.EncS, swapped.EncC
	if prefs.Same(distinct(), swapped) {
		t.Errorf("two lists, exchanged")
	}
}

// 15.1: the words of the lists.
func TestList(t *testing.T) {
	for i, want := range words {
		if got := prefs.List(i); got != want {
			t.Errorf("%d: %q, not %q", i, got, want)
		}
	}
	for _, i := range []int{math.MinInt, -1 << 32, -8, -1, 8, 9, 256, 1 << 32, math.MaxInt} {
		if got := prefs.List(i); got != "" {
			t.Errorf("%d: %q", i, got)
		}
	}
}

// 15.1: methods and their names.
func TestMethodAndName(t *testing.T) {
	for i, name := range methods {
		if got := prefs.Method(name); got != i+1 {
			t.Errorf("Method(%q) = %d", name, got)
		}
		if got := prefs.Name(i + 1); got != name {
			t.Errorf("Name(%d) = %q", i+1, got)
		}
	}
	if prefs.Method("curve25519-sha256") != api.MeCurve || prefs.Method("ecdh-sha2-nistp256") != api.MeEcdh || prefs.Method("diffie-hellman-group-exchange-sha256") != api.MeGex {
		t.Errorf("the methods' numbers")
	}
	for _, name := range []string{
		"", " ", "curve25519", "curve25519-sha256 ", " curve25519-sha256", "Curve25519-sha256", "curve25519-sha256@libssh.org", "curve25519-sha256,ecdh-sha2-nistp256",
		"ecdh-sha2-nistp384", "diffie-hellman-group-exchange-sha1", "diffie-hellman-group14-sha256", "ext-info-c", "kex-strict-s-v00", "kex", "ssh-ed25519", "none", "1",
	} {
		if got := prefs.Method(name); got != api.MeNone {
			t.Errorf("Method(%q) = %d", name, got)
		}
	}
	for _, method := range []int{math.MinInt, -1 << 32, -3, -1, api.MeNone, 4, 5, 257, 1 << 32, 1<<32 + 1, math.MaxInt} {
		if got := prefs.Name(method); got != "" {
			t.Errorf("Name(%d) = %q", method, got)
		}
	}
}

// 15.1: the markers of both sides.
func TestMarkers(t *testing.T) {
	if got := prefs.Mark(false); got != "ext-info-c" {
		t.Errorf("Mark of a client: %q", got)
	}
	if got := prefs.Mark(true); got != "ext-info-s" {
		t.Errorf("Mark of a server: %q", got)
	}
	if got := prefs.Strict(false); got != "kex-strict-c-v00" {
		t.Errorf("Strict of a client: %q", got)
	}
	if got := prefs.Strict(true); got != "kex-strict-s-v00" {
		t.Errorf("Strict of a server: %q", got)
	}
}

// 15.2: the default preferences, which are right, and new each time.
func TestPlain(t *testing.T) {
	want := api.Prefs{
		Kex:   []string{"curve25519-sha256", "ecdh-sha2-nistp256", "diffie-hellman-group-exchange-sha256"},
		Host:  []string{"ssh-ed25519", "rsa-sha2-256"},
		EncC:  []string{"aes256-gcm", "aes128-ctr"},
		EncS:  []string{"aes256-gcm", "aes128-ctr"},
		MacC:  []string{"hmac-sha2-256", "hmac-sha2-512"},
		MacS:  []string{"hmac-sha2-256", "hmac-sha2-512"},
		CompC: []string{"none"},
		CompS: []string{"none"},
	}
	p := prefs.Plain()
	if !reflect.DeepEqual(p, want) {
		t.Errorf("%q", p)
	}
	if err := prefs.Check(p); err != nil {
		t.Errorf("Check: %v", err)
	}
	wantApart(t, &p)
	if p := prefs.Plain(); !reflect.DeepEqual(p, want) {
		t.Errorf("after a change: %q", p)
	}
}

// wantCheck checks what Check says of p: the error's number, within "prefs" and a word, or nothing.
func wantCheck(t *testing.T, name string, p api.Prefs, word string, e api.Errno) {
	t.Helper()
	err := prefs.Check(p)
	if e == api.OK {
		if err != nil {
			t.Errorf("%s: %v", name, err)
		}
		return
	}
	if fault.Code(err) != e || !slices.Equal(fault.Path(err), []string{"prefs", word}) {
		t.Errorf("%s: %v, not %v within %q", name, err, e, word)
	}
}

// 15.2: what may be wrong with each of the eight lists.
func TestCheckOfEachList(t *testing.T) {
	long := strings.Repeat("x", api.MaxText)
	for i, word := range words {
		for name, c := range map[string]struct {
			l []string
			e api.Errno
		}{
			"nil":                           {nil, api.ErrNone},
			"empty":                         {[]string{}, api.ErrNone},
			"one more than there may be":    {many(api.MaxNames), api.ErrLong},
			"two more than there may be":    {many(api.MaxNames + 1), api.ErrLong},
			"very many":                     {many(1000), api.ErrLong},
			"too many, and not names":       {slices.Repeat([]string{""}, api.MaxNames), api.ErrLong},
			"an empty name":                 {[]string{""}, api.ErrForm},
			"an empty name behind others":   {append(many(api.MaxNames-2), ""), api.ErrForm},
			"an empty name ahead of others": {[]string{"", "a"}, api.ErrForm},
			"a space":                       {[]string{"a", "b c"}, api.ErrForm},
			"a comma":                       {[]string{"a,b"}, api.ErrForm},
			"a byte above 126":              {[]string{"a\x7f"}, api.ErrForm},
			"a name too long":               {[]string{long + "x"}, api.ErrForm},
			"the same name twice":           {[]string{"a", "a"}, api.ErrForm},
			"the same name twice, apart":    {[]string{"a", "b", "c", "a"}, api.ErrForm},
			"the last name of all twice":    {append(many(api.MaxNames-2), "n0"), api.ErrForm},
		} {
			wantCheck(t, word+", "+name, with(i, c.l), word, c.e)
		}
	}
	for i, word := range words[1:] {
		for _, l := range [][]string{{"a"}, {long}, {"!", "~"}, {"b", "a", "B"}, many(api.MaxNames - 1), {"ext-info-c"}, methods} {
			wantCheck(t, word+" of right names", with(i+1, l), "", api.OK)
		}
	}
}

// 15.2: the names of Kex must be those of methods.
func TestCheckOfKex(t *testing.T) {
	for _, l := range [][]string{
		methods, {methods[0]}, {methods[1]}, {methods[2]}, {methods[2], methods[0]}, {methods[2], methods[1], methods[0]},
	} {
		wantCheck(t, strings.Join(l, " "), with(0, l), "", api.OK)
	}
	for _, name := range []string{"kex", "ext-info-c", "ext-info-s", "kex-strict-c-v00", "kex-strict-s-v00", "Curve25519-sha256", "ssh-ed25519"} {
		wantCheck(t, name, with(0, []string{name}), "kex", api.ErrAlg)
		wantCheck(t, name+" first", with(0, append([]string{name}, methods...)), "kex", api.ErrAlg)
		wantCheck(t, name+" last", with(0, append(slices.Clone(methods), name)), "kex", api.ErrAlg)
	}
	wantCheck(t, "as many as there may be", with(0, many(api.MaxNames-1)), "kex", api.ErrAlg)
	wantCheck(t, "no method, and no name behind it", with(0, []string{"kex", ""}), "kex", api.ErrForm)
	wantCheck(t, "no method, twice", with(0, []string{"kex", "kex"}), "kex", api.ErrForm)
	wantCheck(t, "a method twice", with(0, []string{methods[0], methods[0]}), "kex", api.ErrForm)
}

// 15.2: of several wrong lists the first one counts, whatever is wrong with it.
func TestCheckOfSeveralLists(t *testing.T) {
	wrong := []struct {
		l []string
		e api.Errno
	}{{nil, api.ErrNone}, {many(api.MaxNames), api.ErrLong}, {[]string{" "}, api.ErrForm}}
	for i := range words {
		for j := i + 1; j < len(words); j++ {
			for _, first := range wrong {
				for _, second := range wrong {
					p := with(i, first.l)
					*list(&p, j) = second.l
					wantCheck(t, words[i]+" and "+words[j], p, words[i], first.e)
				}
			}
		}
	}
	p := with(0, []string{"kex"})
	p.Host = nil
	wantCheck(t, "no method, and no host key algorithm", p, "kex", api.ErrAlg)
	wantCheck(t, "nothing at all", api.Prefs{}, "kex", api.ErrNone)
}

// R4: Check and Same leave their arguments as they are.
func TestArgumentsStay(t *testing.T) {
	p := distinct()
	prefs.Check(p)
	prefs.Same(p, prefs.Plain())
	if !reflect.DeepEqual(p, distinct()) {
		t.Errorf("%q", p)
	}
}
