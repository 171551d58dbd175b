package choose_test

import (
	"reflect"
	"slices"
	"strconv"
	"testing"

	"shibboleth/api"
	"shibboleth/choose"
	"shibboleth/fault"
	"shibboleth/prefs"
)

// words are the words of the eight lists.
var words = []string{"kex", "host", "enc-c", "enc-s", "mac-c", "mac-s", "comp-c", "comp-s"}

// list returns a pointer to the list i of p, told by its field's place.
func list(p *api.Prefs, i int) *[]string {
	return reflect.ValueOf(p).Elem().Field(i).Addr().Interface().(*[]string)
}

// name returns the name i of c, told by its field's place.
func name(c api.Choice, i int) string {
	return reflect.ValueOf(c).Field(i).String()
}

// with returns the default preferences with l as the list i.
func with(i int, l ...string) api.Prefs {
	p := prefs.Plain()
	*list(&p, i) = l
	return p
}

// wantNone asks for no choice, within the word of the list i.
func wantNone(t *testing.T, client, server api.Prefs, i int) {
	t.Helper()
	c, err := choose.Choose(client, server)
	if err == nil || err.Error() != "choose: "+words[i]+": alg" || c != (api.Choice{}) {
		t.Errorf("%q, %v, not within %q", c, err, words[i])
	}
	if !fault.Is(err, api.ErrAlg) || fault.Code(err) != api.ErrAlg || !slices.Equal(fault.Path(err), []string{"choose", words[i]}) {
		t.Errorf("%v: %v within %q", err, fault.Code(err), fault.Path(err))
	}
	if choose.Can(client, server) {
		t.Errorf("%v, but there is a choice", err)
	}
}

// wantName asks for a choice whose name i is want, and whose other names are the default ones.
func wantName(t *testing.T, client, server api.Prefs, i int, want string) {
	t.Helper()
	c, err := choose.Choose(client, server)
	if err != nil || !choose.Can(client, server) {
		t.Errorf("%s: %q of %q and %q: %v", words[i], want, *list(&client, i), *list(&server, i), err)
		return
	}
	for j := range words {
		expected := name(plain(), j)
		if j == i {
			expected = want
		}
		if name(c, j) != expected {
			t.Errorf("%s of %q and %q: %s is %q, not %q", words[i], *list(&client, i), *list(&server, i), words[j], name(c, j), expected)
		}
	}
}

// plain is the choice for the default preferences, as the chapter tells it.
func plain() api.Choice {
	return api.Choice{
		Kex: "curve25519-sha256", Host: "ssh-ed25519",
		EncC: "aes256-gcm", EncS: "aes256-gcm",
		MacC: "hmac-sha2-256", MacS: "hmac-sha2-256",
		CompC: "none", CompS: "none",
	}
}

// 17.1, example 1: the default preferences on both sides.
func TestPlain(t *testing.T) {
	c, err := choose.Choose(prefs.Plain(), prefs.Plain())
	if err != nil || c != plain() {
		t.Errorf("%q, %v", c, err)
	}
	if !choose.Can(prefs.Plain(), prefs.Plain()) {
		t.Errorf("no choice")
	}
}

// 17.1: each name is that of its own list on both sides: no list is taken for another one.
func TestEachListIsItsOwn(t *testing.T) {
	var client, server api.Prefs
	for i := range words {
		own := "n" + strconv.Itoa(i)
		next := "n" + strconv.Itoa((i+1)%len(words))
		*list(&client, i) = []string{next + "x", own}
		*list(&server, i) = []string{own, own + "x"}
	}
	c, err := choose.Choose(client, server)
	want := api.Choice{Kex: "n0", Host: "n1", EncC: "n2", EncS: "n3", MacC: "n4", MacS: "n5", CompC: "n6", CompS: "n7"}
	if err != nil || c != want {
		t.Errorf("%q, %v", c, err)
	}
}

// 17.1, DOC.md's example 4: the client's first name that is common, wherever it stands.
func TestNames(t *testing.T) {
	for _, x := range []struct {
		client, server []string
		want           string
	}{
		{[]string{"a", "b"}, []string{"b", "c", "a"}, "a"},
		{[]string{"a"}, []string{"a"}, "a"},
		{[]string{"a", "b"}, []string{"a", "b"}, "a"},           // first on both sides
		{[]string{"a", "b"}, []string{"b", "a"}, "a"},           // the client's first
		{[]string{"x", "y", "b"}, []string{"b", "c"}, "b"},      // the client's last, the server's first
		{[]string{"x", "y", "b"}, []string{"c", "d", "b"}, "b"}, // last on both sides
		{[]string{"x", "b", "c"}, []string{"c", "b"}, "b"},      // not the server's first
		{[]string{"x", "b", "a", "b"}, []string{"a", "b"}, "b"}, // twice, with another between
		{[]string{"x", "x", "a"}, []string{"a", "a"}, "a"},      // twice, not common
		{[]string{"a", "b"}, []string{"c", "b", "c", "b"}, "b"}, // twice in the server's
		{[]string{"A", "a"}, []string{"a"}, "a"},                // another name
		{[]string{"ab", "a", "b"}, []string{"b", "abc"}, "b"},   // a part of a name is another one
	} {
		for i := range words {
			wantName(t, with(i, x.client...), with(i, x.server...), i, x.want)
		}
	}
}

// 17.1: a method is chosen by its name as any other algorithm is, known or not.
func TestStrangeNames(t *testing.T) {
	for i := range words {
		wantName(t, with(i, "strange"), with(i, "other", "strange"), i, "strange")
		wantName(t, with(i, "ext-info-c", "a"), with(i, "ext-info-c", "a"), i, "ext-info-c")
	}
}

// 17.1: no list without a common name: there is no choice.
func TestNoCommonName(t *testing.T) {
	for i := range words {
		for _, x := range [][2][]string{
			{{"a", "b"}, {"c", "d"}},
			{{"a"}, {"A"}},
			{{"ab"}, {"a", "b"}},
			{{"a,b"}, {"a", "b"}},
			{{"a", "a"}, {"b", "b"}},
			{nil, {"a"}},
			{{"a"}, nil},
			{nil, nil},
			{{}, {}},
			{{""}, nil},
			{nil, {""}},
		} {
			wantNone(t, with(i, x[0]...), with(i, x[1]...), i)
		}
		wantNone(t, with(i), prefs.Plain(), i)
		wantNone(t, prefs.Plain(), with(i), i)
	}
	wantNone(t, api.Prefs{}, api.Prefs{}, 0)
	wantNone(t, prefs.Plain(), api.Prefs{}, 0)
	wantNone(t, api.Prefs{}, prefs.Plain(), 0)
}

// 17.1: of several lists without a common name the first one is told.
func TestFirstListWithoutCommonName(t *testing.T) {
	for i := range words {
		for j := i + 1; j < len(words); j++ {
			client, server := with(i, "a"), with(j, "b")
			wantNone(t, client, server, i)
			wantNone(t, with(j, "a"), with(i, "b"), i)
			*list(&client, j) = nil
			wantNone(t, client, prefs.Plain(), i)
		}
		client := prefs.Plain()
		for j := i; j < len(words); j++ {
			*list(&client, j) = []string{"other"}
		}
		wantNone(t, client, prefs.Plain(), i)
	}
}

// shuffled calls use with each order of l.
func shuffled(l []string, use func(l []string)) {
	var place func(done, left []string)
	place = func(done, left []string) {
		if len(left) == 0 {
			use(done)
		}
		for i := range left {
			place(append(slices.Clone(done), left[i]), slices.Delete(slices.Clone(left), i, i+1))
		}
	}
	place(nil, l)
}

// 17.3: in whatever order the server's list is; that of the client's decides.
func TestServersOrder(t *testing.T) {
	client := []string{"x", "c", "a", "b"}
	for i := range words {
		shuffled([]string{"a", "b", "c", "d"}, func(l []string) {
			wantName(t, with(i, client...), with(i, l...), i, "c")
		})
		shuffled([]string{"a", "b", "c"}, func(l []string) {
			wantName(t, with(i, l...), with(i, "d", "c", "b", "a"), i, l[0])
		})
	}
}

// lists returns all lists of at most n of the names.
func lists(n int, names ...string) [][]string {
	all := [][]string{nil}
	last := all
	for range n {
		var longer [][]string
		for _, l := range last {
			for _, s := range names {
				longer = append(longer, append(slices.Clone(l), s))
			}
		}
		all = append(all, longer...)
		last = longer
	}
	return all
}

// 17.3: what is chosen is in both lists, and nothing ahead of it is.
func TestAllShortLists(t *testing.T) {
	all := lists(3, "a", "b", "c", "d")
	for _, l := range all {
		for _, m := range all {
			client, server := with(6, l...), with(6, m...)
			common := slices.IndexFunc(l, func(s string) bool { return slices.Contains(m, s) })
			if common < 0 {
				wantNone(t, client, server, 6)
			} else {
				wantName(t, client, server, 6, l[common])
			}
		}
	}
}

// R1: lists that are longer than there may be, and names that may not be.
func TestInvalidPrefs(t *testing.T) {
	var long, other []string
	for i := range 40000 {
		long = append(long, "n"+strconv.Itoa(i))
		other = append(other, "m"+strconv.Itoa(i))
	}
	wantNone(t, with(2, long...), with(2, other...), 2)
	wantName(t, with(2, append(long, "a")...), with(2, append(other, "a")...), 2, "a")
	wantName(t, with(3, "x", "a, b"), with(3, "a, b"), 3, "a, b")
}

// R4: arguments stay as they are.
func TestArgumentsStay(t *testing.T) {
	client, server := with(2, "x", "b", "a", "b"), with(2, "b", "a", "a")
	choose.Choose(client, server)
	choose.Can(client, server)
	choose.Guess(client, server)
	if !prefs.Same(client, with(2, "x", "b", "a", "b")) || !prefs.Same(server, with(2, "b", "a", "a")) {
		t.Errorf("%q, %q", client, server)
	}
}

// 17.1: the eight names in the order of the lists; whoever changes them changes no other answer.
func TestLists(t *testing.T) {
	c := api.Choice{Kex: "0", Host: "1", EncC: "2", EncS: "3", MacC: "4", MacS: "5", CompC: "6", CompS: "7"}
	want := []string{"0", "1", "2", "3", "4", "5", "6", "7"}
	l := choose.Lists(c)
	if !slices.Equal(l, want) {
		t.Errorf("%q", l)
	}
	l[0] = "other"
	if got := choose.Lists(c); !slices.Equal(got, want) {
		t.Errorf("after a change: %q", got)
	}
	if got := choose.Lists(api.Choice{}); !slices.Equal(got, make([]string, 8)) {
		t.Errorf("of no names: %q", got)
	}
}

// 17.2: the first method and the first host algorithm, and nothing else.
func TestGuess(t *testing.T) {
	two := func(kex, host []string) api.Prefs { return api.Prefs{Kex: kex, Host: host} }
	ab, ba, ac := []string{"a", "b"}, []string{"b", "a"}, []string{"a", "c"}
	for _, x := range []struct {
		client, server api.Prefs
		want           bool
	}{
		{prefs.Plain(), prefs.Plain(), true},
		{two(ab, ba), two(ac, []string{"b"}), true},
		{two(ab, ab), two(ac, ac), true},
		{two(ab, ab), two(ba, ab), false},            // the first method differs, though both have both
		{two(ab, ab), two(ab, ba), false},            // the first host algorithm differs
		{two(ab, ab), two(ba, ba), false},            // both differ
		{two(ab, ba), two(ba, ab), false},            // the lists the other way round
		{two(ab, ab), two([]string{"A"}, ab), false}, // another name
		{two(nil, ab), two(ab, ab), false},
		{two(ab, nil), two(ab, ab), false},
		{two(ab, ab), two(nil, ab), false},
		{two(ab, ab), two(ab, nil), false},
		{two(nil, ab), two(nil, ab), false},
		{two(ab, nil), two(ab, nil), false},
		{two(ab, ab), two([]string{}, []string{}), false},
		{api.Prefs{}, api.Prefs{}, false},
		{two(nil, ab), two([]string{""}, ab), false}, // no first name, and an empty one
		{two([]string{""}, ab), two(nil, ab), false},
	} {
		if got := choose.Guess(x.client, x.server); got != x.want {
			t.Errorf("%q, %q: %v", x.client, x.server, got)
		}
	}
}

// 17.2: whether there is a choice does not count, nor does any other list.
func TestGuessAsksForTwoListsOnly(t *testing.T) {
	for i := range words {
		if i < 2 {
			continue
		}
		for _, l := range [][]string{nil, {"other"}} {
			if !choose.Guess(with(i, l...), prefs.Plain()) || !choose.Guess(prefs.Plain(), with(i, l...)) {
				t.Errorf("%s: %q", words[i], l)
			}
		}
	}
}

// 17.2: where a guess is right and there is a choice, it is the guess.
func TestGuessIsTheChoice(t *testing.T) {
	all := lists(2, "a", "b")
	for _, l := range all {
		for _, m := range all {
			client, server := with(0, l...), with(0, m...)
			want := len(l) > 0 && len(m) > 0 && l[0] == m[0]
			if got := choose.Guess(client, server); got != want {
				t.Errorf("%q, %q: %v", l, m, got)
			}
			if c, err := choose.Choose(client, server); want && (err != nil || c.Kex != l[0]) {
				t.Errorf("%q, %q: %q, %v", l, m, c, err)
			}
		}
	}
}
