package deny_test

import (
	"math"
	"slices"
	"strconv"
	"strings"
	"testing"

	"shibboleth/api"
	"shibboleth/deny"
	"shibboleth/fault"
	"shibboleth/term"
)

var (
	oneAlg = []string{"ssh-a"}
	ann    = api.Grant{User: "ann", Who: 3}
)

// grants returns n valid grants.
func grants(n int) []api.Grant {
	var l []api.Grant
	for i := range n {
		l = append(l, api.Grant{User: "u" + strconv.Itoa(i), Who: i % api.MaxPeople})
	}
	return l
}

// algs returns n valid algorithms.
func algs(n int) []string {
	var l []string
	for i := range n {
		l = append(l, "alg-"+strconv.Itoa(i))
	}
	return l
}

func pub(a *term.Arena, who int) api.ID {
	return a.Pub(a.Key(who))
}

// gate returns a gate that there has to be.
func gate(t *testing.T, l []api.Grant, algs []string, limit int) *deny.Gate {
	t.Helper()
	g, err := deny.New(l, algs, limit)
	if g == nil || err != nil {
		t.Fatalf("New: %v, %v", g, err)
	}
	return g
}

// wantRight checks that a gate may have these parts.
func wantRight(t *testing.T, l []api.Grant, algs []string, limit int) {
	t.Helper()
	if err := deny.Check(l, algs, limit); err != nil {
		t.Errorf("Check of %d grants, %.60q, %d: %v", len(l), algs, limit, err)
	}
	g := gate(t, l, algs, limit)
	if g.Failures() != 0 || g.Full() || !slices.Equal(g.Algs(), algs) {
		t.Errorf("New of %d grants, %.60q, %d: %d failures, %q", len(l), algs, limit, g.Failures(), g.Algs())
	}
}

// wantWrong checks the error of Check and of New.
func wantWrong(t *testing.T, l []api.Grant, algs []string, limit int, part string, e api.Errno) {
	t.Helper()
	g, err := deny.New(l, algs, limit)
	if g != nil {
		t.Errorf("New of %d grants, %.60q, %d: a gate", len(l), algs, limit)
	}
	for _, err := range []error{err, deny.Check(l, algs, limit)} {
		if fault.Code(err) != e || !slices.Equal(fault.Path(err), []string{"deny", part}) {
			t.Errorf("of %d grants, %.60q, %d: %v, not %v in %s", len(l), algs, limit, err, e, part)
		}
	}
}

// userNames returns user names, and whether they are valid.
func userNames() map[string]bool {
	m := map[string]bool{
		"": false, "a": true, "ann": true, "a b": false, " a": false, "a ": false, "a,b": true, ",": true, "a\n": false, "é": false,
		strings.Repeat("u", api.MaxText-1):          true,
		strings.Repeat("u", api.MaxText):            true,
		strings.Repeat("u", api.MaxText+1):          false,
		strings.Repeat("u", api.MaxText-1) + " ":    false,
		strings.Repeat("u", api.MaxText-1) + "\x7f": false,
		strings.Repeat("u", 1<<20):                  false,
	}
	for b := range 256 {
		for _, name := range []string{"%", "a%", "%a", "a%a"} {
			m[strings.ReplaceAll(name, "%", string([]byte{byte(b)}))] = b >= 33 && b <= 126
		}
	}
	return m
}

// 24.1: user names have 1 to MaxText bytes from 33 to 126.
func TestUser(t *testing.T) {
	for name, want := range userNames() {
		if got := deny.User(name); got != want {
			t.Errorf("User(%.20q) = %v", name, got)
		}
		l := []api.Grant{ann, {User: name, Who: 0}}
		if want {
			wantRight(t, l, oneAlg, 1)
		} else {
			wantWrong(t, l, oneAlg, 1, "grants", api.ErrForm)
		}
	}
}

// 24.1: no grants up to MaxGrants of them, the same one twice too.
func TestCheckGrants(t *testing.T) {
	for n := range api.MaxGrants + 1 {
		wantRight(t, grants(n), oneAlg, 1)
	}
	wantRight(t, []api.Grant{}, oneAlg, 1)
	wantRight(t, slices.Repeat([]api.Grant{ann}, api.MaxGrants), oneAlg, 1)
	wantRight(t, []api.Grant{ann, {User: "ann", Who: 4}, {User: "bob", Who: 3}}, oneAlg, 1)
	for _, n := range []int{api.MaxGrants + 1, api.MaxGrants + 2, 1 << 16} {
		wantWrong(t, grants(n), oneAlg, 1, "grants", api.ErrLong)
	}
	for who := range api.MaxPeople {
		wantRight(t, []api.Grant{{User: "ann", Who: who}}, oneAlg, 1)
	}
	for _, who := range []int{-1, -2, api.MaxPeople, api.MaxPeople + 1, 1 << 32, math.MinInt, math.MaxInt} {
		for _, l := range [][]api.Grant{{{User: "ann", Who: who}}, {ann, {User: "ann", Who: who}}, append(grants(api.MaxGrants-1), api.Grant{User: "ann", Who: who})} {
			wantWrong(t, l, oneAlg, 1, "grants", api.ErrRange)
		}
	}
}

// 24.1: from one algorithm to MaxNames - 1 of them, valid and none of them twice.
func TestCheckAlgs(t *testing.T) {
	for n := 1; n < api.MaxNames; n++ {
		wantRight(t, grants(1), algs(n), 1)
	}
	wantWrong(t, grants(1), nil, 1, "algs", api.ErrNone)
	wantWrong(t, grants(1), []string{}, 1, "algs", api.ErrNone)
	for _, n := range []int{api.MaxNames, api.MaxNames + 1, 1 << 16} {
		wantWrong(t, grants(1), algs(n), 1, "algs", api.ErrLong)
	}
	longest := strings.Repeat("x", api.MaxText)
	wantRight(t, nil, []string{longest, longest[1:], "!", "~", "A", "a"}, 1)
	for _, alg := range []string{"", " ", "a b", "a,b", ",", "a\x7f", "a\x00", "é", longest + "x"} {
		for _, l := range [][]string{{alg}, {"a", alg}, {alg, "a"}, append(algs(api.MaxNames-2), alg)} {
			wantWrong(t, grants(1), l, 1, "algs", api.ErrForm)
		}
	}
	for _, l := range [][]string{{"a", "a"}, {"a", "b", "a"}, {"b", "a", "a"}, append(algs(api.MaxNames-2), "alg-0"), {longest, longest}} {
		wantWrong(t, grants(1), l, 1, "algs", api.ErrForm)
	}
}

// 24.1: the limit is from 1 to MaxTries.
func TestCheckLimit(t *testing.T) {
	for limit := 1; limit <= api.MaxTries; limit++ {
		wantRight(t, grants(1), oneAlg, limit)
	}
	for _, limit := range []int{0, -1, -20, api.MaxTries + 1, 1 << 32, 1<<32 + 1, math.MinInt, math.MaxInt} {
		wantWrong(t, grants(1), oneAlg, limit, "limit", api.ErrRange)
	}
}

// 24.1: which error comes first.
func TestCheckOrder(t *testing.T) {
	badName, badWho, bad := api.Grant{User: "", Who: 0}, api.Grant{User: "ann", Who: -1}, api.Grant{User: "a b", Who: 16}
	for _, l := range [][]string{oneAlg, nil, {"a", "a"}, make([]string, api.MaxNames)} {
		for _, limit := range []int{1, 0} {
			wantWrong(t, slices.Repeat([]api.Grant{bad}, api.MaxGrants+1), l, limit, "grants", api.ErrLong)
			wantWrong(t, []api.Grant{bad}, l, limit, "grants", api.ErrForm)
			wantWrong(t, []api.Grant{badName, badWho}, l, limit, "grants", api.ErrForm)
			wantWrong(t, []api.Grant{badWho, badName}, l, limit, "grants", api.ErrRange)
			wantWrong(t, []api.Grant{ann, badWho, bad}, l, limit, "grants", api.ErrRange)
		}
	}
	wantWrong(t, nil, nil, 0, "algs", api.ErrNone)
	wantWrong(t, nil, make([]string, api.MaxNames), 0, "algs", api.ErrLong)
	wantWrong(t, nil, []string{"a", "a"}, 0, "algs", api.ErrForm)
	wantWrong(t, nil, []string{"a b"}, api.MaxTries+1, "algs", api.ErrForm)
}

// 24.2: a grant is for its user with its principal's key, by each accepted algorithm.
func TestHas(t *testing.T) {
	a := term.New()
	l := []api.Grant{ann, {User: "bob", Who: 0}, {User: "ann", Who: 15}, {User: "a,b", Who: 3}, ann}
	g := gate(t, l, []string{"ssh-a", "ssh-b"}, 2)
	users := []string{"ann", "bob", "a,b", "", "an", "annn", "Ann", "eve", "a"}
	for _, user := range users {
		for who := range 20 {
			for _, alg := range []string{"ssh-a", "ssh-b", "ssh-c", "", "ssh-", "ssh-a,ssh-b", "SSH-A"} {
				want := slices.Contains(l, api.Grant{User: user, Who: who}) && (alg == "ssh-a" || alg == "ssh-b")
				if got := g.Has(a, user, alg, pub(a, who)); got != want {
					t.Errorf("Has(%q, %q, %d) = %v", user, alg, who, got)
				}
			}
		}
	}
	if empty := gate(t, nil, oneAlg, 1); empty.Has(a, "ann", "ssh-a", pub(a, 3)) || empty.Has(a, "", "ssh-a", pub(a, 0)) {
		t.Errorf("there is no grant")
	}
}

// 24.2: each of the grants is looked at, and each of the algorithms.
func TestHasAll(t *testing.T) {
	a := term.New()
	g := gate(t, grants(api.MaxGrants), algs(api.MaxNames-1), 1)
	for _, grant := range grants(api.MaxGrants) {
		for _, alg := range algs(api.MaxNames - 1) {
			if !g.Has(a, grant.User, alg, pub(a, grant.Who)) || g.Has(a, grant.User, alg, pub(a, grant.Who+1)) {
				t.Errorf("Has(%q, %q)", grant.User, alg)
			}
		}
	}
}

// 24.2: nobody is let in by what is no public key.
func TestHasNoKey(t *testing.T) {
	a := term.New()
	g := gate(t, []api.Grant{ann, {User: "bob", Who: 0}}, oneAlg, 1)
	key, data := a.Key(3), a.Data("d")
	sig := a.Sign("ssh-a", key, data)
	for _, x := range []api.ID{
		key, a.Key(0), data, a.Nonce(3, 0), a.Nonce(0, 0), a.Base("g"), sig, a.Hash(a.Pub(key)), a.Derive('A', data, data, data), a.Seal(key, 3, data), a.List(), a.List(a.Pub(key)),
		api.None, -2, math.MinInt, api.ID(a.Len()), api.ID(a.Len() + 1), math.MaxInt,
	} {
		for _, user := range []string{"ann", "bob"} {
			if g.Has(a, user, "ssh-a", x) {
				t.Errorf("Has(%q, %d)", user, x)
			}
		}
	}
	if g.Has(nil, "ann", "ssh-a", a.Pub(key)) {
		t.Errorf("Has without an arena")
	}
}

// 24.2: the algorithms, in their order.
func TestAlgs(t *testing.T) {
	for _, l := range [][]string{{"b", "a", "c"}, {"x"}, algs(api.MaxNames - 1)} {
		if got := gate(t, nil, l, 1).Algs(); !slices.Equal(got, l) {
			t.Errorf("Algs: %q, not %q", got, l)
		}
	}
}

// 24.3, 24.4, example 1: failures are counted up to the limit, and not beyond it.
func TestFail(t *testing.T) {
	for limit := 1; limit <= api.MaxTries; limit++ {
		g := gate(t, grants(1), oneAlg, limit)
		for n := 1; n <= limit+3; n++ {
			if full := g.Fail(); full != (n >= limit) || g.Full() != full {
				t.Errorf("limit %d, failure %d: %v, %v", limit, n, full, g.Full())
			}
			if got := g.Failures(); got != min(n, limit) {
				t.Errorf("limit %d, failure %d: %d", limit, n, got)
			}
		}
	}
}

// 24.2, 24.3: a full gate answers as before, and stays full.
func TestFullGate(t *testing.T) {
	a := term.New()
	g := gate(t, []api.Grant{ann}, oneAlg, 1)
	for range 3 {
		if !g.Fail() || !g.Full() || g.Failures() != 1 {
			t.Errorf("%d failures, %v", g.Failures(), g.Full())
		}
		if !g.Has(a, "ann", "ssh-a", pub(a, 3)) || g.Has(a, "ann", "ssh-a", pub(a, 4)) || g.Has(a, "bob", "ssh-a", pub(a, 3)) || !slices.Equal(g.Algs(), oneAlg) {
			t.Errorf("a full gate answers otherwise")
		}
	}
}

// 24.4: queries modify no gate, whatever they answer.
func TestQueriesModifyNothing(t *testing.T) {
	a := term.New()
	g := gate(t, []api.Grant{ann}, oneAlg, 2)
	for n := range 4 {
		for range 5 {
			if !g.Has(a, "ann", "ssh-a", pub(a, 3)) || g.Has(a, "eve", "ssh-a", pub(a, 3)) || g.Has(a, "ann", "no", pub(a, 3)) || g.Has(a, "ann", "ssh-a", api.None) {
				t.Errorf("Has, after %d failures", n)
			}
			if g.Failures() != min(n, 2) || g.Full() != (n >= 2) || !slices.Equal(g.Algs(), oneAlg) {
				t.Errorf("after %d failures: %d, %v", n, g.Failures(), g.Full())
			}
		}
		g.Fail()
	}
}

// A nil gate lets nobody in and is full; so is the zero gate.
func TestNilGate(t *testing.T) {
	a := term.New()
	for _, g := range []*deny.Gate{nil, {}} {
		for range 3 {
			if g.Has(a, "ann", "ssh-a", pub(a, 3)) || g.Has(a, "", "", pub(a, 0)) || g.Has(nil, "", "", api.None) || len(g.Algs()) != 0 {
				t.Errorf("Has")
			}
			if !g.Full() || g.Failures() != 0 || !g.Fail() || g.Failures() != 0 || !g.Full() {
				t.Errorf("%d failures, %v", g.Failures(), g.Full())
			}
		}
	}
}

// R4: a gate shares no memory with what was given to New, nor with what Algs returned.
func TestMemory(t *testing.T) {
	a := term.New()
	l, names := append(make([]api.Grant, 0, 9), ann), append(make([]string, 0, 9), "ssh-a", "ssh-b")
	g := gate(t, l, names, 1)
	if l[0] != ann || !slices.Equal(names, []string{"ssh-a", "ssh-b"}) {
		t.Errorf("New has changed %v, %q", l, names)
	}
	l[0], names[0] = api.Grant{User: "eve", Who: 4}, "ssh-e"
	got := g.Algs()
	got[1] = "ssh-f"
	_ = append(got[:1], "ssh-g")
	if !g.Has(a, "ann", "ssh-a", pub(a, 3)) || !g.Has(a, "ann", "ssh-b", pub(a, 3)) || !slices.Equal(g.Algs(), []string{"ssh-a", "ssh-b"}) {
		t.Errorf("%q", g.Algs())
	}
	for _, alg := range []string{"ssh-a", "ssh-b", "ssh-e", "ssh-f", "ssh-g"} {
		if g.Has(a, "eve", alg, pub(a, 4)) || g.Has(a, "ann", alg, pub(a, 4)) {
			t.Errorf("Has by %q", alg)
		}
	}
	if g.Has(a, "ann", "ssh-e", pub(a, 3)) || g.Has(a, "ann", "ssh-f", pub(a, 3)) {
		t.Errorf("an algorithm that was not accepted is now")
	}
}

// Two gates have nothing in common, though they were made of the same parts.
func TestGatesAreSeparate(t *testing.T) {
	l := []api.Grant{ann}
	g, h := gate(t, l, oneAlg, 2), gate(t, l, oneAlg, 2)
	g.Fail()
	g.Fail()
	if !g.Full() || h.Full() || h.Failures() != 0 {
		t.Errorf("%d and %d failures", g.Failures(), h.Failures())
	}
}
