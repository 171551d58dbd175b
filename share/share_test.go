package share_test

import (
	"math"
	"slices"
	"strings"
	"testing"

	"shibboleth/api"
	"shibboleth/share"
	"shibboleth/term"
)

// others returns a term of each kind but nonces and shares.
func others(a *term.Arena) []api.ID {
	key, data := a.Key(3), a.Data("d")
	return []api.ID{
		data, key, a.Pub(key), a.Sign("alg", key, data), a.Hash(data), a.Derive('A', data, data, data), a.Seal(data, 1, data),
		// Lists of what would be right by itself.
		a.List(a.Nonce(1, 0)), a.List(a.Exp(a.Base("g"), a.Nonce(1, 0))), a.List(),
	}
}

// missing returns numbers that no term of the arena has.
func missing(a *term.Arena) []api.ID {
	return []api.ID{api.None, -2, math.MinInt, api.ID(a.Len()), api.ID(a.Len() + 1), 1 << 32, math.MaxInt}
}

// raised returns the base of a group, raised to each of the exponents.
func raised(a *term.Arena, group string, exps ...api.ID) api.ID {
	t := a.Base(group)
	for _, x := range exps {
		t = a.Exp(t, x)
	}
	return t
}

// times returns n times x.
func times(x api.ID, n int) []api.ID {
	return slices.Repeat([]api.ID{x}, n)
}

// wantNoSecret asks for ErrRange, and for no secret.
func wantNoSecret(t *testing.T, a *term.Arena, group string, theirs, x api.ID) {
	t.Helper()
	if k, e := share.Secret(a, group, theirs, x); k != api.None || e != api.ErrRange {
		t.Errorf("Secret(%.10q, %d, %d): %d, %v", group, theirs, x, k, e)
	}
}

// wantNotAcceptable asks for ErrRange of a share, by Check and by Secret.
func wantNotAcceptable(t *testing.T, a *term.Arena, group string, s api.ID) {
	t.Helper()
	if e := share.Check(a, group, s); e != api.ErrRange {
		v, _ := a.View(s)
		t.Errorf("Check(%.10q, %+v): %v", group, v, e)
	}
	wantNoSecret(t, a, group, s, a.Nonce(7, 7))
}

// 19.1: the nonces of a session are those of the participant behind it.
func TestFresh(t *testing.T) {
	for _, x := range []struct{ session, n, who int }{
		{0, 0, 1}, {0, 1, 1}, {0, api.MaxNumber, 1},
		{1, 0, 2}, {2, 5, 3}, {15, 31, 16}, {255, 256, 256}, {65535, 65536, 65536},
		{api.MaxNumber - 1, 0, api.MaxNumber}, {api.MaxNumber - 1, api.MaxNumber, api.MaxNumber},
	} {
		a := term.New()
		got := share.Fresh(a, x.session, x.n)
		v, is := a.View(got)
		if !is || v.Kind != api.TmNonce || v.A != x.who || v.B != x.n {
			t.Errorf("Fresh(%d, %d): %+v, %v", x.session, x.n, v, is)
		}
		if got != a.Nonce(x.who, x.n) || got != share.Fresh(a, x.session, x.n) {
			t.Errorf("Fresh(%d, %d) is not always one nonce", x.session, x.n)
		}
	}
}

// 19.1: no nonce if a number is negative or too large; never one of the adversary's.
func TestFreshNone(t *testing.T) {
	wrong := []int{-1, -2, -api.MaxNumber, math.MinInt32, math.MinInt, api.MaxNumber + 1, 1 << 32, 1<<32 + 1, math.MaxInt}
	a := term.New()
	for _, n := range wrong {
		for _, x := range [][2]int{{n, 0}, {n, n}, {0, n}, {api.MaxNumber - 1, n}, {n, api.MaxNumber}} {
			if got := share.Fresh(a, x[0], x[1]); got != api.None {
				t.Errorf("Fresh(%d, %d): %d", x[0], x[1], got)
			}
		}
	}
	// This number may be a nonce's, but no session's.
	if got := share.Fresh(a, api.MaxNumber, 0); got != api.None {
		t.Errorf("of session MaxNumber: %d", got)
	}
	if a.Len() != 0 {
		t.Errorf("%d terms", a.Len())
	}
	if got := share.Fresh(nil, 0, 0); got != api.None {
		t.Errorf("without an arena: %d", got)
	}
}

// 19.1: different sessions and different numbers have different nonces.
func TestFreshDiffer(t *testing.T) {
	a := term.New()
	for session := range 20 {
		for n := range 20 {
			if got := share.Fresh(a, session, n); got != api.ID(20*session+n) {
				t.Errorf("Fresh(%d, %d): %d", session, n, got)
			}
		}
	}
}

// 19.1: a share is the base raised to the nonce.
func TestOffer(t *testing.T) {
	for _, group := range []string{"g", "curve25519", "nistp256", "\x00", "gex:\x00\x00\x00\x01\xff\x02", strings.Repeat("n", api.MaxGroup)} {
		a := term.New()
		for _, x := range []api.ID{a.Nonce(1, 0), a.Nonce(0, 0), a.Nonce(api.MaxNumber, api.MaxNumber)} {
			got := share.Offer(a, group, x)
			v, is := a.View(got)
			if !is || v.Kind != api.TmShare || v.S != group || !slices.Equal(v.Args, []api.ID{x}) {
				t.Errorf("Offer(%.10q, %d): %+v, %v", group, x, v, is)
			}
			if got != raised(a, group, x) || share.Check(a, group, got) != api.OK {
				t.Errorf("Offer(%.10q, %d) is not the base raised to it", group, x)
			}
		}
	}
}

// 19.1: no share in a group whose name is empty or too long, or of what is not a nonce.
func TestOfferNone(t *testing.T) {
	a := term.New()
	x := a.Nonce(1, 0)
	for _, group := range []string{"", strings.Repeat("n", api.MaxGroup+1), strings.Repeat("n", 1<<20)} {
		if got := share.Offer(a, group, x); got != api.None {
			t.Errorf("Offer in a group of %d bytes: %d", len(group), got)
		}
	}
	wrong := append(others(a), a.Base("g"), raised(a, "g", x))
	for _, x := range append(wrong, missing(a)...) {
		if got := share.Offer(a, "g", x); got != api.None {
			t.Errorf("Offer of %d: %d", x, got)
		}
	}
	if got := share.Offer(nil, "g", 0); got != api.None {
		t.Errorf("without an arena: %d", got)
	}
}

// 19.1: a share with one to MaxExps - 1 exponents is acceptable; which ones they are is no matter.
func TestCheck(t *testing.T) {
	for _, group := range []string{"g", "curve25519", strings.Repeat("n", api.MaxGroup)} {
		a := term.New()
		var exps []api.ID
		for n := 1; n < api.MaxExps; n++ {
			exps = append(exps, a.Nonce(n, 9-n))
			for _, l := range [][]api.ID{exps, times(a.Nonce(0, 0), n)} {
				if e := share.Check(a, group, raised(a, group, l...)); e != api.OK {
					t.Errorf("%d exponents: %v", n, e)
				}
			}
		}
	}
}

// 19.1: neither the bare base nor a share with MaxExps exponents is acceptable.
func TestCheckExponents(t *testing.T) {
	a := term.New()
	var exps []api.ID
	for n := range api.MaxExps {
		exps = append(exps, a.Nonce(n, 0))
	}
	for _, l := range [][]api.ID{nil, exps, times(exps[1], api.MaxExps)} {
		s := raised(a, "g", l...)
		if v, is := a.View(s); !is || len(v.Args) != len(l) {
			t.Fatalf("%+v", v)
		}
		wantNotAcceptable(t, a, "g", s)
	}
}

// 19.1: a share of another group is not acceptable, however alike the names are.
func TestCheckGroup(t *testing.T) {
	a := term.New()
	long := strings.Repeat("n", api.MaxGroup)
	groups := []string{"g", "h", "G", "gg", "g ", "g\x00", "\x00g", long, long[1:], long[1:] + "m", "m" + long[1:]}
	for _, mine := range groups {
		for _, theirs := range groups {
			s := raised(a, theirs, a.Nonce(1, 0))
			if mine != theirs {
				wantNotAcceptable(t, a, mine, s)
			} else if e := share.Check(a, mine, s); e != api.OK {
				t.Errorf("%.10q: %v", mine, e)
			}
		}
	}
	// There are no such groups, and no shares of them.
	for _, mine := range []string{"", strings.Repeat("n", api.MaxGroup+1)} {
		wantNotAcceptable(t, a, mine, raised(a, "g", a.Nonce(1, 0)))
		wantNotAcceptable(t, a, mine, api.None)
		wantNotAcceptable(t, a, mine, a.Data(""))
	}
}

// 19.1: a term of another kind, or none at all, is not acceptable.
func TestCheckKind(t *testing.T) {
	a := term.New()
	for _, s := range append(append(others(a), a.Nonce(1, 0), a.Sign("g", a.Key(1), a.Data("g")), a.Data("g")), missing(a)...) {
		wantNotAcceptable(t, a, "g", s)
	}
	for _, s := range []api.ID{0, api.None, 1} {
		wantNotAcceptable(t, nil, "g", s)
		wantNotAcceptable(t, nil, "", s)
		wantNotAcceptable(t, &term.Arena{}, "g", s)
	}
}

// 19.1: the secret is the other one's share, raised to the nonce.
func TestSecret(t *testing.T) {
	a := term.New()
	x, y := a.Nonce(2, 0), a.Nonce(1, 5)
	k, e := share.Secret(a, "nistp256", share.Offer(a, "nistp256", x), y)
	v, is := a.View(k)
	if e != api.OK || !is || v.Kind != api.TmShare || v.S != "nistp256" || !slices.Equal(v.Args, []api.ID{y, x}) {
		t.Errorf("%+v, %v", v, e)
	}
	// A peer may get its own share back.
	k, e = share.Secret(a, "g", share.Offer(a, "g", x), x)
	if v, _ := a.View(k); e != api.OK || !slices.Equal(v.Args, []api.ID{x, x}) {
		t.Errorf("of its own share: %+v, %v", v, e)
	}
	// The longest share that is acceptable leaves room for exactly one nonce.
	k, e = share.Secret(a, "g", raised(a, "g", times(y, api.MaxExps-1)...), x)
	if v, _ := a.View(k); e != api.OK || !slices.Equal(v.Args, append(times(y, api.MaxExps-1), x)) {
		t.Errorf("of the longest share: %+v, %v", v, e)
	}
	// The secret of the longest share is not acceptable any more.
	if e := share.Check(a, "g", k); e != api.ErrRange {
		t.Errorf("a secret of %d exponents: %v", api.MaxExps, e)
	}
}

// 19.1: a secret needs a nonce.
func TestSecretNonce(t *testing.T) {
	a := term.New()
	s := raised(a, "g", a.Nonce(1, 0))
	for _, x := range append(append(others(a), s, a.Base("g")), missing(a)...) {
		wantNoSecret(t, a, "g", s, x)
		wantNoSecret(t, a, "g", raised(a, "g", times(a.Nonce(1, 0), api.MaxExps-1)...), x)
		// Both are wrong.
		wantNoSecret(t, a, "g", a.Base("g"), x)
		wantNoSecret(t, a, "", x, x)
	}
}

// 19.2, example 1: both peers compute the same secret.
func TestBothSides(t *testing.T) {
	for _, group := range []string{"g", "curve25519", "gex:\x00\x00\x00\x01\xff\x02", strings.Repeat("n", api.MaxGroup)} {
		a := term.New()
		nonces := []api.ID{share.Fresh(a, 0, 0), share.Fresh(a, 1, 0), share.Fresh(a, 1, 1), share.Fresh(a, api.MaxNumber-1, 0), a.Nonce(0, 0)}
		for _, x := range nonces {
			for _, y := range nonces {
				mine, e := share.Secret(a, group, share.Offer(a, group, y), x)
				theirs, f := share.Secret(a, group, share.Offer(a, group, x), y)
				if mine != theirs || mine == api.None || e != api.OK || f != api.OK {
					t.Errorf("%.10q, %d and %d: %d, %v; %d, %v", group, x, y, mine, e, theirs, f)
				}
			}
		}
	}
}

// 19.2: a different share yields a different secret, and so does a different nonce.
func TestSecretsDiffer(t *testing.T) {
	a := term.New()
	x, y, z := a.Nonce(1, 0), a.Nonce(1, 1), a.Nonce(2, 0)
	type offer struct {
		group string
		s     api.ID
	}
	var offers []offer
	for _, group := range []string{"g", "h", "gh"} {
		for _, exps := range [][]api.ID{{x}, {y}, {z}, {x, x}, {x, y}, {y, z}, {x, x, y}, {x, y, y}, times(x, api.MaxExps-1), times(y, api.MaxExps-1)} {
			offers = append(offers, offer{group, raised(a, group, exps...)})
		}
	}
	secret := func(o offer, nonce api.ID) api.ID {
		k, e := share.Secret(a, o.group, o.s, nonce)
		if e != api.OK || k == api.None {
			t.Errorf("%+v, %d: %d, %v", o, nonce, k, e)
		}
		return k
	}
	for i, o := range offers {
		for j, p := range offers {
			for _, nonce := range []api.ID{x, y, z} {
				if same := secret(o, nonce) == secret(p, nonce); same != (i == j) {
					t.Errorf("%+v and %+v, with %d: %v", o, p, nonce, same)
				}
			}
		}
		if k := []api.ID{secret(o, x), secret(o, y), secret(o, z)}; k[0] == k[1] || k[1] == k[2] || k[0] == k[2] {
			t.Errorf("%+v: %v", o, k)
		}
	}
}

// R2, R4: what fails leaves the terms that there are as they are; the arena is the only one asked.
func TestNothingChanges(t *testing.T) {
	a, b := term.New(), term.New()
	for range 5 {
		b.Hash(b.Data("b"))
		x, y := share.Fresh(a, 0, 0), share.Fresh(a, 1, 0)
		wantNoSecret(t, a, "h", share.Offer(a, "g", x), y)
		wantNotAcceptable(t, a, "", x)
		k, e := share.Secret(a, "g", share.Offer(a, "g", x), y)
		if v, _ := a.View(k); e != api.OK || v.S != "g" || !slices.Equal(v.Args, []api.ID{x, y}) {
			t.Errorf("%+v, %v", v, e)
		}
	}
	if b.Len() != 2 {
		t.Errorf("%d terms of another arena", b.Len())
	}
}
