package keys_test

import (
	"math"
	"slices"
	"strings"
	"testing"

	"shibboleth/api"
	"shibboleth/keys"
	"shibboleth/term"
)

// none are six keys that are missing.
var none = [6]api.ID{api.None, api.None, api.None, api.None, api.None, api.None}

// missing returns numbers that no term of the arena has.
func missing(a *term.Arena) []api.ID {
	return []api.ID{api.None, -2, math.MinInt, api.ID(a.Len()), api.ID(a.Len() + 7), 1 << 32, math.MaxInt}
}

// sized returns a term of that size, at least 5.
func sized(a *term.Arena, size int) api.ID {
	return a.Data(strings.Repeat("x", size-5))
}

// wantBoth checks the keys of both directions, by Way and by Both.
func wantBoth(t *testing.T, a *term.Arena, secret, hash, session, toServer, toClient api.ID) {
	t.Helper()
	six := keys.Six(a, secret, hash, session)
	if up, down := keys.Way(a, six, true), keys.Way(a, six, false); up != toServer || down != toClient {
		t.Errorf("Way: %d, not %d; %d, not %d", up, toServer, down, toClient)
	}
	if up, down := keys.Both(a, secret, hash, session); up != toServer || down != toClient {
		t.Errorf("Both: %d, not %d; %d, not %d", up, toServer, down, toClient)
	}
}

// 21.1, example 1: the keys have the letters A to F, in order, and are derived from the three terms.
func TestSix(t *testing.T) {
	a := term.New()
	secret, hash, session := a.Exp(a.Base("g"), a.Nonce(1, 0)), a.Hash(a.Data("h")), a.Hash(a.Data("s"))
	six := keys.Six(a, secret, hash, session)
	for i, letter := range []byte{'A', 'B', 'C', 'D', 'E', 'F'} {
		v, is := a.View(six[i])
		if !is || v.Kind != api.TmDerive || v.B != int(letter) || !slices.Equal(v.Args, []api.ID{secret, hash, session}) {
			t.Errorf("key %d: %+v, %v", i, v, is)
		}
	}
	if v, _ := a.View(six[3]); v.B != 68 {
		t.Errorf("the fourth key has the letter %d", v.B)
	}
	if again := keys.Six(a, secret, hash, session); again != six {
		t.Errorf("%v and %v", six, again)
	}
}

// 21.1: any terms will do, of whatever kind, the same one thrice too.
func TestSixOfAll(t *testing.T) {
	a := term.New()
	key, data := a.Key(3), a.Data("")
	for _, x := range []api.ID{data, a.Nonce(0, 0), key, a.Pub(key), a.Base("g"), a.Sign("alg", key, data), a.Hash(data), a.Derive('A', data, data, data), a.Seal(data, 1, data), a.List()} {
		six := keys.Six(a, x, x, x)
		for i, k := range six {
			if k != a.Derive("ABCDEF"[i], x, x, x) || k == api.None {
				t.Errorf("key %d of %d: %d", i, x, k)
			}
		}
		wantBoth(t, a, x, x, x, a.List(six[0], six[2], six[4]), a.List(six[1], six[3], six[5]))
	}
}

// 21.1: no key if one of the three terms is missing, whichever one it is.
func TestSixMissing(t *testing.T) {
	a := term.New()
	k, h, s := a.Data("k"), a.Data("h"), a.Data("s")
	for _, x := range missing(a) {
		for _, l := range [][3]api.ID{{x, h, s}, {k, x, s}, {k, h, x}, {x, x, s}, {x, h, x}, {k, x, x}, {x, x, x}} {
			if six := keys.Six(a, l[0], l[1], l[2]); six != none {
				t.Errorf("of %v: %v", l, six)
			}
			wantBoth(t, a, l[0], l[1], l[2], api.None, api.None)
		}
	}
	if a.Len() != 3 {
		t.Errorf("%d terms", a.Len())
	}
	if six := keys.Six(nil, 0, 0, 0); six != none {
		t.Errorf("without an arena: %v", six)
	}
	wantBoth(t, nil, 0, 0, 0, api.None, api.None)
}

// 21.1: a key has a byte, its letter and the three terms, together at most MaxTerm.
func TestSixLong(t *testing.T) {
	const small = 6
	for at := range 3 {
		for _, x := range []struct {
			size int
			is   bool
		}{{api.MaxTerm - 2 - 2*small - 1, true}, {api.MaxTerm - 2 - 2*small, true}, {api.MaxTerm - 2 - 2*small + 1, false}, {api.MaxTerm, false}} {
			a := term.New()
			l := [3]api.ID{sized(a, small), sized(a, small), sized(a, small)}
			l[at] = sized(a, x.size)
			six := keys.Six(a, l[0], l[1], l[2])
			for i, k := range six {
				if (k != api.None) != x.is {
					t.Errorf("key %d, term %d of %d bytes: %d", i, at, x.size, k)
				}
			}
			wantBoth(t, a, l[0], l[1], l[2], api.None, api.None)
		}
	}
}

// 21.1: the key of a direction may be too long though none of its three keys is.
func TestWayLong(t *testing.T) {
	for _, x := range []struct {
		size int // of each key: a direction has 5 bytes more than three keys
		is   bool
	}{{(api.MaxTerm-5)/3 - 1, true}, {(api.MaxTerm - 5) / 3, true}, {(api.MaxTerm-5)/3 + 1, false}, {api.MaxTerm, false}} {
		a := term.New()
		small := sized(a, 5)
		secret := sized(a, x.size-2-5-5)
		six := keys.Six(a, secret, small, small)
		for i, k := range six {
			if a.Size(k) != x.size {
				t.Errorf("key %d: %d bytes, not %d", i, a.Size(k), x.size)
			}
		}
		up, down := keys.Both(a, secret, small, small)
		if (up != api.None) != x.is || (down != api.None) != x.is {
			t.Errorf("keys of %d bytes: %d, %d", x.size, up, down)
		}
		wantBoth(t, a, secret, small, small, up, down)
	}
}

// 21.1: the key of a direction is the list of its three keys: vector, encryption, integrity.
func TestWay(t *testing.T) {
	a := term.New()
	k, h, s := a.Data("k"), a.Data("h"), a.Data("s")
	up, down := keys.Both(a, k, h, s)
	for _, x := range []struct {
		key     api.ID
		letters string
	}{{up, "ACE"}, {down, "BDF"}} {
		v, is := a.View(x.key)
		if !is || v.Kind != api.TmList || len(v.Args) != 3 {
			t.Fatalf("%s: %+v, %v", x.letters, v, is)
		}
		for i, k := range v.Args {
			if part, _ := a.View(k); part.Kind != api.TmDerive || part.B != int(x.letters[i]) {
				t.Errorf("%s, part %d: %+v", x.letters, i, part)
			}
		}
	}
	wantBoth(t, a, k, h, s, up, down)
	if up == down {
		t.Errorf("one key for both directions")
	}
}

// 21.1: Way takes any six terms, each from its own place.
func TestWayOfAny(t *testing.T) {
	a := term.New()
	var six [6]api.ID
	for i := range six {
		six[i] = a.Key(i)
	}
	for _, x := range []struct {
		toServer bool
		places   []int
	}{{true, []int{0, 2, 4}}, {false, []int{1, 3, 5}}} {
		v, is := a.View(keys.Way(a, six, x.toServer))
		want := []api.ID{six[x.places[0]], six[x.places[1]], six[x.places[2]]}
		if !is || v.Kind != api.TmList || !slices.Equal(v.Args, want) {
			t.Errorf("%v: %+v, %v", x.toServer, v, is)
		}
	}
	// The same key in all places.
	for i := range six {
		six[i] = 0
	}
	if up, down := keys.Way(a, six, true), keys.Way(a, six, false); up != down || up != a.List(0, 0, 0) {
		t.Errorf("of one key: %d, %d", up, down)
	}
}

// 21.1: a key that is missing takes its own direction away, and that one only.
func TestWayMissing(t *testing.T) {
	a := term.New()
	six := keys.Six(a, a.Data("k"), a.Data("h"), a.Data("s"))
	up, down := keys.Way(a, six, true), keys.Way(a, six, false)
	for i := range six {
		for _, x := range missing(a) {
			l := six
			l[i] = x
			wantUp, wantDown := up, down
			if i%2 == 0 {
				wantUp = api.None
			} else {
				wantDown = api.None
			}
			if got := keys.Way(a, l, true); got != wantUp {
				t.Errorf("to the server, key %d is %d: %d", i, x, got)
			}
			if got := keys.Way(a, l, false); got != wantDown {
				t.Errorf("to the client, key %d is %d: %d", i, x, got)
			}
		}
	}
	if keys.Way(a, none, true) != api.None || keys.Way(a, none, false) != api.None {
		t.Errorf("of no keys")
	}
	if keys.Way(nil, six, true) != api.None || keys.Way(nil, six, false) != api.None {
		t.Errorf("without an arena")
	}
}

// 21.2: the six keys are different, and so are those for a different secret, hash or session.
func TestKeysDiffer(t *testing.T) {
	a := term.New()
	terms := []api.ID{a.Data("k"), a.Data("h"), a.Hash(a.Data("k")), a.List(a.Data("k"))}
	single, both := map[api.ID]int{}, map[api.ID]int{}
	for _, k := range terms {
		for _, h := range terms {
			for _, s := range terms {
				for _, key := range keys.Six(a, k, h, s) {
					single[key]++
				}
				up, down := keys.Both(a, k, h, s)
				both[up]++
				both[down]++
			}
		}
	}
	if n := len(terms) * len(terms) * len(terms); len(single) != 6*n || len(both) != 2*n {
		t.Errorf("%d keys, %d keys of directions", len(single), len(both))
	}
	if single[api.None] != 0 || both[api.None] != 0 {
		t.Errorf("keys are missing")
	}
}

// R4: the six keys that are handed in stay as they are, and what is handed out is the caller's.
func TestNothingIsShared(t *testing.T) {
	a := term.New()
	k, h, s := a.Data("k"), a.Data("h"), a.Data("s")
	six := keys.Six(a, k, h, s)
	old := six
	up := keys.Way(a, six, true)
	if six != old {
		t.Errorf("%v, not %v", six, old)
	}
	six[0] = k
	if again := keys.Six(a, k, h, s); again != old || keys.Way(a, old, true) != up {
		t.Errorf("%v, not %v", again, old)
	}
}
