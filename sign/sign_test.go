package sign_test

import (
	"math"
	"slices"
	"strings"
	"testing"

	"shibboleth/api"
	"shibboleth/fault"
	"shibboleth/sign"
	"shibboleth/term"
)

const (
	hostKey       = "host: key: host"
	hostSignature = "host: signature: host"
	userKey       = "user: key: auth"
	userSignature = "user: signature: auth"
)

// wrongPeople are no participants.
var wrongPeople = []int{-1, -2, math.MinInt32, math.MinInt, api.MaxNumber + 1, 1 << 32, 1<<32 + 1, math.MaxInt}

// missing returns numbers that no term of the arena has. The first ones are those of the terms that
// come next: to check them must not make them exist.
func missing(a *term.Arena) []api.ID {
	l := []api.ID{api.None, -2, math.MinInt, 1 << 32, math.MaxInt}
	for i := range 16 {
		l = append(l, api.ID(a.Len()+i))
	}
	return l
}

// each returns a term of each kind.
func each(a *term.Arena) []api.ID {
	key, data := a.Key(3), a.Data("d")
	return []api.ID{
		data, a.Data(""), a.Nonce(1, 0), key, a.Pub(key), a.Base("g"), a.Exp(a.Base("g"), a.Nonce(1, 0)), a.Sign("alg", key, data),
		a.Hash(data), a.Derive('A', data, data, data), a.Seal(data, 1, data), a.List(), a.List(data, key),
	}
}

func pub(a *term.Arena, who int) api.ID {
	return a.Pub(a.Key(who))
}

// wantText checks an error by its text; the empty one is that of no error.
func wantText(t *testing.T, err error, text, what string) {
	t.Helper()
	if err == nil && text == "" {
		return
	}
	if err == nil || err.Error() != text {
		t.Errorf("%s: %v, not %q", what, err, text)
	}
}

// 22.1: a host's signature is that of the hash, by the algorithm and with the host's key.
func TestHost(t *testing.T) {
	a := term.New()
	hash := a.Hash(a.Data("h"))
	for _, alg := range []string{"a", "ssh-ed25519", "\x00", "a,b", strings.Repeat("x", api.MaxText)} {
		for _, who := range []int{0, 1, api.MaxPeople - 1, api.MaxPeople, api.MaxNumber} {
			sig := sign.Host(a, alg, who, hash)
			v, is := a.View(sig)
			if !is || v.Kind != api.TmSig || v.S != alg || !slices.Equal(v.Args, []api.ID{a.Key(who), hash}) {
				t.Errorf("Host(%q, %d): %+v, %v", alg, who, v, is)
			}
			if sig != sign.Host(a, alg, who, hash) {
				t.Errorf("Host(%q, %d) is not always one signature", alg, who)
			}
			wantText(t, sign.CheckHost(a, alg, who, pub(a, who), sig, hash), "", alg)
		}
	}
}

// 22.1: any term may be the hash.
func TestHostOfAll(t *testing.T) {
	a := term.New()
	for _, hash := range each(a) {
		sig := sign.Host(a, "alg", 2, hash)
		if sig == api.None || sig != a.Sign("alg", a.Key(2), hash) {
			t.Errorf("of %d: %d", hash, sig)
		}
		wantText(t, sign.CheckHost(a, "alg", 2, pub(a, 2), sig, hash), "", "CheckHost")
	}
}

// 22.1: no signature by an algorithm without a name or with too long a one, by nobody, of nothing.
func TestHostNone(t *testing.T) {
	a := term.New()
	hash := a.Hash(a.Data("h"))
	sig := sign.Host(a, "alg", 1, hash)
	for _, alg := range []string{"", strings.Repeat("x", api.MaxText+1), strings.Repeat("x", 1<<20)} {
		if got := sign.Host(a, alg, 1, hash); got != api.None {
			t.Errorf("by an algorithm of %d bytes: %d", len(alg), got)
		}
		for _, x := range append(missing(a), sig) {
			wantText(t, sign.CheckHost(a, alg, 1, pub(a, 1), x, hash), hostSignature, "no algorithm")
		}
	}
	for _, who := range wrongPeople {
		if got := sign.Host(a, "alg", who, hash); got != api.None {
			t.Errorf("by %d: %d", who, got)
		}
		wantText(t, sign.CheckHost(a, "alg", who, pub(a, 1), sig, hash), hostKey, "nobody")
		wantText(t, sign.CheckHost(a, "alg", who, api.None, api.None, hash), hostKey, "nobody's key")
	}
	if got := sign.Host(nil, "alg", 1, hash); got != api.None {
		t.Errorf("without an arena: %d", got)
	}
	wantText(t, sign.CheckHost(nil, "alg", 1, pub(a, 1), sig, hash), hostKey, "without an arena")
}

// 22.1, R5: what is no term is not signed, even if a term that is made for it takes its number.
func TestHostMissing(t *testing.T) {
	for i := range missing(term.New()) {
		a := term.New()
		a.Data("h")
		hash := missing(a)[i]
		if got := sign.Host(a, "alg", 1, hash); got != api.None {
			t.Errorf("of the missing %d: %d", hash, got)
		}

		a = term.New()
		sig, key := sign.Host(a, "alg", 1, a.Data("h")), pub(a, 1)
		wantText(t, sign.CheckHost(a, "alg", 1, key, sig, missing(a)[i]), hostSignature, "a missing hash")
		wantText(t, sign.CheckHost(a, "alg", 1, key, missing(a)[i], missing(a)[i]), hostSignature, "a missing hash and signature")

		a = term.New()
		h, k := a.Data("h"), pub(a, 1)
		wantText(t, sign.CheckHost(a, "alg", 1, k, missing(a)[i], h), hostSignature, "a missing signature")

		a = term.New()
		h = a.Data("h")
		wantText(t, sign.CheckHost(a, "alg", 1, missing(a)[i], sign.Host(a, "alg", 1, h), h), hostKey, "a missing key")
		a = term.New()
		wantText(t, sign.CheckHost(a, "alg", 1, missing(a)[i], api.None, api.None), hostKey, "nothing at all")
	}
}

// 22.1: a signature has 5 bytes, its algorithm's name, the key's 5 bytes and the hash's size.
func TestHostLong(t *testing.T) {
	a := term.New()
	most := api.MaxTerm - 5 - 3 - 5
	for n, is := range map[int]bool{most - 6: true, most - 5: true, most - 4: false, api.MaxTerm - 5: false} {
		hash := a.Data(strings.Repeat("x", n))
		sig := sign.Host(a, "alg", 1, hash)
		if (sig != api.None) != is {
			t.Errorf("of data of %d bytes: %d", n, sig)
		}
		text := hostSignature
		if is {
			text = ""
		}
		wantText(t, sign.CheckHost(a, "alg", 1, pub(a, 1), sig, hash), text, "CheckHost of a long one")
	}
}

// 22.1, example 1: the key has to be the host's public key, whatever the signature is.
func TestCheckHostKey(t *testing.T) {
	a := term.New()
	hash := a.Hash(a.Data("h"))
	right := pub(a, 1)
	sig := sign.Host(a, "alg", 1, hash)
	keys := append(each(a), pub(a, 0), pub(a, 2), pub(a, api.MaxNumber), a.Key(1), a.List(right), a.Hash(right), sig)
	for _, key := range keys {
		for _, x := range []api.ID{sig, sign.Host(a, "alg", 2, hash), hash, api.None} {
			err := sign.CheckHost(a, "alg", 1, key, x, hash)
			wantText(t, err, hostKey, "another key")
			if fault.Code(err) != api.ErrHost || fault.Reason(err) != 9 || !slices.Equal(fault.Path(err), []string{"host", "key"}) {
				t.Errorf("%v: %v, %d, %q", err, fault.Code(err), fault.Reason(err), fault.Path(err))
			}
		}
	}
	// What nobody owns is not host 0's.
	for _, key := range append(each(a), missing(a)...) {
		if a.Kind(key) != api.TmPub {
			wantText(t, sign.CheckHost(a, "alg", 0, key, sign.Host(a, "alg", 0, hash), hash), hostKey, "no key")
		}
	}
	// The key of the one who has signed is still not that of the host who is asked about.
	wantText(t, sign.CheckHost(a, "alg", 2, right, sig, hash), hostKey, "signed by 1, not by 2")
	wantText(t, sign.CheckHost(a, "alg", 0, right, sig, hash), hostKey, "signed by 1, not by 0")
}

// 22.1: the signature has to be that of this host, on this hash, by this algorithm.
func TestCheckHostSignature(t *testing.T) {
	a := term.New()
	hash, other := a.Hash(a.Data("h")), a.Hash(a.Data("i"))
	right := sign.Host(a, "alg", 1, hash)
	wantText(t, sign.CheckHost(a, "alg", 1, pub(a, 1), right, hash), "", "the right one")
	sigs := append(each(a),
		sign.Host(a, "alg", 2, hash), sign.Host(a, "alg", 0, hash), sign.Host(a, "alg", 1, other), sign.Host(a, "alh", 1, hash), sign.Host(a, "al", 1, hash),
		sign.Host(a, "alg", 1, right), sign.Host(a, "alg", 1, a.Hash(hash)), sign.Host(a, "alg", 1, a.List(hash)),
		a.List(right), a.Hash(right), a.Key(1), pub(a, 1), hash)
	for _, sig := range sigs {
		err := sign.CheckHost(a, "alg", 1, pub(a, 1), sig, hash)
		wantText(t, err, hostSignature, "another signature")
		if fault.Code(err) != api.ErrHost || fault.Reason(err) != 9 || !slices.Equal(fault.Path(err), []string{"host", "signature"}) {
			t.Errorf("%v: %v, %d, %q", err, fault.Code(err), fault.Reason(err), fault.Path(err))
		}
	}
	wantText(t, sign.CheckHost(a, "alg", 1, pub(a, 1), right, other), hostSignature, "another hash")
	wantText(t, sign.CheckHost(a, "alh", 1, pub(a, 1), right, hash), hostSignature, "another algorithm")
	wantText(t, sign.CheckHost(a, "alg", 2, pub(a, 2), right, hash), hostSignature, "another host")
}

// 22.2: a request is a list of the session, six strings as data, and the key.
func TestRequest(t *testing.T) {
	a := term.New()
	session, key := a.Hash(a.Data("s")), pub(a, 5)
	for _, x := range [][3]string{
		{"ann", "ssh-connection", "ssh-ed25519"},
		{"", "", ""},
		{"publickey", "publickey", "publickey"},
		{"\x00\xff", "a,b c", strings.Repeat("x", api.MaxText+1)},
		{strings.Repeat("u", 1000), strings.Repeat("s", 1000), "\n"},
	} {
		got := sign.Request(a, session, x[0], x[1], x[2], key)
		l := []api.ID{session, a.Data("\x32"), a.Data(x[0]), a.Data(x[1]), a.Data("publickey"), a.Data("\x01"), a.Data(x[2]), key}
		v, is := a.View(got)
		if !is || v.Kind != api.TmList || !slices.Equal(v.Args, l) {
			t.Errorf("Request(%.20q): %+v, %v", x, v, is)
		}
	}
}

// 22.2: any terms may be the session and the key.
func TestRequestOfAll(t *testing.T) {
	a := term.New()
	for _, session := range each(a) {
		for _, key := range each(a) {
			v, is := a.View(sign.Request(a, session, "u", "s", "alg", key))
			if !is || len(v.Args) != 8 || v.Args[0] != session || v.Args[7] != key {
				t.Errorf("Request of %d and %d: %+v", session, key, v)
			}
		}
	}
}

// 22.2, R5: no request without a session or key, even if a term of the request takes its number.
func TestRequestMissing(t *testing.T) {
	for i := range missing(term.New()) {
		for _, l := range [][2]bool{{true, false}, {false, true}, {true, true}} {
			a := term.New()
			session, key := a.Data("h"), pub(a, 1)
			if l[0] {
				session = missing(a)[i]
			}
			if l[1] {
				key = missing(a)[i]
			}
			if got := sign.Request(a, session, "u", "s", "alg", key); got != api.None {
				t.Errorf("Request of %d and %d: %d", session, key, got)
			}
		}
	}
	if got := sign.Request(nil, 0, "u", "s", "alg", 0); got != api.None {
		t.Errorf("without an arena: %d", got)
	}
}

// 22.2: no request, and no signature, if a string is too long for a term, alone or with the others.
func TestRequestLong(t *testing.T) {
	a := term.New()
	session := a.Data("h")
	// A list and its data have 5 bytes each, the session 6, the key 6, the fixed strings 11.
	most := api.MaxTerm - 5 - 6 - 6*5 - 11 - 6
	for at := range 3 {
		for n, is := range map[int]bool{most - 1: true, most: true, most + 1: false, api.MaxTerm - 5: false, api.MaxTerm: false, 1 << 20: false} {
			l := [3]string{}
			l[at] = strings.Repeat("x", n)
			if got := sign.Request(a, session, l[0], l[1], l[2], pub(a, 1)); (got != api.None) != is {
				t.Errorf("string %d of %d bytes: %d", at, n, got)
			}
		}
	}
	// The signature has 5 bytes, its key 5 and its algorithm 3, which the request has, too.
	most -= 5 + 5 + 3 + 3
	for at := range 2 {
		for n, is := range map[int]bool{most - 1: true, most: true, most + 1: false, most + 13: false, 1 << 20: false} {
			l := [2]string{}
			l[at] = strings.Repeat("x", n)
			sig := sign.User(a, session, l[0], l[1], "alg", 1)
			if (sig != api.None) != is {
				t.Errorf("User, string %d of %d bytes: %d", at, n, sig)
			}
			text := userSignature
			if is {
				text = ""
			}
			wantText(t, sign.CheckUser(a, session, l[0], l[1], "alg", pub(a, 1), sig), text, "CheckUser of a long one")
		}
	}
}

// 22.2: a user's signature is that of the request with the user's public key.
func TestUser(t *testing.T) {
	a := term.New()
	session := a.Hash(a.Data("s"))
	for _, who := range []int{0, 5, api.MaxPeople, api.MaxNumber} {
		for _, x := range [][3]string{{"ann", "ssh-connection", "ssh-ed25519"}, {"", "", "a"}, {"\x00", "\xff", strings.Repeat("x", api.MaxText)}} {
			sig := sign.User(a, session, x[0], x[1], x[2], who)
			v, is := a.View(sig)
			q := sign.Request(a, session, x[0], x[1], x[2], pub(a, who))
			if !is || v.Kind != api.TmSig || v.S != x[2] || !slices.Equal(v.Args, []api.ID{a.Key(who), q}) {
				t.Errorf("User(%q, %d): %+v, %v", x, who, v, is)
			}
			wantText(t, sign.CheckUser(a, session, x[0], x[1], x[2], pub(a, who), sig), "", "CheckUser")
		}
	}
	for _, s := range each(a) {
		sig := sign.User(a, s, "u", "s", "alg", 3)
		if sig == api.None || sig != a.Sign("alg", a.Key(3), sign.Request(a, s, "u", "s", "alg", pub(a, 3))) {
			t.Errorf("of the session %d: %d", s, sig)
		}
		wantText(t, sign.CheckUser(a, s, "u", "s", "alg", pub(a, 3), sig), "", "CheckUser of any session")
	}
}

// 22.2: no signature by an algorithm without a name or with too long a one, or by nobody.
func TestUserNone(t *testing.T) {
	a := term.New()
	session := a.Hash(a.Data("s"))
	sig := sign.User(a, session, "u", "s", "alg", 1)
	for _, alg := range []string{"", strings.Repeat("x", api.MaxText+1), strings.Repeat("x", 1<<20)} {
		if got := sign.User(a, session, "u", "s", alg, 1); got != api.None {
			t.Errorf("by an algorithm of %d bytes: %d", len(alg), got)
		}
		for _, x := range append(missing(a), sig) {
			wantText(t, sign.CheckUser(a, session, "u", "s", alg, pub(a, 1), x), userSignature, "no algorithm")
		}
	}
	for _, who := range wrongPeople {
		if got := sign.User(a, session, "u", "s", "alg", who); got != api.None {
			t.Errorf("by %d: %d", who, got)
		}
	}
	if got := sign.User(nil, 0, "u", "s", "alg", 1); got != api.None {
		t.Errorf("without an arena: %d", got)
	}
	wantText(t, sign.CheckUser(nil, session, "u", "s", "alg", pub(a, 1), sig), userKey, "without an arena")
}

// 22.2, R5: what is no term is neither signed nor a signature, even if a term that is made for it
// takes its number.
func TestUserMissing(t *testing.T) {
	for i := range missing(term.New()) {
		a := term.New()
		if got := sign.User(a, missing(a)[i], "u", "s", "alg", 1); got != api.None {
			t.Errorf("of the missing session %d: %d", missing(a)[i], got)
		}

		a = term.New()
		session, key := a.Data("h"), pub(a, 1)
		sig := sign.User(a, session, "u", "s", "alg", 1)
		wantText(t, sign.CheckUser(a, missing(a)[i], "u", "s", "alg", key, sig), userSignature, "a missing session")
		wantText(t, sign.CheckUser(a, missing(a)[i], "u", "s", "alg", key, missing(a)[i]), userSignature, "a missing session and signature")
		wantText(t, sign.CheckUser(a, session, "u", "s", "alg", missing(a)[i], sig), userKey, "a missing key")
		wantText(t, sign.CheckUser(a, api.None, "u", "s", "alg", missing(a)[i], api.None), userKey, "nothing at all")

		// The request's terms and the signature come next.
		a = term.New()
		session, key = a.Data("h"), pub(a, 1)
		wantText(t, sign.CheckUser(a, session, "u", "s", "alg", key, missing(a)[i]), userSignature, "a missing signature")
	}
}

// 22.2: the key has to be a public key, whatever the signature is.
func TestCheckUserKey(t *testing.T) {
	a := term.New()
	session, key := a.Hash(a.Data("s")), pub(a, 3)
	sig := sign.User(a, session, "u", "s", "alg", 3)
	for _, x := range append(each(a), a.List(key), a.Hash(key), sig) {
		if a.Kind(x) == api.TmPub {
			continue
		}
		for _, y := range []api.ID{sig, session, api.None} {
			err := sign.CheckUser(a, session, "u", "s", "alg", x, y)
			wantText(t, err, userKey, "no public key")
			if fault.Code(err) != api.ErrAuth || fault.Reason(err) != 14 || !slices.Equal(fault.Path(err), []string{"user", "key"}) {
				t.Errorf("%v: %v, %d, %q", err, fault.Code(err), fault.Reason(err), fault.Path(err))
			}
		}
	}
}

// 22.2: the signature has to be on this very request, with the key that it names, by its algorithm.
func TestCheckUserSignature(t *testing.T) {
	a := term.New()
	session := a.Hash(a.Data("s"))
	right, q := sign.User(a, session, "u", "s", "alg", 1), sign.Request(a, session, "u", "s", "alg", pub(a, 1))
	wantText(t, sign.CheckUser(a, session, "u", "s", "alg", pub(a, 1), right), "", "the right one")
	sigs := append(each(a),
		sign.User(a, a.Hash(session), "u", "s", "alg", 1), sign.User(a, session, "v", "s", "alg", 1), sign.User(a, session, "", "s", "alg", 1),
		sign.User(a, session, "u", "t", "alg", 1), sign.User(a, session, "u", "", "alg", 1), sign.User(a, session, "s", "u", "alg", 1),
		sign.User(a, session, "u", "s", "alh", 1), sign.User(a, session, "u", "s", "alg", 2),
		a.Sign("alg", a.Key(1), sign.Request(a, session, "u", "s", "alg", pub(a, 2))),
		a.Sign("alg", a.Key(2), q), a.Sign("alh", a.Key(1), q), a.Sign("alg", a.Key(1), sign.Request(a, session, "u", "s", "alh", pub(a, 1))),
		a.Sign("alg", a.Key(1), sign.Request(a, session, "u", "s", "alg", a.Key(1))),
		a.Sign("alg", a.Key(1), a.Hash(q)), a.Sign("alg", a.Key(1), session), a.List(right), a.Hash(right), q, pub(a, 1), a.Key(1))
	for _, sig := range sigs {
		err := sign.CheckUser(a, session, "u", "s", "alg", pub(a, 1), sig)
		wantText(t, err, userSignature, "another signature")
		if fault.Code(err) != api.ErrAuth || fault.Reason(err) != 14 || !slices.Equal(fault.Path(err), []string{"user", "signature"}) {
			t.Errorf("%v: %v, %d, %q", err, fault.Code(err), fault.Reason(err), fault.Path(err))
		}
	}
	for what, err := range map[string]error{
		"session":   sign.CheckUser(a, a.Hash(session), "u", "s", "alg", pub(a, 1), right),
		"user":      sign.CheckUser(a, session, "v", "s", "alg", pub(a, 1), right),
		"service":   sign.CheckUser(a, session, "u", "t", "alg", pub(a, 1), right),
		"algorithm": sign.CheckUser(a, session, "u", "s", "alh", pub(a, 1), right),
		"key":       sign.CheckUser(a, session, "u", "s", "alg", pub(a, 2), right),
	} {
		wantText(t, err, userSignature, "another "+what)
	}
}

// 22.2: the owner of a public key; nobody owns what is none.
func TestOwner(t *testing.T) {
	a := term.New()
	for _, who := range []int{0, 1, 5, api.MaxPeople - 1, api.MaxPeople, api.MaxNumber} {
		if got, is := sign.Owner(a, pub(a, who)); got != who || !is {
			t.Errorf("Owner of the key of %d: %d, %v", who, got, is)
		}
	}
	for _, x := range append(each(a), append(missing(a), a.Key(1), a.List(pub(a, 1)), a.Hash(pub(a, 1)))...) {
		if a.Kind(x) == api.TmPub {
			continue
		}
		if got, is := sign.Owner(a, x); got != 0 || is {
			t.Errorf("Owner of %d: %d, %v", x, got, is)
		}
	}
	if got, is := sign.Owner(nil, 0); got != 0 || is {
		t.Errorf("without an arena: %d, %v", got, is)
	}
	n := a.Len()
	sign.Owner(a, pub(a, 1))
	if a.Len() != n {
		t.Errorf("Owner has made terms")
	}
}

// 22.3: requests that differ in any part are different, and so are their signatures.
func TestRequestsDiffer(t *testing.T) {
	a := term.New()
	sessions := []api.ID{a.Hash(a.Data("s")), a.Hash(a.Data("t")), a.Data("s"), a.Data("2")}
	texts := []string{"", "a", "b", "2", "\x01", "publickey", "ab"}
	requests, sigs, n := map[api.ID]int{}, map[api.ID]int{}, 0
	for _, session := range sessions {
		for _, user := range texts {
			for _, service := range texts {
				for _, alg := range texts[1:] {
					for _, who := range []int{0, 1, 9} {
						requests[sign.Request(a, session, user, service, alg, pub(a, who))]++
						sigs[sign.User(a, session, user, service, alg, who)]++
						n++
					}
				}
			}
		}
	}
	if len(requests) != n || len(sigs) != n {
		t.Errorf("%d requests, of which %d are different; %d different signatures", n, len(requests), len(sigs))
	}
	if requests[api.None] != 0 || sigs[api.None] != 0 {
		t.Errorf("there are requests without a number")
	}
}

// 22.3: a signature of the one kind is never right as one of the other kind.
func TestKindsDiffer(t *testing.T) {
	a := term.New()
	for _, session := range []api.ID{a.Hash(a.Data("s")), a.Hash(a.List()), a.Hash(a.Hash(a.Data("s")))} {
		host, user := sign.Host(a, "alg", 1, session), sign.User(a, session, "u", "s", "alg", 1)
		if host == user || host == api.None || user == api.None {
			t.Errorf("%d and %d", host, user)
		}
		wantText(t, sign.CheckHost(a, "alg", 1, pub(a, 1), user, session), hostSignature, "a user's")
		wantText(t, sign.CheckUser(a, session, "u", "s", "alg", pub(a, 1), host), userSignature, "a host's")
		// The hash of a request is no request.
		q := sign.Request(a, session, "u", "s", "alg", pub(a, 1))
		wantText(t, sign.CheckUser(a, session, "u", "s", "alg", pub(a, 1), sign.Host(a, "alg", 1, a.Hash(q))), userSignature, "a host's of the hash of a request")
		wantText(t, sign.CheckHost(a, "alg", 1, pub(a, 1), user, a.Hash(q)), hostSignature, "a user's, whose request is hashed")
	}
}
