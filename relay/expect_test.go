package relay_test

import (
	"slices"
	"strings"
	"testing"

	"shibboleth/api"
	"shibboleth/conf"
	"shibboleth/kexinit"
	"shibboleth/prefs"
	"shibboleth/relay"
)

// The outcomes of the cases 1, 2 and 3.
var (
	noAlgorithm = api.Outcome{Wrong: [2]api.Errno{api.ErrAlg, api.ErrAlg}}
	noGroup     = api.Outcome{Wrong: [2]api.Errno{api.OK, api.ErrRange}}
	noHost      = api.Outcome{Wrong: [2]api.Errno{api.ErrHost, api.OK}}
)

// in is the outcome for a user who is authenticated.
func in(who, failures int) api.Outcome {
	return api.Outcome{Commit: true, Client: true, Server: true, Who: who, Failures: failures}
}

// noKey is the outcome if no key is left.
func noKey(failures int) api.Outcome {
	return api.Outcome{Commit: true, Failures: failures, Wrong: [2]api.Errno{api.ErrAuth, api.OK}}
}

// full is the outcome if the limit is reached.
func full(failures int) api.Outcome {
	return api.Outcome{Commit: true, Failures: failures, Wrong: [2]api.Errno{api.OK, api.ErrAuth}}
}

type change = func(c, s *api.Conf)

// wantOutcome checks what is expected for two configurations, and what they come to.
func wantOutcome(t *testing.T, what string, want api.Outcome, c, s api.Conf) *relay.Relay {
	t.Helper()
	if o, err := relay.Expect(c, s); err != nil || o != want {
		t.Errorf("%s: expected is %+v, %v, not %+v", what, o, err, want)
	}
	var whole *relay.Relay
	for _, cuts := range [][]int{{1, 2, 3}, nil} {
		x, err := relay.New(c, s)
		if err != nil {
			t.Fatalf("%s: %v", what, err)
		}
		n := x.Drain(cuts)
		if x.Outcome() != want || n > 16+4*len(c.Keys) {
			t.Errorf("%s: %+v after %d units, not %+v", what, x.Outcome(), n, want)
		}
		wantAgreement(t, what, x)
		if want.Client {
			wantOpen(t, what, x)
		}
		whole = x
	}
	return whole
}

func gexOnly(c, s *api.Conf) { c.Prefs.Kex = []string{prefs.Name(api.MeGex)} }

func otherHost(c, s *api.Conf) { c.Peer = host + 1 }

func smallWish(c, s *api.Conf) { c.Wish = [3]uint32{1100, 1200, 2000} }

func keys(l ...int) change {
	return func(c, s *api.Conf) { c.Keys = l }
}

func limit(n int) change {
	return func(c, s *api.Conf) { s.Limit = n }
}

func algs(client, server string) change {
	return func(c, s *api.Conf) { c.Algs, s.Algs = strings.Split(client, ","), strings.Split(server, ",") }
}

func noExt(c, s *api.Conf) { c.Ext = false }

func grants(l ...api.Grant) change {
	return func(c, s *api.Conf) { s.Grants = l }
}

// 34.1, 34.2: each case of the expected outcome, and several that apply at once.
func TestExpect(t *testing.T) {
	others := []int{1, 2, 3, 4, 5, 6, 7, 0}
	ann := func(who int) api.Grant { return api.Grant{User: "ann", Who: who} }
	bob := func(who int) api.Grant { return api.Grant{User: "bob", Who: who} }
	for _, x := range []struct {
		what    string
		want    api.Outcome
		changes []change
	}{
		{"the default", in(user, 0), nil},
		{"no common key exchange", noAlgorithm, []change{gexOnly, func(c, s *api.Conf) { s.Prefs.Kex = s.Prefs.Kex[:2] }}},
		{"no common host algorithm", noAlgorithm, []change{func(c, s *api.Conf) { c.Prefs.Host = []string{"x"} }}},
		{"no common packing", noAlgorithm, []change{func(c, s *api.Conf) { s.Prefs.CompS = []string{"zlib"} }}},
		{"no algorithm, another host", noAlgorithm, []change{otherHost, func(c, s *api.Conf) { s.Prefs.EncC = []string{"x"} }}},
		{"no algorithm, no group, another host, no key", noAlgorithm, []change{gexOnly, smallWish, otherHost, keys(), func(c, s *api.Conf) { s.Prefs.MacC = []string{"x"} }}},
		{"no group", noGroup, []change{gexOnly, smallWish}},
		{"no group, another host", noGroup, []change{gexOnly, smallWish, otherHost}},
		{"no group, no key", noGroup, []change{gexOnly, smallWish, keys()}},
		{"no group, but another method", in(user, 0), []change{smallWish}},
		{"no group, but another first method", in(user, 0), []change{smallWish, func(c, s *api.Conf) { s.Prefs.Kex = []string{s.Prefs.Kex[2], s.Prefs.Kex[1]} }}},
		{"no group, and the server has that method only", noGroup, []change{smallWish, func(c, s *api.Conf) { s.Prefs.Kex = s.Prefs.Kex[2:] }}},
		{"the largest wish", noGroup, []change{gexOnly, func(c, s *api.Conf) { c.Wish = [3]uint32{4097, 8192, 8192} }}},
		{"a wish that one group fits", in(user, 0), []change{gexOnly, func(c, s *api.Conf) { c.Wish = [3]uint32{1024, 1024, 1024} }}},
		{"a group below the one that is wished", in(user, 0), []change{gexOnly, func(c, s *api.Conf) { c.Wish = [3]uint32{1024, 8192, 8192} }}},
		{"another host", noHost, []change{otherHost}},
		{"another host, no key", noHost, []change{otherHost, keys()}},
		{"another host, a limit of 1", noHost, []change{otherHost, keys(1), limit(1)}},
		{"no keys", noKey(0), []change{keys()}},
		{"no keys, a limit of 1", noKey(0), []change{keys(), limit(1)}},
		{"one other key", noKey(1), []change{keys(1)}},
		{"the last key", in(user, 2), []change{keys(1, 2, user)}},
		{"after the key", in(user, 0), []change{keys(user, 1, 2)}},
		{"the key twice", in(user, 0), []change{keys(user, user)}},
		{"another key twice", in(user, 2), []change{keys(1, 1, user)}},
		{"the limit is reached just before the key", full(3), []change{keys(1, 2, 3, user)}},
		{"the limit is reached by the last key", full(3), []change{keys(1, 2, 3)}},
		{"the limit would be reached after the last key", noKey(2), []change{keys(1, 2)}},
		{"a limit of 1", full(1), []change{keys(1, user), limit(1)}},
		{"a limit of 1, and the key", in(user, 0), []change{limit(1)}},
		{"the highest limit, and most keys", noKey(8), []change{keys(others...), limit(api.MaxTries)}},
		{"a limit of as many as keys", full(8), []change{keys(others...), limit(8)}},
		{"a limit of one more", noKey(8), []change{keys(others...), limit(9)}},
		{"a limit of one less", full(7), []change{keys(others...), limit(7)}},
		{"the last of most keys", in(user, 7), []change{keys(1, 2, 3, 4, 5, 6, 7, user), limit(8)}},
		{"the last of most keys comes too late", full(7), []change{keys(1, 2, 3, 4, 5, 6, 7, user), limit(7)}},
		{"no grants", noKey(1), []change{grants()}},
		{"a grant for somebody else", noKey(1), []change{grants(bob(user))}},
		{"a grant for somebody else, too", in(user, 0), []change{grants(bob(1), bob(user), ann(user))}},
		{"a key that is granted to somebody else", in(user, 1), []change{keys(1, user), grants(bob(1), ann(user))}},
		{"another user", noKey(1), []change{func(c, s *api.Conf) { c.User = "An" }}},
		{"many grants", in(3, 2), []change{keys(1, 2, 3, 4), grants(ann(5), ann(4), bob(1), ann(3))}},
		{"a grant twice", in(4, 0), []change{keys(4), grants(ann(4), ann(4))}},
		{"the principal 0", in(0, 0), []change{keys(0), grants(ann(0))}},
		{"the principal 15", in(15, 1), []change{keys(14, 15), grants(ann(15))}},
		{"the host's own key", in(host, 0), []change{keys(host), grants(ann(host))}},
		{"the first algorithm is accepted", in(user, 0), []change{algs("a,b", "a")}},
		{"the last algorithm is accepted", in(user, 0), []change{algs("a,b,c", "x,c")}},
		{"several are accepted", in(user, 0), []change{algs("a,b,c", "c,b")}},
		{"none is accepted", noKey(0), []change{algs("a,b", "c,d"), keys(1, user)}},
		{"none is accepted, with a limit of 1", noKey(0), []change{algs("a", "b"), limit(1)}},
		{"unknown: the first is accepted", in(user, 0), []change{noExt, algs("a,b", "x,a")}},
		{"unknown: the last is accepted", noKey(2), []change{noExt, algs("a,b", "b"), keys(user, 1)}},
		{"unknown: none is accepted", noKey(1), []change{noExt, algs("a", "b")}},
		{"unknown: none is accepted, with a limit of 1", full(1), []change{noExt, algs("a", "b"), limit(1)}},
		{"unknown: a limit of the number of keys", full(2), []change{noExt, algs("a,b", "b"), keys(user, user), limit(2)}},
	} {
		c, s := pair(x.changes...)
		wantOutcome(t, x.what, x.want, c, s)
	}
}

// 34.2: any configurations: what is expected is what they come to.
func TestExpectAll(t *testing.T) {
	seen := map[string]int{}
	for seed := range 2000 {
		r := roll(seed)
		c, s := r.pair()
		want, err := relay.Expect(c, s)
		if err != nil {
			t.Fatalf("seed %d: %v", seed, err)
		}
		x, err := relay.New(c, s)
		if err != nil {
			t.Fatalf("seed %d: %v", seed, err)
		}
		cuts := r.cuts()
		n := 0
		for x.Pass(cuts) {
			cuts = r.cuts()
			n++
		}
		if got := x.Outcome(); got != want || n > 16+4*len(c.Keys) {
			t.Fatalf("seed %d: %+v after %d units, not %+v; %+v, %+v", seed, got, n, want, c, s)
		}
		wantAgreement(t, "any", x)
		switch {
		case want == noAlgorithm, want == noGroup, want == noHost:
			seen[want.Wrong[0].Error()+want.Wrong[1].Error()]++
		case want.Client:
			seen["in"]++
		case want.Wrong[0] == api.ErrAuth:
			seen["no key"]++
		default:
			seen["full"]++
		}
	}
	for _, k := range []string{"algalg", "okrange", "hostok", "in", "no key", "full"} {
		if seen[k] < 50 {
			t.Errorf("%s: only %d", k, seen[k])
		}
	}
}

// sent is how many units each method takes that is neither guessed nor in a first exchange.
func sent(method int) int {
	if method == api.MeGex {
		return 8
	}
	return 6
}

// 34.2, 34.3, P7: each method, with and without a guess and extensions, in the first exchange and in
// later ones: how many units it takes.
func TestUnits(t *testing.T) {
	for method := api.MeCurve; method <= api.MeGex; method++ {
		for _, guess := range []string{"no", "right", "wrong method", "wrong host"} {
			for _, ext := range []bool{false, true} {
				c, s := pair(func(c, s *api.Conf) {
					c.Ext, c.Guess = ext, guess != "no"
					s.Prefs.Kex = []string{prefs.Name(method)}
					c.Prefs.Kex = s.Prefs.Kex
					switch guess {
					case "wrong method":
						c.Prefs.Kex = []string{prefs.Name(method%3 + 1), prefs.Name(method)}
					case "wrong host":
						slices.Reverse(s.Prefs.Host)
					}
				})
				x := wantOutcome(t, guess, in(user, 0), c, s)
				// One more is the guess that is ignored.
				each := sent(method)
				if strings.HasPrefix(guess, "wrong") {
					each++
				}
				for n := range 5 {
					if !x.Rekey(n%2 == 0) {
						t.Fatalf("no exchange")
					}
					if got := x.Drain(nil); got != each || got > 9 {
						t.Errorf("%d, %s: %d units, not %d", method, guess, got, each)
					}
					wantOpen(t, guess, x)
					if x.Look(true).Over != n+2 {
						t.Errorf("%d exchanges", x.Look(true).Over)
					}
				}
				y, err := relay.New(c, s)
				if err != nil {
					t.Fatalf("New: %v", err)
				}
				// Beside the exchange: two lines, the service's two messages, and four of the key.
				want := each + 8
				if ext {
					want++
				}
				if got := y.Drain(nil); got != want {
					t.Errorf("%d, %s, %v: %d units, not %d", method, guess, ext, got, want)
				}
			}
		}
	}
}

// size is how many bytes both initializations have.
func size(t *testing.T, c, s api.Conf) int {
	t.Helper()
	n := 0
	for i, x := range []api.Conf{s, c} {
		p, err := kexinit.Build(conf.Init(x, i, 0))
		if err != nil {
			t.Fatalf("Build: %v", err)
		}
		n += len(p)
	}
	return n
}

// lengthen adds names to the lists of a configuration, which take n bytes.
func lengthen(x *api.Conf, n int) {
	lists := []*[]string{&x.Prefs.Host, &x.Prefs.EncC, &x.Prefs.EncS, &x.Prefs.MacC, &x.Prefs.MacS, &x.Prefs.CompC, &x.Prefs.CompS}
	for i := 0; n > 0; i++ {
		// One for the comma; and no name has no bytes.
		k := min(n-1, api.MaxText)
		if n-k-1 == 1 {
			k--
		}
		l := lists[i%len(lists)]
		*l = append(*l, strings.Repeat("z", k-1)+string(rune('A'+i)))
		n -= k + 1
	}
}

// 34.2, 34.3: initializations of just 2,000 bytes in total, and all else as long as it may be.
func TestLongest(t *testing.T) {
	const most = 2000
	long := strings.Repeat("a", api.MaxText-1)
	for method := api.MeCurve; method <= api.MeGex; method++ {
		for _, share := range []int{0, 50, 100} {
			c, s := pair(func(c, s *api.Conf) {
				c.Prefs.Kex, s.Prefs.Kex = []string{prefs.Name(method)}, []string{prefs.Name(method)}
				c.Prefs.Host, s.Prefs.Host = []string{long + "h"}, []string{long + "h"}
				c.Software, s.Software = strings.Repeat("c", 245), strings.Repeat("s", 245)
				c.User, s.Grants = long+"u", []api.Grant{{User: long + "u", Who: user}}
				c.Algs = []string{long + "x"}
				s.Algs = nil
				for i := range 14 {
					s.Algs = append(s.Algs, long+string(rune('A'+i)))
				}
				s.Algs = append(s.Algs, long+"x")
				c.Wish = [3]uint32{4096, 8192, 8192}
				c.Keys, s.Limit = []int{1, 2, 3, 4, 5, 6, 7, user}, api.MaxTries
			})
			spare := most - size(t, c, s)
			lengthen(&c, spare*share/100)
			lengthen(&s, spare-spare*share/100)
			if n := size(t, c, s); n != most {
				t.Fatalf("%d bytes", n)
			}
			x := wantOutcome(t, "long", in(user, 7), c, s)
			for i := range 4 {
				if !x.Rekey(i%2 == 0) || !x.Say(true, strings.Repeat("x", api.MaxPayload-5)) || !x.Say(false, strings.Repeat("y", api.MaxPayload-5)) {
					t.Fatalf("nothing is sent")
				}
				x.Drain(nil)
				wantOpen(t, "long", x)
			}
		}
	}
}
