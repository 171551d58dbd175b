package kex_test

import (
	"slices"
	"strconv"
	"strings"
	"testing"

	"shibboleth/api"
	"shibboleth/conf"
	"shibboleth/fault"
	"shibboleth/gex"
	"shibboleth/kex"
	"shibboleth/sign"
	"shibboleth/term"
)

// announced returns what the other side of an exchange announces, and what a change makes of it.
func announced(server bool, number int, change func(x *api.Init)) api.Init {
	x := conf.Init(conf.Plain(server, 1), 7, number)
	if change != nil {
		change(&x)
	}
	return x
}

// with returns the default configuration of the host 1, with these methods.
func with(server bool, methods ...string) api.Conf {
	c := conf.Plain(server, 1)
	c.Prefs.Kex = methods
	return c
}

// begun returns an exchange of session 1 that waits for an initialization, and its own one.
func begun(t *testing.T, a *term.Arena, c api.Conf, number int, first api.ID) (*kex.Exchange, string) {
	t.Helper()
	x := fresh(t, a, c, 1, number, first)
	l, err := x.Begin()
	if err != nil {
		t.Fatalf("Begin: %v", err)
	}
	return x, l[0]
}

// met returns an exchange of session 1 that has taken an initialization, and what is known of the
// result then.
func met(t *testing.T, a *term.Arena, c api.Conf, number int, first api.ID, other api.Init) (*kex.Exchange, api.Done) {
	t.Helper()
	x, own := begun(t, a, c, number, first)
	theirs := build(t, other)
	if _, err := x.Init(otherVersion, theirs); err != nil {
		t.Fatalf("Init: %v", err)
	}
	if c.Server {
		return x, api.Done{VC: otherVersion, VS: conf.Version(c), IC: theirs, IS: own}
	}
	return x, api.Done{VC: conf.Version(c), VS: otherVersion, IC: own, IS: theirs}
}

// serving returns a server of the host 1 that has a method, and met a client that has it.
func serving(t *testing.T, a *term.Arena, method string, number int, first api.ID) *kex.Exchange {
	t.Helper()
	x, _ := met(t, a, with(true, method), number, first, announced(false, number, nil))
	return x
}

// calling returns a client of the host 1 that has a method, and met a server that has it. What is
// known of the result then is complete but for the group, the shares, and what comes of them.
func calling(t *testing.T, a *term.Arena, method string, number int, first api.ID) (*kex.Exchange, api.Done) {
	t.Helper()
	c := with(false, method)
	x, d := met(t, a, c, number, first, announced(true, number, nil))
	d.Method = map[string]int{curve: api.MeCurve, ecdh: api.MeEcdh, asks: api.MeGex}[method]
	d.Key = a.Pub(a.Key(1))
	d.Choice = api.Choice{Kex: method, Host: "ssh-ed25519", EncC: "aes256-gcm", EncS: "aes256-gcm", MacC: "hmac-sha2-256", MacS: "hmac-sha2-256", CompC: "none", CompS: "none"}
	if method == asks {
		d.Wish = c.Wish
	}
	return x, d
}

// agreed returns the whole result of a client of session 1 and of a server with the nonce y.
func agreed(t *testing.T, a *term.Arena, d api.Done, number int, y, first api.ID) api.Done {
	t.Helper()
	group, x := groupOf(t, d.Method, d.Group), a.Nonce(2, 2*number)
	d.E, d.F = share(a, group, x), share(a, group, y)
	d.K = a.Exp(d.F, x)
	return complete(a, d, first)
}

// reply returns the payload of a server's reply.
func reply(t *testing.T, a *term.Arena, d api.Done, sig api.ID) string {
	t.Helper()
	num := 31
	if d.Method == api.MeGex {
		num = 33
	}
	return terms(t, a, num, d.Key, d.F, sig)
}

// offers returns shares that are none of a group, as values.
func offers(t *testing.T, a *term.Arena, group string) []string {
	t.Helper()
	x := a.Nonce(0, 7)
	right, full := share(a, group, x), a.Base(group)
	for range api.MaxExps {
		full = a.Exp(full, x)
	}
	l := []string{"", "x", "\xf5"}
	for _, y := range []api.ID{
		a.Base(group), full, share(a, group+"x", x), share(a, "other", x), x, a.Key(1), a.Pub(a.Key(1)), a.Hash(right), a.List(right), a.Seal(x, 1, right), a.List(),
	} {
		s := terms(t, a, 30, y)
		l = append(l, s[5:])
	}
	return l
}

// value returns a string as a value.
func value(s string) api.Field {
	return api.Field{Kind: 't', S: s}
}

// 26.2: each call in each state: all but one are out of order, and make the exchange fail.
func TestOrder(t *testing.T) {
	for _, server := range []bool{false, true} {
		for number := range 2 {
			for state := range 3 {
				for call := range 3 {
					if call != state {
						checkOrder(t, server, number, state, call, true)
						checkOrder(t, server, number, state, call, false)
					}
				}
			}
		}
	}
}

// checkOrder makes a call where it is out of order, with arguments that would be right in another
// state, or with wrong ones.
func checkOrder(t *testing.T, server bool, number, state, call int, right bool) {
	t.Helper()
	a := term.New()
	first := api.ID(api.None)
	if number > 0 {
		first = a.Data("s")
	}
	x := fresh(t, a, with(server, curve), 1, number, first)
	version, theirs := otherVersion, build(t, announced(!server, number, nil))
	message := terms(t, a, 30, share(a, "curve25519", a.Nonce(0, 0)))
	steps := []func() ([]string, error){
		x.Begin,
		func() ([]string, error) { return x.Init(version, theirs) },
		func() ([]string, error) { return x.Take(message) },
	}
	for i := range state {
		if _, err := steps[i](); err != nil {
			t.Fatalf("step %d: %v", i, err)
		}
	}
	if !right {
		version, theirs, message = "", "", ""
	}
	l, err := steps[call]()
	wantFail(t, "call "+strconv.Itoa(call)+" in state "+strconv.Itoa(state), x, l, err, "kex: order")
}

// 26.2: while a message is to be ignored, only Take is in order.
func TestOrderWhileIgnoring(t *testing.T) {
	wrong := func(x *api.Init) { x.Follows, x.Prefs.Kex = true, []string{ecdh, curve} }
	for call := range 2 {
		x, _ := met(t, term.New(), with(true, curve), 0, api.None, announced(false, 0, wrong))
		l, err := []func() ([]string, error){
			x.Begin,
			func() ([]string, error) { return x.Init(otherVersion, build(t, announced(false, 0, nil))) },
		}[call]()
		wantFail(t, "while a message is ignored", x, l, err, "kex: order")
	}
}

// 26.2: the errors of Init, and which one comes first.
func TestInitErrors(t *testing.T) {
	for _, server := range []bool{false, true} {
		unmarked := build(t, announced(!server, 1, nil))
		nothing := build(t, announced(!server, 1, func(x *api.Init) { x.Prefs = api.Prefs{} }))
		swapped := build(t, announced(!server, 0, func(x *api.Init) { x.StrictC, x.StrictS = x.StrictS, x.StrictC }))
		other := build(t, announced(!server, 0, func(x *api.Init) { x.Prefs.MacS, x.Prefs.CompC = []string{"other"}, nil }))
		unknown := build(t, announced(!server, 0, func(x *api.Init) { x.Prefs.Kex = []string{"unknown"} }))
		for _, c := range []struct{ version, payload, text string }{
			{"", unmarked, "kex: line"},
			{"SSH-2.0-", unmarked, "kex: line"},
			{"SSH-1.99-x", "", "kex: line"},
			{"SSH-2.0-x\r\n", other, "kex: line"},
			{"SSH-2.0-" + strings.Repeat("x", api.MaxLine), unmarked, "kex: line"},
			{"hello", "", "kex: line"},
			{otherVersion, "", "kex: kexinit: message: short"},
			{otherVersion, strings.Repeat("\x14", api.MaxPayload+1), "kex: kexinit: message: long"},
			{otherVersion, "\xff", "kex: kexinit: message: none"},
			{otherVersion, "\x14", "kex: kexinit: kexinit: 0: short"},
			{otherVersion, unmarked + "x", "kex: kexinit: kexinit: end: form"},
			{otherVersion, "\x15", "kex: kexinit: none"},
			{otherVersion, wish(t, 1024, 2048, 4096), "kex: kexinit: none"},
			{otherVersion, strings.TrimSuffix(unmarked, "\x00") + "\x01", "kex: kexinit: form"},
			{otherVersion, unmarked, "kex: strict: rule"},
			{otherVersion, swapped, "kex: strict: rule"},
			{otherVersion, nothing, "kex: strict: rule"},
			{otherVersion, other, "kex: choose: mac-s: alg"},
			{otherVersion, unknown, "kex: choose: kex: alg"},
		} {
			x, _ := begun(t, term.New(), conf.Plain(server, 1), 0, api.None)
			l, err := x.Init(c.version, c.payload)
			wantFail(t, c.text, x, l, err, c.text)
			if server && c.text == "kex: choose: mac-s: alg" && (fault.Reason(err) != 3 || !slices.Equal(fault.Path(err), []string{"kex", "choose", "mac-s"})) {
				t.Errorf("%d, %q", fault.Reason(err), fault.Path(err))
			}
		}
	}
}

// 26.2: only in the first exchange the peer's strict marker is required; another one is ignored.
func TestStrict(t *testing.T) {
	for _, server := range []bool{false, true} {
		for bits := range 4 {
			for number := range 2 {
				a := term.New()
				first := api.ID(api.None)
				if number > 0 {
					first = a.Data("s")
				}
				x, _ := begun(t, a, conf.Plain(server, 1), number, first)
				other := announced(!server, number, func(x *api.Init) { x.StrictC, x.StrictS = bits&1 != 0, bits&2 != 0 })
				l, err := x.Init(otherVersion, build(t, other))
				if number > 0 || server && other.StrictC || !server && other.StrictS {
					wantText(t, err, "", "with the marker, or later")
					continue
				}
				wantFail(t, "without the marker", x, l, err, "kex: strict: rule")
			}
		}
	}
}

// 26.3: after a wrong guess the next message is ignored, whatever it is, and only this one.
func TestIgnored(t *testing.T) {
	junk := []string{"", "\x00", "\xff", "\x1e", "\x1f", "\x14", "\x15", "\x01", strings.Repeat("x", api.MaxPayload+1), strings.Repeat("\x1e", 1<<20)}
	for _, s := range junk {
		a := term.New()
		y := a.Nonce(0, 0)
		right := terms(t, a, 30, share(a, "curve25519", y))
		guesses := func(x *api.Init) { x.Follows, x.Prefs.Kex = true, []string{ecdh, curve} }
		x, _ := met(t, a, with(true, curve), 0, api.None, announced(false, 0, guesses))
		l, err := x.Take(s)
		wantOut(t, "ignored", l, err)
		wantWaiting(t, "ignored", x, 30, true)
		if l, err = x.Take(right); len(l) != 1 || err != nil || !x.Over() {
			t.Errorf("after the ignored one: %q, %v", l, err)
		}

		x, _ = met(t, a, with(true, curve), 0, api.None, announced(false, 0, guesses))
		l, err = x.Take(right)
		wantOut(t, "a right one, ignored", l, err)
		if l, err = x.Take(s); err == nil {
			t.Errorf("a second one is ignored: %q", l)
		}
		wantFailed(t, "a second one", x)
	}
}

// 26.2, 26.3: a client ignores what follows a server's wrong guess, too.
func TestServerGuesses(t *testing.T) {
	for _, guess := range []struct {
		follows bool
		kex     []string
		host    []string
		ignored bool
	}{
		{true, []string{ecdh, curve}, nil, true},
		{true, []string{curve, ecdh}, []string{"rsa-sha2-256", "ssh-ed25519"}, true},
		{true, []string{curve, ecdh}, nil, false},
		{false, []string{ecdh, curve}, nil, false},
	} {
		a := term.New()
		c := with(false, curve)
		other := announced(true, 0, func(x *api.Init) {
			x.Follows, x.Prefs.Kex = guess.follows, guess.kex
			if guess.host != nil {
				x.Prefs.Host = guess.host
			}
		})
		x, d := met(t, a, c, 0, api.None, other)
		d.Method, d.Key = api.MeCurve, a.Pub(a.Key(1))
		d = agreed(t, a, d, 0, a.Nonce(0, 3), api.None)
		if guess.ignored {
			l, err := x.Take("\x00")
			wantOut(t, "ignored", l, err)
			wantWaiting(t, "ignored", x, 31, false)
		}
		l, err := x.Take(reply(t, a, d, sign.Host(a, "ssh-ed25519", 1, d.Hash)))
		wantOut(t, "the reply", l, err)
		if !x.Over() {
			t.Errorf("%+v: it is not complete", guess)
		}
	}
}

// strangers are payloads of messages that are never of an exchange's own.
func strangers(t *testing.T) []string {
	t.Helper()
	text := api.Field{Kind: 's', S: "x"}
	return []string{
		"\x15", "\x34", payload(t, 2, text), payload(t, 3, api.Field{Kind: 'u', N: 30}), payload(t, 5, text), payload(t, 7, api.Field{Kind: 'e'}), payload(t, 53, text, text),
		build(t, announced(false, 0, nil)), build(t, announced(true, 0, nil)),
	}
}

// undecodable are payloads of no message, and the errors for them.
func undecodable() map[string]string {
	return map[string]string{
		"":                                       "kex: message: short",
		"\x00":                                   "kex: message: none",
		"\x23":                                   "kex: message: none",
		"\xff":                                   "kex: message: none",
		"\x1e":                                   "kex: ecdh-init: 0: short",
		"\x1f":                                   "kex: reply-or-group: 0: short",
		"\x20\x00":                               "kex: gex-init: 0: short",
		"\x21":                                   "kex: gex-reply: 0: short",
		"\x22\x00\x00":                           "kex: gex-request: 0: short",
		"\x15x":                                  "kex: newkeys: end: form",
		strings.Repeat("\x1e", api.MaxPayload+1): "kex: message: long",
		"\x22" + strings.Repeat("\x00\x00\x10\x00x", 3): "kex: gex-request: end: form",
	}
}

// waiting is an exchange that waits for a message, and what it waits for.
type waiting struct {
	what  string
	wants int
	of    func(t *testing.T, a *term.Arena) *kex.Exchange
}

// everyWait returns each way to wait for a message.
func everyWait() []waiting {
	then := func(t *testing.T, x *kex.Exchange, message string) *kex.Exchange {
		if _, err := x.Take(message); err != nil {
			t.Fatalf("Take: %v", err)
		}
		return x
	}
	client := func(t *testing.T, a *term.Arena, method string) *kex.Exchange {
		x, _ := calling(t, a, method, 0, api.None)
		return x
	}
	server := func(t *testing.T, a *term.Arena, method string) *kex.Exchange {
		return serving(t, a, method, 0, api.None)
	}
	return []waiting{
		{"a server, curve", 30, func(t *testing.T, a *term.Arena) *kex.Exchange { return server(t, a, curve) }},
		{"a server, ecdh", 30, func(t *testing.T, a *term.Arena) *kex.Exchange { return server(t, a, ecdh) }},
		{"a server, asked", 34, func(t *testing.T, a *term.Arena) *kex.Exchange { return server(t, a, asks) }},
		{"a server, group", 32, func(t *testing.T, a *term.Arena) *kex.Exchange {
			return then(t, server(t, a, asks), wish(t, 1024, 2048, 4096))
		}},
		{"a client, curve", 31, func(t *testing.T, a *term.Arena) *kex.Exchange { return client(t, a, curve) }},
		{"a client, ecdh", 31, func(t *testing.T, a *term.Arena) *kex.Exchange { return client(t, a, ecdh) }},
		{"a client, asking", 31, func(t *testing.T, a *term.Arena) *kex.Exchange { return client(t, a, asks) }},
		{"a client, group", 33, func(t *testing.T, a *term.Arena) *kex.Exchange {
			return then(t, client(t, a, asks), offered(t, gex.Table()[2]))
		}},
	}
}

// 26.3: what is no message, or another one than is expected.
func TestOtherMessages(t *testing.T) {
	for _, w := range everyWait() {
		for s, text := range undecodable() {
			x := w.of(t, term.New())
			l, err := x.Take(s)
			wantFail(t, w.what+", no message", x, l, err, text)
		}
		a := term.New()
		y := share(a, "g", a.Nonce(0, 0))
		others := append(strangers(t), terms(t, a, 30, y), terms(t, a, 31, y, y, y), offered(t, gex.Table()[2]), terms(t, a, 32, y), terms(t, a, 33, y, y, y), wish(t, 1024, 2048, 4096))
		for _, s := range others {
			if int(s[0]) == w.wants {
				continue
			}
			x := w.of(t, a)
			if x.Wants() != w.wants {
				t.Errorf("%s: wants %d", w.what, x.Wants())
			}
			l, err := x.Take(s)
			wantFail(t, w.what+", message "+strconv.Itoa(int(s[0])), x, l, err, "kex: order")
		}
	}
}

// 26.3: a reply where a group is expected, and a group where a reply is.
func TestOtherFormat(t *testing.T) {
	a := term.New()
	y := share(a, "curve25519", a.Nonce(0, 0))
	for _, method := range []string{curve, ecdh, asks} {
		x, _ := calling(t, a, method, 0, api.None)
		s := offered(t, gex.Table()[2])
		if method == asks {
			s = terms(t, a, 31, y, y, y)
		}
		l, err := x.Take(s)
		wantFail(t, method, x, l, err, "kex: form")
	}
}

// 26.3: the server picks a group for what it is asked for, or does not.
func TestPick(t *testing.T) {
	for _, c := range []struct{ least, like, most, index int }{
		{1024, 1024, 1024, 0}, {1024, 2000, 8192, 1}, {1024, 2049, 8192, 2}, {2048, 4097, 8192, 3}, {1024, 1025, 2047, 0}, {4096, 4096, 4096, 3},
	} {
		a := term.New()
		x := serving(t, a, asks, 0, api.None)
		l, err := x.Take(wish(t, c.least, c.like, c.most))
		g := gex.Table()[c.index]
		wantOut(t, "a group", l, err, offered(t, g))
		l, err = x.Take(terms(t, a, 32, share(a, groupOf(t, api.MeGex, g), a.Nonce(0, 1))))
		if d, is := x.Done(); err != nil || len(l) != 1 || !is || d.Group != g || d.Wish != [3]uint32{uint32(c.least), uint32(c.like), uint32(c.most)} {
			t.Errorf("%+v: %v, %v", c, err, d)
		}
	}
	for _, l := range [][3]int{{0, 0, 0}, {1023, 2048, 4096}, {2048, 1024, 4096}, {1024, 4096, 2048}, {1024, 2048, 8193}, {4097, 4097, 8192}, {1025, 1026, 2047}, {1<<32 - 1, 1<<32 - 1, 1<<32 - 1}} {
		x := serving(t, term.New(), asks, 0, api.None)
		got, err := x.Take(wish(t, l[0], l[1], l[2]))
		wantFail(t, "no group", x, got, err, "kex: gex: range")
	}
}

// 26.3: what is no share in the group, for a server.
func TestServerShare(t *testing.T) {
	for _, method := range []string{curve, ecdh, asks} {
		a := term.New()
		group := map[string]string{curve: "curve25519", ecdh: "nistp256", asks: groupOf(t, api.MeGex, gex.Table()[1])}[method]
		ask := func(first api.ID, number int, s string) (*kex.Exchange, []string, error) {
			x := serving(t, a, method, number, first)
			num := 30
			if method == asks {
				num = 32
				if _, err := x.Take(wish(t, 1024, 2048, 4096)); err != nil {
					t.Fatalf("Take: %v", err)
				}
			}
			l, err := x.Take(payload(t, num, value(s)))
			return x, l, err
		}
		// The keys that a long session identifier makes too long come later.
		long := a.Data(strings.Repeat("s", 60000))
		for _, s := range offers(t, a, group) {
			x, l, err := ask(api.None, 0, s)
			wantFail(t, method, x, l, err, "kex: share: range")
			x, l, err = ask(long, 1, s)
			wantFail(t, method, x, l, err, "kex: share: range")
		}
		most := a.Base(group)
		for i := range api.MaxExps - 1 {
			most = a.Exp(most, a.Nonce(0, i))
			x, l, err := ask(api.None, 0, terms(t, a, 30, most)[5:])
			if d, is := x.Done(); err != nil || len(l) != 1 || !is || d.E != most || d.K != a.Exp(most, a.Nonce(2, 0)) {
				t.Errorf("%d exponents: %v, %+v", i+1, err, d)
			}
		}
	}
}

// 26.3: keys that are too long, by one byte, for both roles; a client tells the host's error first.
func TestKeysTooLong(t *testing.T) {
	for _, method := range []string{curve, asks} {
		a := term.New()
		c, s := a.Nonce(2, 2), a.Nonce(0, 3)
		play := func(first api.ID, server bool, host int) (*kex.Exchange, []string, error) {
			g := gex.Table()[2] // the one of 3072 bits, which the default wish is for
			if server {
				x := serving(t, a, method, 1, first)
				if method == curve {
					l, err := x.Take(terms(t, a, 30, share(a, "curve25519", s)))
					return x, l, err
				}
				x.Take(wish(t, 2048, 3072, 8192))
				l, err := x.Take(terms(t, a, 32, share(a, groupOf(t, api.MeGex, g), s)))
				return x, l, err
			}
			x, d := calling(t, a, method, 1, first)
			if method == asks {
				d.Group = g
				x.Take(offered(t, g))
			}
			d = agreed(t, a, d, 1, s, first)
			l, err := x.Take(reply(t, a, d, sign.Host(a, "ssh-ed25519", host, d.Hash)))
			return x, l, err
		}
		if c == s {
			t.Fatalf("the nonces are the same")
		}
		for _, server := range []bool{false, true} {
			x, _, err := play(a.Data("s"), server, 1)
			d, is := x.Done()
			if err != nil || !is {
				t.Fatalf("with a short session identifier: %v", err)
			}
			// Three keys, each of two bytes of its own, and five bytes of the list.
			room := (api.MaxTerm-5)/3 - 2 - a.Size(d.K) - a.Size(d.Hash)
			longest := a.Data(strings.Repeat("s", room-5))
			longer := a.Data(strings.Repeat("s", room-4))
			x, _, err = play(longest, server, 1)
			if d, is := x.Done(); err != nil || !is || a.Size(d.Up) > api.MaxTerm || a.Size(d.Up) < api.MaxTerm-3 || a.Size(d.Down) != a.Size(d.Up) {
				t.Errorf("the longest keys: %v, %d", err, a.Size(d.Up))
			}
			x, l, err := play(longer, server, 1)
			wantFail(t, "keys", x, l, err, "kex: keys: long")
		}
		x, l, err := play(a.Data(strings.Repeat("s", 60000)), false, 2)
		wantFail(t, "another host", x, l, err, "kex: host: signature: host")
	}
}

// 26.3: which groups a client takes: those within its least and most.
func TestGroup(t *testing.T) {
	table := gex.Table()
	p := table[1].P
	even := p[:len(p)-1] + "\x02"
	own := "\xff" + strings.Repeat("\x01", 300)
	for _, c := range []struct {
		wish  [3]uint32
		g     api.Group
		right bool
	}{
		{[3]uint32{2048, 3072, 8192}, table[0], false},
		{[3]uint32{2048, 3072, 8192}, table[1], true},
		{[3]uint32{2048, 3072, 8192}, table[3], true},
		{[3]uint32{1024, 1024, 1024}, table[0], true},
		{[3]uint32{1024, 1024, 2047}, table[1], false},
		{[3]uint32{1024, 1024, 2048}, table[1], true},
		{[3]uint32{2049, 2049, 8192}, table[1], false},
		{[3]uint32{1024, 2048, 8192}, api.Group{P: even, G: "\x02"}, false},
		{[3]uint32{1024, 2048, 8192}, api.Group{P: p, G: "\x01"}, false},
		{[3]uint32{1024, 2048, 8192}, api.Group{P: p}, false},
		{[3]uint32{1024, 2048, 8192}, api.Group{G: "\x02"}, false},
		{[3]uint32{1024, 2048, 8192}, api.Group{P: p, G: p}, false},
		{[3]uint32{1024, 2048, 8192}, api.Group{P: own, G: "\x05\x00"}, true},
		{[3]uint32{1024, 2048, 8192}, api.Group{P: "\x80" + strings.Repeat("\x01", 1023), G: "\x40" + strings.Repeat("\x00", 1023)}, true},
		{[3]uint32{1024, 2048, 8192}, api.Group{P: "\x01" + strings.Repeat("\x01", 1024), G: "\x02"}, false},
	} {
		a := term.New()
		conf := with(false, asks)
		conf.Wish = c.wish
		x, _ := met(t, a, conf, 0, api.None, announced(true, 0, nil))
		l, err := x.Take(offered(t, c.g))
		if c.right {
			wantOut(t, "a group", l, err, terms(t, a, 32, share(a, groupOf(t, api.MeGex, c.g), a.Nonce(2, 0))))
			wantWaiting(t, "a group", x, 33, false)
			continue
		}
		wantFail(t, "no group", x, l, err, "kex: gex: range")
	}
}

// waitingClient returns a client that waits for the reply of a server with the nonce y, and the
// result to which that reply leads.
func waitingClient(t *testing.T, a *term.Arena, method string, y api.ID) (*kex.Exchange, api.Done) {
	t.Helper()
	x, d := calling(t, a, method, 0, api.None)
	if method == asks {
		d.Group = gex.Table()[2]
		if _, err := x.Take(offered(t, d.Group)); err != nil {
			t.Fatalf("Take: %v", err)
		}
	}
	return x, agreed(t, a, d, 0, y, api.None)
}

// 26.3: what is no share in the group, for a client, whatever the key and the signature are.
func TestClientShare(t *testing.T) {
	for _, method := range []string{curve, ecdh, asks} {
		a := term.New()
		y := a.Nonce(0, 3)
		_, d := waitingClient(t, a, method, y)
		right := reply(t, a, d, sign.Host(a, "ssh-ed25519", 1, d.Hash))
		key := value("\xf4\xf3\x00\x00\x00\x01")
		for _, s := range offers(t, a, groupOf(t, d.Method, d.Group)) {
			for _, l := range [][]api.Field{{key, value(s), value("x")}, {value(""), value(s), value("")}} {
				x, _ := waitingClient(t, a, method, y)
				got, err := x.Take(payload(t, int(right[0]), l...))
				wantFail(t, method, x, got, err, "kex: share: range")
			}
		}
		x, _ := waitingClient(t, a, method, y)
		l, err := x.Take(right)
		wantOut(t, "the right reply", l, err)
		if got, is := x.Done(); !is || got != d {
			t.Errorf("%+v, not %+v", got, d)
		}
	}
}

// 26.3: the host's key has to be that of the expected host, and the signature that of the hash.
func TestHost(t *testing.T) {
	for _, method := range []string{curve, ecdh, asks} {
		a := term.New()
		y := a.Nonce(0, 3)
		_, d := waitingClient(t, a, method, y)
		right := sign.Host(a, "ssh-ed25519", 1, d.Hash)
		check := func(what string, d api.Done, key, sig api.ID, text string) {
			t.Helper()
			d.Key = key
			x, _ := waitingClient(t, a, method, y)
			l, err := x.Take(reply(t, a, d, sig))
			wantFail(t, method+", "+what, x, l, err, text)
		}
		other := a.Pub(a.Key(2))
		for _, key := range []api.ID{other, a.Key(1), a.Data(""), a.Data("x"), a.List(d.Key), a.Hash(d.Key), a.Nonce(1, 0), d.Hash} {
			check("another key", d, key, right, "kex: host: key: host")
			check("another key, no signature", d, key, a.Data("x"), "kex: host: key: host")
		}
		// The other host signs the hash with its own key in it: all is right, but for whose it is.
		elsewhere := d
		elsewhere.Key = other
		elsewhere = complete(a, elsewhere, api.None)
		check("another host", elsewhere, other, sign.Host(a, "ssh-ed25519", 2, elsewhere.Hash), "kex: host: key: host")
		for _, sig := range []api.ID{
			sign.Host(a, "rsa-sha2-256", 1, d.Hash), sign.Host(a, "ssh-ed25519", 2, d.Hash), sign.Host(a, "ssh-ed25519", 1, a.Hash(d.Hash)), sign.User(a, d.Hash, "ann", "ssh-connection", "ssh-ed25519", 1),
			sign.Host(a, "ssh-ed25519", 1, elsewhere.Hash), a.List(right), a.Hash(right), d.Hash, d.Key, a.Data(""), a.Data("x"),
		} {
			check("another signature", d, d.Key, sig, "kex: host: signature: host")
		}
		for what, change := range changes(a) {
			e := d
			change(&e)
			e = complete(a, e, api.None)
			if e.Hash == d.Hash && d.Method == api.MeGex {
				t.Errorf("%s does not count", what)
			}
			if e.Hash != d.Hash {
				check("another hash: "+what, d, d.Key, sign.Host(a, "ssh-ed25519", 1, e.Hash), "kex: host: signature: host")
			}
		}
	}
}

// changes are changes of a result that make another hash of it, some only where a group is asked for.
func changes(a *term.Arena) map[string]func(d *api.Done) {
	return map[string]func(d *api.Done){
		"client's version":  func(d *api.Done) { d.VC += "x" },
		"server's version":  func(d *api.Done) { d.VS += "x" },
		"versions, swapped": func(d *api.Done) { d.VC, d.VS = d.VS, d.VC },
		"client's init":     func(d *api.Done) { d.IC += "x" },
		"server's init":     func(d *api.Done) { d.IS = d.IS[1:] },
		"inits, swapped":    func(d *api.Done) { d.IC, d.IS = d.IS, d.IC },
		"client's share":    func(d *api.Done) { d.E = a.Exp(d.E, a.Nonce(0, 0)) },
		"server's share":    func(d *api.Done) { d.F = d.E },
		"secret":            func(d *api.Done) { d.K = d.F },
		"least":             func(d *api.Done) { d.Wish[0]-- },
		"like":              func(d *api.Done) { d.Wish[1]++ },
		"most":              func(d *api.Done) { d.Wish[2]-- },
		"modulus":           func(d *api.Done) { d.Group.P += "\x01" },
		"generator":         func(d *api.Done) { d.Group.G = "\x03" },
	}
}

// 26.4: Ext is told by servers in the first exchange, if the client wants it, unless they fail.
func TestExt(t *testing.T) {
	for _, c := range []struct {
		server bool
		number int
		ext    bool
		want   bool
	}{{true, 0, true, true}, {true, 0, false, false}, {true, 1, true, false}, {true, 1, false, false}, {false, 0, true, false}, {false, 1, true, false}} {
		a := term.New()
		first := api.ID(api.None)
		if c.number > 0 {
			first = a.Data("s")
		}
		other := announced(!c.server, c.number, func(x *api.Init) { x.ExtC, x.ExtS = c.ext, true })
		x, _ := begun(t, a, with(c.server, curve), c.number, first)
		wantWaiting(t, "begun", x, 20, false)
		if _, err := x.Init(otherVersion, build(t, other)); err != nil || x.Ext() != c.want {
			t.Errorf("%+v: %v, %v", c, x.Ext(), err)
		}
		if !c.server {
			continue
		}
		if _, err := x.Take(terms(t, a, 30, share(a, "curve25519", a.Nonce(0, 0)))); err != nil {
			t.Errorf("Take: %v", err)
		}
		wantOver(t, "complete", x, c.want)
		x, _ = met(t, a, with(true, curve), c.number, first, other)
		l, err := x.Take("\x15")
		wantFail(t, "failed later", x, l, err, "kex: order")
		x, _ = begun(t, a, with(true, curve), c.number, first)
		l, err = x.Init(otherVersion, build(t, announced(false, c.number, func(x *api.Init) { x.ExtC, x.Prefs.CompS = c.ext, nil })))
		wantFail(t, "failed", x, l, err, "kex: choose: comp-s: alg")
	}
}

// R4: what a call answers is its own.
func TestMemory(t *testing.T) {
	a := term.New()
	c := conf.Plain(false, 5)
	c.Guess = true
	x, y := fresh(t, a, c, 1, 0, api.None), fresh(t, a, c, 1, 0, api.None)
	l, _ := x.Begin()
	want := slices.Clone(l)
	l[0], l[1] = "", ""
	if m, _ := y.Begin(); !slices.Equal(m, want) {
		t.Errorf("%q", m)
	}
	s, _ := met(t, a, conf.Plain(true, 5), 0, api.None, announced(false, 0, nil))
	r, err := s.Take(want[1])
	wantText(t, err, "", "Take")
	d, _ := s.Done()
	r[0] = ""
	if e, is := s.Done(); !is || e != d || d.IS == "" {
		t.Errorf("%+v, not %+v", e, d)
	}
}
