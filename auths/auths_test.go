package auths_test

import (
	"math"
	"slices"
	"strconv"
	"strings"
	"testing"

	"shibboleth/api"
	"shibboleth/auths"
	"shibboleth/conf"
	"shibboleth/fault"
	"shibboleth/field"
	"shibboleth/msg"
	"shibboleth/sign"
	"shibboleth/term"
)

const (
	service = "ssh-connection"
	alg     = "ssh-a"
	start   = "\x05\x00\x00\x00\x0cssh-userauth"
	started = "\x06\x00\x00\x00\x0cssh-userauth"
	refusal = "\x33\x00\x00\x00\x09publickey\x00"
	letIn   = "\x34"
)

// wantText checks an error by its text; the empty one is that of no error.
func wantText(t *testing.T, err error, text, what string) {
	t.Helper()
	if err == nil && text == "" {
		return
	}
	if err == nil || err.Error() != text {
		t.Errorf("%s: %v, not %q", what, err, text)
	}
}

// payload returns the payload of a message.
func payload(t *testing.T, num int, l ...api.Field) string {
	t.Helper()
	s, err := msg.Encode(api.Msg{Num: num, Fields: l})
	if err != nil {
		t.Fatalf("Encode: %v", err)
	}
	return s
}

func text(s string) api.Field {
	return api.Field{Kind: 's', S: s}
}

// bytes returns a string where a term may be.
func bytes(s string) api.Field {
	return api.Field{Kind: 't', S: s}
}

// of returns a term as a value.
func of(t *testing.T, a *term.Arena, x api.ID) api.Field {
	t.Helper()
	s, is := field.Bytes(a, x)
	if !is {
		t.Fatalf("no bytes of %d", x)
	}
	return bytes(s)
}

func pub(a *term.Arena, who int) api.ID {
	return a.Pub(a.Key(who))
}

// ask returns a request by a key, with a signature if there is one.
func ask(t *testing.T, user, service, method string, flag int, alg string, key api.Field, sig ...api.Field) string {
	t.Helper()
	return payload(t, 50, append([]api.Field{text(user), text(service), text(method), {Kind: 'b', N: flag}, text(alg), key}, sig...)...)
}

// query returns a right request without a signature.
func query(t *testing.T, a *term.Arena, user, alg string, who int) string {
	t.Helper()
	return ask(t, user, service, "publickey", 0, alg, of(t, a, pub(a, who)))
}

// signed returns a right request with a signature.
func signed(t *testing.T, a *term.Arena, sid api.ID, user, alg string, who int) string {
	t.Helper()
	return ask(t, user, service, "publickey", 1, alg, of(t, a, pub(a, who)), of(t, a, sign.User(a, sid, user, service, alg, who)))
}

// none returns a request by no key.
func none(t *testing.T, user, service, method string) string {
	t.Helper()
	return payload(t, 50, text(user), text(service), text(method))
}

// welcome returns the answer to a query.
func welcome(t *testing.T, a *term.Arena, alg string, who int) string {
	t.Helper()
	return payload(t, 60, text(alg), of(t, a, pub(a, who)))
}

// with returns a server's configuration: "ann" has the keys 3 and 8, "bob" has the keys 3 and 0.
func with(limit int) api.Conf {
	c := conf.Plain(true, 1)
	c.Grants = []api.Grant{{User: "ann", Who: 3}, {User: "ann", Who: 8}, {User: "bob", Who: 3}, {User: "bob", Who: 0}}
	c.Algs, c.Limit = []string{alg, "ssh-b"}, limit
	return c
}

// server returns a server that there has to be.
func server(t *testing.T, a *term.Arena, c api.Conf, sid api.ID) *auths.Server {
	t.Helper()
	x, err := auths.New(a, c, sid)
	if err != nil {
		t.Fatalf("New: %v", err)
	}
	return x
}

// serving returns a server that has accepted the service.
func serving(t *testing.T, a *term.Arena, limit int, sid api.ID) *auths.Server {
	t.Helper()
	x := server(t, a, with(limit), sid)
	wantSent(t, x, start, started)
	return x
}

// wantSent checks that a message is answered with one payload, or with none if that is empty, and
// which event occurs.
func wantSent(t *testing.T, x *auths.Server, in, out string, events ...api.Event) {
	t.Helper()
	l, h, err := x.Take(in)
	var want []string
	if out != "" {
		want = []string{out}
	}
	if err != nil || !slices.Equal(l, want) || !slices.Equal(h, events) {
		t.Errorf("Take(%.60q): %.90q, %+v, %v, not %.90q, %+v", in, l, h, err, out, events)
	}
}

// wantRefused checks that a message is refused, and that this is counted.
func wantRefused(t *testing.T, x *auths.Server, in string) {
	t.Helper()
	before := x.Failures()
	wantSent(t, x, in, refusal)
	if x.Failures() != before+1 || x.In() {
		t.Errorf("Take(%.60q): %d failures, then %d", in, before, x.Failures())
	}
}

// wantFail checks that a message makes a server fail with an error of that text.
func wantFail(t *testing.T, x *auths.Server, in, text string) {
	t.Helper()
	failures := x.Failures()
	l, h, err := x.Take(in)
	wantText(t, err, text, "Take "+strconv.Quote(in[:min(len(in), 20)]))
	if len(l) != 0 || len(h) != 0 {
		t.Errorf("Take(%.20q): %q, %v beside an error", in, l, h)
	}
	wantFailed(t, x, failures)
}

// wantFailed checks that a server has failed after some failures.
func wantFailed(t *testing.T, x *auths.Server, failures int) {
	t.Helper()
	for _, in := range []string{"", start, none(t, "ann", service, "none"), none(t, "ann", "", ""), letIn} {
		if x.In() || x.Failures() != failures {
			t.Errorf("it has not failed: %v, %d", x.In(), x.Failures())
		}
		l, h, err := x.Take(in)
		wantText(t, err, "auths: order", "Take of what has failed")
		if len(l) != 0 || len(h) != 0 {
			t.Errorf("of what has failed: %q, %v", l, h)
		}
	}
}

// 28.1: the configuration's error comes first, then what else is no argument.
func TestNew(t *testing.T) {
	a := term.New()
	sid := a.Hash(a.Data("s"))
	check := func(a *term.Arena, c api.Conf, sid api.ID, text string) {
		t.Helper()
		x, err := auths.New(a, c, sid)
		wantText(t, err, text, "New")
		if (x == nil) != (err != nil) || x.In() || x.Failures() != 0 {
			t.Errorf("%v, %v", x, err)
		}
	}
	for _, arena := range []*term.Arena{a, nil} {
		for _, session := range []api.ID{sid, api.None} {
			check(arena, conf.Plain(true, -1), session, "auths: conf: own: range")
			check(arena, conf.Plain(false, 16), session, "auths: conf: peer: range")
			check(arena, with(0), session, "auths: conf: deny: limit: range")
			check(arena, conf.Plain(false, 1), session, "auths: arg")
		}
	}
	check(nil, with(1), sid, "auths: arg")
	check(nil, with(1), 0, "auths: arg")
	check(new(term.Arena), with(1), 0, "auths: arg")
	for _, session := range []api.ID{api.None, -2, math.MinInt, api.ID(a.Len()), api.ID(a.Len() + 9), 1 << 32, math.MaxInt} {
		check(a, with(1), session, "auths: arg")
	}
	for session := range a.Len() {
		check(a, with(1), api.ID(session), "")
	}
}

// 28.1: the server has a configuration of its own.
func TestCopy(t *testing.T) {
	a := term.New()
	c := with(2)
	x := server(t, a, c, a.Data("s"))
	c.Grants[0], c.Grants[1], c.Algs[0], c.Algs[1] = api.Grant{User: "eve", Who: 9}, api.Grant{}, "x", "y"
	wantSent(t, x, start, started)
	wantSent(t, x, query(t, a, "ann", alg, 3), welcome(t, a, alg, 3))
	wantSent(t, x, query(t, a, "ann", "ssh-b", 8), welcome(t, a, "ssh-b", 8))
	wantRefused(t, x, query(t, a, "eve", alg, 9))
	// Nor do two servers share their gate.
	y := serving(t, a, 2, a.Data("s"))
	if x.Failures() != 1 || y.Failures() != 0 {
		t.Errorf("%d, %d", x.Failures(), y.Failures())
	}
}

// 28.2: the service is accepted once, and no other one.
func TestService(t *testing.T) {
	a := term.New()
	for _, s := range []string{"", service, "ssh-userauth ", "SSH-USERAUTH", "none"} {
		x := server(t, a, with(3), a.Data("s"))
		_, _, err := x.Take(payload(t, 5, text(s)))
		wantText(t, err, "auths: service: service", s)
		if fault.Code(err) != api.ErrService || fault.Reason(err) != 7 || !slices.Equal(fault.Path(err), []string{"auths", "service"}) {
			t.Errorf("%v, %d, %q", fault.Code(err), fault.Reason(err), fault.Path(err))
		}
		wantFailed(t, x, 0)
	}
	for _, again := range []string{start, payload(t, 5, text("other"))} {
		wantFail(t, serving(t, a, 3, a.Data("s")), again, "auths: order")
	}
}

// A stage is a state of a server.
type stage struct {
	what string
	of   func(t *testing.T, a *term.Arena, sid api.ID) *auths.Server
}

func stages() []stage {
	return []stage{
		{"no service", func(t *testing.T, a *term.Arena, sid api.ID) *auths.Server { return server(t, a, with(3), sid) }},
		{"serving", func(t *testing.T, a *term.Arena, sid api.ID) *auths.Server { return serving(t, a, 3, sid) }},
		{"refused", func(t *testing.T, a *term.Arena, sid api.ID) *auths.Server {
			x := serving(t, a, 3, sid)
			wantRefused(t, x, none(t, "ann", service, "none"))
			return x
		}},
		{"queried", func(t *testing.T, a *term.Arena, sid api.ID) *auths.Server {
			x := serving(t, a, 3, sid)
			wantSent(t, x, query(t, a, "ann", alg, 8), welcome(t, a, alg, 8))
			return x
		}},
		{"in", func(t *testing.T, a *term.Arena, sid api.ID) *auths.Server { return within(t, a, sid) }},
	}
}

// within returns a server that has let "ann" in by her key 8, after a failure.
func within(t *testing.T, a *term.Arena, sid api.ID) *auths.Server {
	t.Helper()
	x := serving(t, a, 3, sid)
	wantRefused(t, x, none(t, "ann", service, "none"))
	wantSent(t, x, signed(t, a, sid, "ann", alg, 8), letIn, accepted(sid, "ann", alg, 8))
	return x
}

// accepted returns the event that a user was let in.
func accepted(sid api.ID, user, alg string, who int) api.Event {
	return api.Event{Kind: api.EvAccept, Who: who, User: user, Service: service, Alg: alg, Sid: sid}
}

// 28.2: what is no message, or none for a server, in each state.
func TestOtherMessages(t *testing.T) {
	bad := map[string]string{
		"":                                       "auths: message: short",
		strings.Repeat("\x05", api.MaxPayload+1): "auths: message: long",
		"\x00":                                   "auths: message: none",
		"\xff":                                   "auths: message: none",
		"\x05":                                   "auths: service-request: 0: short",
		start + "x":                              "auths: service-request: end: form",
		"\x32":                                   "auths: userauth-request: 0: short",
		none(t, "ann", service, "none") + "x":    "auths: userauth-request: end: form",
		"\x15x":                                  "auths: newkeys: end: form",
	}
	u, b, k := api.Field{Kind: 'u'}, api.Field{Kind: 'b'}, bytes("k")
	for _, in := range []string{
		payload(t, 1, u, text(""), text("")), payload(t, 2, text("")), payload(t, 3, u), payload(t, 4, b, text(""), text("")), started, payload(t, 7, api.Field{Kind: 'e'}), payload(t, 21),
		payload(t, 30, k), payload(t, 31, k, k, k), payload(t, 34, u, u, u), refusal, letIn, payload(t, 53, text(""), text("")), payload(t, 60, text(alg), k),
	} {
		bad[in] = "auths: order"
	}
	for _, s := range stages() {
		for in, text := range bad {
			a := term.New()
			wantFail(t, s.of(t, a, a.Data("s")), in, text)
		}
	}
}

// 28.2: before the service was accepted, each request is out of order.
func TestBeforeService(t *testing.T) {
	a := term.New()
	sid := a.Data("s")
	for _, in := range []string{
		none(t, "ann", service, "none"), none(t, "ann", "other", "none"), query(t, a, "ann", alg, 3), signed(t, a, sid, "ann", alg, 3), ask(t, "ann", service, "publickey", 1, alg, bytes("")),
	} {
		wantFail(t, server(t, a, with(1), sid), in, "auths: order")
	}
}

// 28.2: queries and signatures, refused or not, and who is let in then.
func TestDialog(t *testing.T) {
	a := term.New()
	sid := a.Hash(a.Data("s"))
	x := serving(t, a, 9, sid)
	wantRefused(t, x, none(t, "ann", service, "none"))
	wantRefused(t, x, query(t, a, "ann", alg, 4))
	wantSent(t, x, query(t, a, "bob", alg, 3), welcome(t, a, alg, 3))
	wantSent(t, x, query(t, a, "ann", "ssh-b", 3), welcome(t, a, "ssh-b", 3))
	wantRefused(t, x, signed(t, a, a.Data("other"), "bob", "ssh-b", 0))
	wantSent(t, x, query(t, a, "bob", alg, 3), welcome(t, a, alg, 3))
	if x.In() || x.Failures() != 3 {
		t.Errorf("%v, %d", x.In(), x.Failures())
	}
	// It need not be what was asked last.
	wantSent(t, x, signed(t, a, sid, "bob", "ssh-b", 0), letIn, accepted(sid, "bob", "ssh-b", 0))
	if !x.In() || x.Failures() != 3 {
		t.Errorf("%v, %d", x.In(), x.Failures())
	}
}

// 28.2, 28.4: a user is let in by exactly those keys that a grant gives, and accepted algorithms.
func TestGrants(t *testing.T) {
	a := term.New()
	sid := a.Data("s")
	c := with(1)
	for _, user := range []string{"ann", "bob", "eve", "", "a", "annn", "Ann"} {
		for who := range 20 {
			for _, name := range []string{alg, "ssh-b", "ssh-c", "ssh-a,ssh-b", "x"} {
				right := slices.Contains(c.Grants, api.Grant{User: user, Who: who}) && slices.Contains(c.Algs, name)
				asked, logged := serving(t, a, 2, sid), serving(t, a, 2, sid)
				if !right {
					wantRefused(t, asked, query(t, a, user, name, who))
					wantRefused(t, logged, signed(t, a, sid, user, name, who))
					continue
				}
				wantSent(t, asked, query(t, a, user, name, who), welcome(t, a, name, who))
				wantSent(t, logged, signed(t, a, sid, user, name, who), letIn, accepted(sid, user, name, who))
				if asked.In() || !logged.In() || asked.Failures() != 0 || logged.Failures() != 0 {
					t.Errorf("%q, %q, %d: %v, %v", user, name, who, asked.In(), logged.In())
				}
			}
		}
	}
}

// 28.2: a string that is no public key is nobody's.
func TestNoKey(t *testing.T) {
	a := term.New()
	sid, key := a.Data("s"), pub(a, 3)
	sig := of(t, a, sign.User(a, sid, "ann", service, alg, 3))
	x, y := serving(t, a, 20, sid), serving(t, a, 20, sid)
	right := of(t, a, key).S
	for _, k := range []api.Field{
		bytes(""), bytes("x"), bytes(right + "x"), bytes(right[1:]), bytes(right[:5]), bytes("\xf4"), bytes(right + right), of(t, a, a.Data("x")),
		of(t, a, a.Hash(key)), of(t, a, a.List(key)), of(t, a, a.Nonce(3, 3)), of(t, a, a.List()), of(t, a, a.Sign(alg, a.Key(3), key)), sig,
	} {
		wantRefused(t, x, ask(t, "ann", service, "publickey", 0, alg, k))
		wantRefused(t, y, ask(t, "ann", service, "publickey", 1, alg, k, sig))
	}
}

// 28.2, 28.4: the signature has to be on this very request, of this session.
func TestSignature(t *testing.T) {
	a := term.New()
	sid := a.Hash(a.Data("s"))
	key := of(t, a, pub(a, 3))
	request := sign.Request(a, sid, "ann", service, alg, pub(a, 3))
	for _, sig := range []api.ID{
		sign.User(a, a.Hash(a.Data("t")), "ann", service, alg, 3), sign.User(a, sid, "bob", service, alg, 3), sign.User(a, sid, "ann", "ssh-userauth", alg, 3), sign.User(a, sid, "ann", service, "ssh-b", 3),
		sign.User(a, sid, "ann", service, alg, 8), a.Sign(alg, a.Key(8), request), a.Sign("ssh-b", a.Key(3), request), sign.Host(a, alg, 3, sid), sign.Host(a, alg, 3, a.Hash(request)),
		request, a.Hash(request), a.Key(3), pub(a, 3), a.Data(""), a.Data("x"), a.List(sign.User(a, sid, "ann", service, alg, 3)),
	} {
		x := serving(t, a, 2, sid)
		wantRefused(t, x, ask(t, "ann", service, "publickey", 1, alg, key, of(t, a, sig)))
		wantSent(t, x, signed(t, a, sid, "ann", alg, 3), letIn, accepted(sid, "ann", alg, 3))
	}
	// No request of a session whose identifier is that long can be signed.
	long := a.Data(strings.Repeat("s", api.MaxTerm-5))
	x := serving(t, a, 2, long)
	wantRefused(t, x, ask(t, "ann", service, "publickey", 1, alg, key, bytes("")))
	wantSent(t, x, query(t, a, "ann", alg, 3), welcome(t, a, alg, 3))
}

// 28.2: each request's number of fields, with each value of the fourth, and which error comes first.
func TestForms(t *testing.T) {
	a := term.New()
	sid := a.Data("s")
	right, sig := of(t, a, pub(a, 3)), of(t, a, sign.User(a, sid, "ann", service, alg, 3))
	const (
		refused = "refused"
		form    = "auths: signed: form"
		other   = "auths: service: service"
	)
	for _, c := range []struct {
		what, in, want string
	}{
		{"three fields, none", none(t, "ann", service, "none"), refused},
		{"three fields, publickey", none(t, "ann", service, "publickey"), refused},
		{"three fields, another service", none(t, "ann", "other", "publickey"), other},
		{"three fields, the first service", none(t, "ann", "ssh-userauth", "none"), other},
		{"six fields, 0", ask(t, "ann", service, "publickey", 0, alg, right), ""},
		{"six fields, 1", ask(t, "ann", service, "publickey", 1, alg, right), form},
		{"six fields, 1, no key", ask(t, "ann", service, "publickey", 1, alg, bytes("")), form},
		{"six fields, 1, eve", ask(t, "eve", service, "publickey", 1, "x", right), form},
		{"six fields, 0, another method", ask(t, "ann", service, "password", 0, alg, right), refused},
		{"six fields, 1, another method", ask(t, "ann", service, "password", 1, alg, right), refused},
		{"six fields, 1, another service", ask(t, "ann", "", "publickey", 1, alg, right), other},
		{"six fields, another service and method", ask(t, "ann", "x", "x", 0, alg, right), other},
		{"six fields, another service", ask(t, "ann", "ssh-userauth", "publickey", 0, alg, right), other},
		{"seven fields, 0", ask(t, "ann", service, "publickey", 0, alg, right, sig), form},
		{"seven fields, 0, no signature", ask(t, "ann", service, "publickey", 0, alg, right, bytes("")), form},
		{"seven fields, 0, eve", ask(t, "eve", service, "publickey", 0, alg, right, sig), form},
		{"seven fields, 0, another method", ask(t, "ann", service, "hostbased", 0, alg, right, sig), refused},
		{"seven fields, 1, another method", ask(t, "ann", service, "", 1, alg, right, sig), refused},
		{"seven fields, 1, another service", ask(t, "ann", "x", "publickey", 1, alg, right, sig), other},
		{"seven fields, 0, another service", ask(t, "ann", "x", "publickey", 0, alg, right, sig), other},
		{"seven fields, 1", ask(t, "ann", service, "publickey", 1, alg, right, sig), ""},
	} {
		x := serving(t, a, 2, sid)
		switch c.want {
		case refused:
			wantRefused(t, x, c.in)
		case "":
			if l, _, err := x.Take(c.in); err != nil || len(l) != 1 || l[0] == refusal || x.Failures() != 0 {
				t.Errorf("%s: %q, %v", c.what, l, err)
			}
		default:
			wantFail(t, x, c.in, c.want)
		}
	}
}

// 28.2, 28.3, example 1: the limit is reached by refusals of all kinds; then the server gives up.
func TestLimit(t *testing.T) {
	a := term.New()
	sid := a.Data("s")
	refusals := []string{
		none(t, "ann", service, "none"), query(t, a, "ann", alg, 4), signed(t, a, a.Data("t"), "ann", alg, 3), ask(t, "ann", service, "x", 1, alg, bytes("")), query(t, a, "ann", "x", 3), signed(t, a, sid, "eve", alg, 3),
	}
	for limit := 1; limit <= api.MaxTries; limit++ {
		for first := range refusals {
			x := serving(t, a, limit, sid)
			for n := range limit - 1 {
				wantRefused(t, x, refusals[(first+n)%len(refusals)])
				wantSent(t, x, query(t, a, "ann", alg, 3), welcome(t, a, alg, 3))
			}
			l, h, err := x.Take(refusals[(first+limit-1)%len(refusals)])
			wantText(t, err, "auths: limit: auth", "the last one")
			if len(l) != 0 || len(h) != 0 || fault.Reason(err) != 14 {
				t.Errorf("%q, %v, %d", l, h, fault.Reason(err))
			}
			wantFailed(t, x, limit)
			if _, _, err := x.Take(signed(t, a, sid, "ann", alg, 3)); err == nil || x.In() {
				t.Errorf("after the limit: %v", err)
			}
		}
	}
}

// 28.2, 28.4: after a user was let in, requests are ignored, whatever they ask for.
func TestWithin(t *testing.T) {
	a := term.New()
	sid := a.Data("s")
	x := within(t, a, sid)
	for _, in := range []string{
		signed(t, a, sid, "ann", alg, 8), signed(t, a, sid, "bob", "ssh-b", 0), query(t, a, "ann", alg, 3), query(t, a, "eve", alg, 3), none(t, "ann", service, "none"),
		none(t, "ann", "other", "none"), ask(t, "ann", service, "publickey", 1, alg, bytes("")), ask(t, "ann", service, "x", 0, alg, bytes("")), signed(t, a, a.Data("t"), "ann", alg, 8),
	} {
		for range 3 {
			wantSent(t, x, in, "")
			if !x.In() || x.Failures() != 1 {
				t.Errorf("%v, %d", x.In(), x.Failures())
			}
		}
	}
	wantFail(t, x, start, "auths: order")
	wantFail(t, within(t, a, sid), payload(t, 5, text("other")), "auths: order")
}

// A nil Server, and the zero one.
func TestNil(t *testing.T) {
	wantFailed(t, nil, 0)
	wantFailed(t, &auths.Server{}, 0)
}
