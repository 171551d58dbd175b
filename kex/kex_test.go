package kex_test

import (
	"math"
	"slices"
	"strconv"
	"testing"

	"shibboleth/api"
	"shibboleth/code"
	"shibboleth/conf"
	"shibboleth/fault"
	"shibboleth/field"
	"shibboleth/gex"
	"shibboleth/kex"
	"shibboleth/kexinit"
	"shibboleth/keys"
	"shibboleth/msg"
	"shibboleth/prefs"
	"shibboleth/sign"
	"shibboleth/term"
	"shibboleth/trans"
)

// The names of the three methods.
const (
	curve = "curve25519-sha256"
	ecdh  = "ecdh-sha2-nistp256"
	asks  = "diffie-hellman-group-exchange-sha256"
)

// last is the greatest number of an exchange.
const last = 1073741822

const otherVersion = "SSH-2.0-other"

// wantText checks an error by its text; the empty one is that of no error.
func wantText(t *testing.T, err error, text, what string) {
	t.Helper()
	if err == nil && text == "" {
		return
	}
	if err == nil || err.Error() != text {
		t.Errorf("%s: %v, not %q", what, err, text)
	}
}

// wantOut checks what a call has answered.
func wantOut(t *testing.T, what string, got []string, err error, want ...string) {
	t.Helper()
	if err != nil || !slices.Equal(got, want) {
		t.Errorf("%s: %.60q, %v, not %.60q", what, got, err, want)
	}
}

// wantFail checks that a call has failed with an error of that text, and that the exchange is
// one that has failed.
func wantFail(t *testing.T, what string, x *kex.Exchange, got []string, err error, text string) {
	t.Helper()
	wantText(t, err, text, what)
	if len(got) != 0 {
		t.Errorf("%s: %.60q beside an error", what, got)
	}
	wantFailed(t, what, x)
}

// wantFailed checks that an exchange accepts nothing and has come to nothing.
func wantFailed(t *testing.T, what string, x *kex.Exchange) {
	t.Helper()
	for range 2 {
		if d, is := x.Done(); x.Wants() != 0 || x.Over() || is || d != (api.Done{}) || x.Ext() {
			t.Errorf("%s: it has not failed: %d, %v, %+v, %v", what, x.Wants(), x.Over(), d, x.Ext())
		}
		for i, call := range calls(x) {
			if l, err := call(); len(l) != 0 || err == nil || err.Error() != "kex: order" {
				t.Errorf("%s: call %d of what has failed: %q, %v", what, i, l, err)
			}
		}
	}
}

// calls returns the three calls that change an exchange, with arguments of all kinds.
func calls(x *kex.Exchange) []func() ([]string, error) {
	return []func() ([]string, error){
		x.Begin,
		func() ([]string, error) { return x.Init(otherVersion, "") },
		func() ([]string, error) { return x.Init("", "") },
		func() ([]string, error) { return x.Take("\x14") },
		func() ([]string, error) { return x.Take("") },
	}
}

// payload returns the payload of a message.
func payload(t *testing.T, num int, l ...api.Field) string {
	t.Helper()
	s, err := msg.Encode(api.Msg{Num: num, Fields: l})
	if err != nil {
		t.Fatalf("Encode: %v", err)
	}
	return s
}

// terms returns the payload of a message whose fields are terms.
func terms(t *testing.T, a *term.Arena, num int, l ...api.ID) string {
	t.Helper()
	var fields []api.Field
	for _, x := range l {
		s, is := field.Bytes(a, x)
		if !is {
			t.Fatalf("no bytes of %d", x)
		}
		fields = append(fields, api.Field{Kind: 't', S: s})
	}
	return payload(t, num, fields...)
}

// wish returns the payload by which a client asks for a group.
func wish(t *testing.T, least, like, most int) string {
	t.Helper()
	return payload(t, 34, api.Field{Kind: 'u', N: least}, api.Field{Kind: 'u', N: like}, api.Field{Kind: 'u', N: most})
}

// offered returns the payload by which a server offers a group.
func offered(t *testing.T, g api.Group) string {
	t.Helper()
	return payload(t, 31, api.Field{Kind: 'm', S: g.P}, api.Field{Kind: 'm', S: g.G})
}

// build returns the payload of an initialization.
func build(t *testing.T, x api.Init) string {
	t.Helper()
	s, err := kexinit.Build(x)
	if err != nil {
		t.Fatalf("Build: %v", err)
	}
	return s
}

// fresh returns an exchange that there has to be.
func fresh(t *testing.T, a *term.Arena, c api.Conf, session, number int, first api.ID) *kex.Exchange {
	t.Helper()
	x, err := kex.New(a, c, session, number, first)
	if err != nil {
		t.Fatalf("New: %v", err)
	}
	return x
}

// share returns a share in a group, with one exponent.
func share(a *term.Arena, group string, x api.ID) api.ID {
	return a.Exp(a.Base(group), x)
}

// groupOf returns the name of the group of a method: for the one that asks for a group, of g.
func groupOf(t *testing.T, method int, g api.Group) string {
	t.Helper()
	if name, is := gex.Curve(method); is {
		return name
	}
	name, e := gex.Name(g)
	if e != api.OK {
		t.Fatalf("Name: %v", e)
	}
	return name
}

// complete returns a whole result, of which what is neither derived nor hashed is given.
func complete(a *term.Arena, d api.Done, first api.ID) api.Done {
	d.Hash = trans.Hash(a, trans.Parts{
		VC: d.VC, VS: d.VS, IC: d.IC, IS: d.IS, Key: d.Key, Asks: d.Method == api.MeGex, Wish: d.Wish, Group: d.Group, E: d.E, F: d.F, K: d.K,
	})
	d.Session = first
	if first == api.None {
		d.Session = d.Hash
	}
	d.Up, d.Down = keys.Both(a, d.K, d.Hash, d.Session)
	return d
}

// 26.1: the configuration's error comes first.
func TestNewConf(t *testing.T) {
	a := term.New()
	bad := conf.Plain(true, 16)
	for _, arena := range []*term.Arena{a, nil} {
		for _, number := range []int{0, -1} {
			x, err := kex.New(arena, bad, number, number, api.None)
			wantText(t, err, "kex: conf: own: range", "a wrong configuration")
			if x != nil {
				t.Errorf("an exchange beside an error")
			}
		}
	}
	bad = conf.Plain(false, 1)
	bad.Prefs.EncS = []string{"a", "a"}
	_, err := kex.New(a, bad, 1, 0, api.None)
	wantText(t, err, "kex: conf: prefs: enc-s: form", "wrong preferences")
	if fault.Code(err) != api.ErrForm || !slices.Equal(fault.Path(err), []string{"kex", "conf", "prefs", "enc-s"}) {
		t.Errorf("%v, %q", fault.Code(err), fault.Path(err))
	}
}

// 26.1: the arena, the numbers, and the session identifier.
func TestNewArguments(t *testing.T) {
	a := term.New()
	sid := a.Hash(a.Data("s"))
	for _, server := range []bool{false, true} {
		c := conf.Plain(server, 1)
		check := func(arena *term.Arena, session, number int, first api.ID, right bool) {
			t.Helper()
			x, err := kex.New(arena, c, session, number, first)
			if right {
				wantText(t, err, "", "New")
				_, err = x.Begin()
				wantText(t, err, "", "Begin")
				return
			}
			wantText(t, err, "kex: arg", "New "+strconv.Itoa(session)+" "+strconv.Itoa(number)+" "+strconv.Itoa(int(first)))
			if x != nil {
				t.Errorf("an exchange beside an error")
			}
		}
		check(nil, 1, 0, api.None, false)
		check(nil, 1, 1, sid, false)
		check(new(term.Arena), 1, 0, api.None, true)
		check(new(term.Arena), 1, 1, sid, false)
		for _, session := range []int{0, 1, api.MaxSessions, api.MaxNumber - 1} {
			check(a, session, 0, api.None, true)
		}
		for _, session := range []int{-1, -2, math.MinInt, api.MaxNumber, api.MaxNumber + 1, 1 << 32, math.MaxInt} {
			check(a, session, 0, api.None, false)
			check(a, session, 1, sid, false)
		}
		for _, number := range []int{1, 2, last - 1, last} {
			check(a, 1, number, sid, true)
			check(a, 1, number, 0, true)
			for _, first := range []api.ID{api.None, -2, math.MinInt, api.ID(a.Len()), api.ID(a.Len() + 9), math.MaxInt} {
				check(a, 1, number, first, false)
			}
		}
		for _, number := range []int{-1, -2, math.MinInt, last + 1, last + 2, api.MaxNumber, 1 << 32, 1<<32 + 1, math.MaxInt} {
			check(a, 1, number, sid, false)
			check(a, 1, number, api.None, false)
		}
		for _, first := range []api.ID{0, sid, -2, math.MinInt, api.ID(a.Len()), math.MaxInt} {
			check(a, 1, 0, first, false)
		}
	}
}

// 26.1: the exchange has a configuration of its own.
func TestNewCopy(t *testing.T) {
	a := term.New()
	for _, server := range []bool{false, true} {
		c := conf.Plain(server, 1)
		c.Guess = true
		x, y := fresh(t, a, c, 1, 0, api.None), fresh(t, a, c, 1, 0, api.None)
		want, err := y.Begin()
		wantText(t, err, "", "Begin")
		c.Prefs.Kex[0], c.Prefs.Host[1], c.Prefs.CompS[0] = asks, "x", "y"
		got, err := x.Begin()
		wantOut(t, "Begin", got, err, want...)
	}
}

// A scenario is what a client and a server prefer, and what comes of it.
type scenario struct {
	name           string
	client, server []string // the methods
	hosts          []string // the server's host key algorithms
	guess          bool
	method         int
	host           string
	right          bool // whether the guess is, or would be
}

func scenarios() []scenario {
	const ed, rsa = "ssh-ed25519", "rsa-sha2-256" // the client's
	return []scenario{
		{"curve", []string{curve}, []string{curve, ecdh}, []string{ed}, false, api.MeCurve, ed, true},
		{"ecdh", []string{ecdh, curve}, []string{ecdh}, []string{ed}, false, api.MeEcdh, ed, true},
		{"asking", []string{asks}, []string{asks}, []string{ed}, false, api.MeGex, ed, true},
		{"curve, guessed", []string{curve, asks}, []string{curve}, []string{ed, rsa}, true, api.MeCurve, ed, true},
		{"ecdh, guessed", []string{ecdh, curve}, []string{ecdh, curve}, []string{ed}, true, api.MeEcdh, ed, true},
		{"asking, guessed", []string{asks, curve}, []string{asks, curve}, []string{ed}, true, api.MeGex, ed, true},
		{"curve, guessed in vain: ecdh", []string{curve, ecdh}, []string{ecdh}, []string{ed}, true, api.MeEcdh, ed, false},
		{"curve, guessed in vain: asking", []string{curve, asks}, []string{asks}, []string{ed}, true, api.MeGex, ed, false},
		{"asking, guessed in vain: curve", []string{asks, curve}, []string{curve}, []string{ed}, true, api.MeCurve, ed, false},
		{"curve, guessed in vain: the server likes ecdh", []string{curve, ecdh}, []string{ecdh, curve}, []string{ed}, true, api.MeCurve, ed, false},
		{"asking, guessed in vain: the server likes curve", []string{asks, curve}, []string{curve, asks}, []string{ed}, true, api.MeGex, ed, false},
		{"curve, guessed in vain: another host key", []string{curve}, []string{curve}, []string{rsa}, true, api.MeCurve, rsa, false},
		{"asking, guessed in vain: the server likes rsa", []string{asks}, []string{asks}, []string{rsa, ed}, true, api.MeGex, ed, false},
		{"not guessed, and not right", []string{curve, asks}, []string{asks, ecdh}, []string{rsa}, false, api.MeGex, rsa, false},
	}
}

// confs returns a client and a server of a scenario, of the host 5.
func (s scenario) confs() (client, server api.Conf) {
	client, server = conf.Plain(false, 5), conf.Plain(true, 5)
	client.Prefs.Kex, client.Guess, client.Wish = s.client, s.guess, [3]uint32{1024, 2048, 4096}
	server.Prefs.Kex, server.Prefs.Host = s.server, s.hosts
	server.Software, server.Comment = "served", "by 5"
	server.Guess, server.Ext, client.Own = true, true, 9 // of the other role
	return client, server
}

// result returns the result of a scenario.
func (s scenario) result(t *testing.T, a *term.Arena, sessions [2]int, number int, first api.ID) api.Done {
	client, server := s.confs()
	d := api.Done{
		VC: conf.Version(client), VS: conf.Version(server),
		IC: build(t, conf.Init(client, sessions[0], number)), IS: build(t, conf.Init(server, sessions[1], number)),
		Choice: api.Choice{Kex: prefs.Name(s.method), Host: s.host, EncC: "aes256-gcm", EncS: "aes256-gcm", MacC: "hmac-sha2-256", MacS: "hmac-sha2-256", CompC: "none", CompS: "none"},
		Method: s.method, Key: a.Pub(a.Key(5)),
	}
	if s.method == api.MeGex {
		d.Wish, d.Group = client.Wish, gex.Table()[1]
	}
	nonce := 2 * number
	if s.guess && !s.right {
		nonce++
	}
	x, y := a.Nonce(sessions[0]+1, nonce), a.Nonce(sessions[1]+1, 2*number)
	group := groupOf(t, s.method, d.Group)
	d.E, d.F = share(a, group, x), share(a, group, y)
	d.K = a.Exp(d.E, y)
	return complete(a, d, first)
}

// guessed returns what the client sends as its guess.
func (s scenario) guessed(t *testing.T, a *term.Arena, session, number int) string {
	if s.client[0] == asks {
		return wish(t, 1024, 2048, 4096)
	}
	group := groupOf(t, prefs.Method(s.client[0]), api.Group{})
	return terms(t, a, 30, share(a, group, a.Nonce(session+1, 2*number)))
}

// 26.2 to 26.5: all that is said in each scenario, and that both come to the same result.
func TestScenarios(t *testing.T) {
	for _, s := range scenarios() {
		for _, sessions := range [][2]int{{1, 2}, {0, api.MaxNumber - 1}, {3, 3}} {
			for _, number := range []int{0, 1, 2, last} {
				t.Run(s.name+" "+strconv.Itoa(number), func(t *testing.T) { s.play(t, sessions, number) })
			}
		}
	}
}

// play plays a scenario.
func (s scenario) play(t *testing.T, sessions [2]int, number int) {
	a := term.New()
	first := api.ID(api.None)
	if number > 0 {
		first = a.Hash(a.Data("the first one"))
	}
	d := s.result(t, a, sessions, number, first)
	cc, sc := s.confs()
	c, x := fresh(t, a, cc, sessions[0], number, first), fresh(t, a, sc, sessions[1], number, first)
	wantWaiting(t, "created", c, 0, false)
	wantWaiting(t, "created", x, 0, false)

	said := []string{d.IC}
	if s.guess {
		said = append(said, s.guessed(t, a, sessions[0], number))
	}
	l, err := c.Begin()
	wantOut(t, "the client's beginning", l, err, said...)
	l, err = x.Begin()
	wantOut(t, "the server's beginning", l, err, d.IS)
	wantWaiting(t, "begun", c, 20, false)
	wantWaiting(t, "begun", x, 20, false)

	opening := wish(t, 1024, 2048, 4096)
	if s.method != api.MeGex {
		opening = terms(t, a, 30, d.E)
	}
	wants := map[bool]int{false: 30, true: 34}[s.method == api.MeGex]
	l, err = c.Init(d.VS, d.IS)
	if s.guess && s.right {
		wantOut(t, "the client, met", l, err)
	} else {
		wantOut(t, "the client, met", l, err, opening)
	}
	l, err = x.Init(d.VC, d.IC)
	wantOut(t, "the server, met", l, err)
	wantWaiting(t, "met", c, 31, false)
	wantWaiting(t, "met", x, wants, number == 0)
	if s.guess && !s.right {
		l, err = x.Take(said[1])
		wantOut(t, "a wrong guess", l, err)
		wantWaiting(t, "a wrong guess", x, wants, number == 0)
	}
	s.exchange(t, a, c, x, d, opening)
	if got, is := c.Done(); !is || got != d {
		t.Errorf("the client's result: %v, %+v, not %+v", is, got, d)
	}
	if got, is := x.Done(); !is || got != d {
		t.Errorf("the server's result: %v, %+v, not %+v", is, got, d)
	}
}

// exchange plays what follows the initializations, from the client's opening message on.
func (s scenario) exchange(t *testing.T, a *term.Arena, c, x *kex.Exchange, d api.Done, opening string) {
	ext := x.Ext()
	reply := 31
	if s.method == api.MeGex {
		l, err := x.Take(opening)
		wantOut(t, "a group", l, err, offered(t, d.Group))
		wantWaiting(t, "a group was offered", x, 32, ext)
		l, err = c.Take(offered(t, d.Group))
		opening = terms(t, a, 32, d.E)
		wantOut(t, "a share in the group", l, err, opening)
		wantWaiting(t, "a group was taken", c, 33, false)
		reply = 33
	}
	l, err := x.Take(opening)
	signed := terms(t, a, reply, d.Key, d.F, sign.Host(a, s.host, 5, d.Hash))
	wantOut(t, "the reply", l, err, signed)
	wantOver(t, "replied", x, ext)
	l, err = c.Take(signed)
	wantOut(t, "the end", l, err)
	wantOver(t, "ended", c, false)
}

// wantWaiting checks what an exchange that is not complete tells of itself.
func wantWaiting(t *testing.T, what string, x *kex.Exchange, wants int, ext bool) {
	t.Helper()
	d, is := x.Done()
	if x.Wants() != wants || x.Over() || is || d != (api.Done{}) || x.Ext() != ext {
		t.Errorf("%s: %d, %v, %v, %v", what, x.Wants(), x.Over(), is, x.Ext())
	}
}

// wantOver checks what a complete exchange tells of itself, and that no call makes it fail.
func wantOver(t *testing.T, what string, x *kex.Exchange, ext bool) {
	t.Helper()
	d, is := x.Done()
	for i := range len(calls(x)) + 1 {
		if got, has := x.Done(); x.Wants() != 0 || !x.Over() || x.Ext() != ext || !is || !has || got != d {
			t.Errorf("%s: %d, %v, %v, %v, %+v", what, x.Wants(), x.Over(), x.Ext(), has, got)
		}
		if i < len(calls(x)) {
			l, err := calls(x)[i]()
			wantText(t, err, "kex: order", what)
			if len(l) != 0 {
				t.Errorf("%s: %q", what, l)
			}
		}
	}
}

// 26.1: in the first exchange the hash is the session identifier, in later ones it is what was given.
func TestSession(t *testing.T) {
	a := term.New()
	s := scenarios()[0]
	var hashes []api.ID
	for number := range 3 {
		first := api.ID(api.None)
		if number > 0 {
			first = hashes[0]
		}
		d := s.result(t, a, [2]int{1, 2}, number, first)
		if slices.Contains(hashes, d.Hash) || d.Session == api.None {
			t.Errorf("%d: %d, %v", number, d.Hash, hashes)
		}
		hashes = append(hashes, d.Hash)
		s.play(t, [2]int{1, 2}, number)
	}
}

// A nil Exchange, and the zero one.
func TestNil(t *testing.T) {
	wantFailed(t, "nil", nil)
	wantFailed(t, "zero", &kex.Exchange{})
}

// 26.2: a client asks for a group of the sizes that it wishes, in their order.
func TestWish(t *testing.T) {
	a := term.New()
	for _, sizes := range [][3]uint32{{1024, 2048, 8192}, {8192, 8192, 8192}, {1025, 1026, 1027}} {
		c := conf.Plain(false, 1)
		c.Guess, c.Prefs.Kex, c.Wish = true, []string{asks}, sizes
		l, err := fresh(t, a, c, 1, 0, api.None).Begin()
		if err != nil || len(l) != 2 || l[1] != "\x22"+code.U32(sizes[0])+code.U32(sizes[1])+code.U32(sizes[2]) {
			t.Errorf("%q, %v", l, err)
		}
	}
}
