package peer_test

import (
	"strings"
	"testing"

	"shibboleth/api"
	"shibboleth/conf"
	"shibboleth/field"
	"shibboleth/frame"
	"shibboleth/gex"
	"shibboleth/kexinit"
	"shibboleth/keys"
	"shibboleth/msg"
	"shibboleth/sign"
	"shibboleth/trans"
)

// said returns an initialization of the other side in its exchange with a number, after a change.
func (f *far) said(n int, change func(x *api.Init)) string {
	f.t.Helper()
	x := conf.Init(f.conf, distant, n)
	change(&x)
	s, err := kexinit.Build(x)
	if err != nil {
		f.t.Fatalf("Build: %v", err)
	}
	return s
}

// 29.2: errors of the exchange, each with the reason that it has.
func TestExchangeErrors(t *testing.T) {
	for _, server := range []bool{false, true} {
		unmarked := func(x *api.Init) { x.StrictC, x.StrictS = false, false }
		alone := func(x *api.Init) { x.Prefs.MacC = []string{"mine"} }
		for _, over := range []int{0, 1, 2} {
			reach := func() *far {
				f := plain(t, server).to(api.PhInit)
				for range over {
					f.to(api.PhOpen)
				}
				return f
			}
			f := reach()
			f.say(f.said(over, unmarked))
			if over == 0 {
				f.wantEnd("not strict", "peer: kex: strict: rule")
			} else {
				f.wantGoing("not strict", api.PhKex, over)
			}
			f = reach()
			from := len(f.heard)
			f.say(f.said(over, alone))
			f.wantEnd("no algorithm in common", "peer: kex: choose: mac-c: alg")
			// It has begun its own exchange ahead of looking at the other side's initialization.
			if over > 0 {
				f.wantNums("no algorithm in common", f.heard[from:], "20 1")
			}
			f = reach()
			f.to(api.PhKex).say("\x1e\x00\x00\x00\x00")
			if server {
				f.wantEnd("no share", "peer: kex: share: range")
			} else {
				f.wantEnd("the wrong side's message", "peer: kex: order")
			}
			f.wantCounts("no share")
			f = reach()
			f.to(api.PhNew).say("\x15x")
			f.wantEnd("a malformed message 21", "peer: newkeys: end: form")
			if f.p.Over() != over {
				t.Errorf("%d exchanges", f.p.Over())
			}
			f.wantCounts("a malformed message 21")
		}
	}
	f := plain(t, false)
	f.conf.Own = 6
	f.to(api.PhKex).goOn()
	f.wantEnd("another host", "peer: kex: host: key: host")
	f.wantEvents("another host", api.Event{Kind: api.EvEnd, Session: number, Number: 9})
}

// 29.2: errors of authentication, each with the reason that it has.
func TestAuthenticationErrors(t *testing.T) {
	for _, c := range []struct {
		server bool
		say    func(f *far) []string
		text   string
	}{
		{true, func(f *far) []string { return []string{message(t, 5, text("ssh-connection"))} }, "peer: auths: service: service"},
		{true, func(f *far) []string { return []string{wanted(t), wanted(t)} }, "peer: auths: order"},
		{true, func(f *far) []string { return []string{f.query(8)} }, "peer: auths: order"},
		{true, func(f *far) []string { return []string{wanted(t), f.query(1), f.query(2), f.query(3)} }, "peer: auths: limit: auth"},
		{false, func(f *far) []string { return []string{message(t, 6, text("ssh-connection"))} }, "peer: authc: service: service"},
		{false, func(f *far) []string { return []string{letIn} }, "peer: authc: order"},
		{false, func(f *far) []string { return []string{granted(t), refused(t)} }, "peer: authc: ways: auth"},
		{false, func(f *far) []string { return []string{granted(t), f.invited(7)} }, "peer: authc: key: auth"},
	} {
		for _, rekey := range []bool{false, true} {
			f := plain(t, c.server).to(api.PhOpen)
			if rekey {
				f.hear(f.p.Rekey())
			}
			f.say(c.say(f)...)
			f.wantEnd(c.text, c.text)
			f.wantCounts(c.text)
			if f.p.In() {
				t.Errorf("%s: in", c.text)
			}
		}
	}
}

// Keys are long if both initializations and the group are: the exchange hash, of which both keys
// consist, consists of them. The other side's languages make up what is missing.

// long returns as many names as a session may have.
func long() []string {
	var l []string
	for i := range api.MaxNames - 1 {
		l = append(l, strings.Repeat(string(rune('a'+i)), api.MaxText))
	}
	return l
}

// langs returns names whose text has n bytes.
func langs(n int) []string {
	var l []string
	for n > 0 {
		size := min(n, api.MaxText)
		if n-size == 1 {
			size-- // a comma is not the last byte
		}
		l = append(l, strings.Repeat("l", size))
		n -= size + 1
	}
	return l
}

// longKeys returns the other side, a server, of a client whose first exchange is about to be finished,
// and has keys of that size, or of up to five bytes less.
func longKeys(t *testing.T, size int) *far {
	t.Helper()
	_, least := handmade(t, 0)
	// A byte is in the hash, which is twice in each of three keys.
	f, got := handmade(t, (size-least)/6)
	if got > size || got+5 < size {
		t.Fatalf("keys of %d bytes, not %d", got, size)
	}
	return f
}

// handmade returns the other side of a client that has sent its message 21, and the size of the keys.
// The text of its languages has that many bytes.
func handmade(t *testing.T, languages int) (*far, int) {
	t.Helper()
	near, other := couple(false, methods[2:], methods[2:])
	near.Wish = [3]uint32{1024, 8192, 8192}
	for _, c := range []*api.Conf{&near, &other} {
		p := &c.Prefs
		for _, l := range []*[]string{&p.EncC, &p.EncS, &p.MacC, &p.MacS, &p.CompC, &p.CompS} {
			*l = long()
		}
	}
	f := begun(t, near, other)
	a := f.a
	f.feed(theirs + "\r\n")
	said := f.said(0, func(x *api.Init) { x.Langs[0] = langs(languages) })
	f.say(said)
	g := api.Group{P: strings.Repeat("\xff", 1024), G: "\x02" + strings.Repeat("\x01", 900)}
	f.say(message(t, 31, whole(g.P), whole(g.G)))
	f.wantNums("a group was taken", f.heard, "20 34 32")

	name, e := gex.Name(g)
	share, err := msg.Decode(f.heard[2])
	if e != api.OK || err != nil {
		t.Fatalf("the group's name: %v, %v", e, err)
	}
	x := a.Nonce(distant+1, 0)
	p := trans.Parts{
		VC: f.lines[0], VS: theirs, IC: f.heard[0], IS: said,
		Key:  a.Pub(a.Key(host)),
		Asks: true, Wish: near.Wish, Group: g,
		E: field.Of(a, share.Fields[0].S), F: a.Exp(a.Base(name), x),
	}
	p.K = a.Exp(p.E, x)
	hash := trans.Hash(a, p)
	f.say(message(t, 33, f.of(p.Key), f.of(p.F), f.of(sign.Host(a, alg, host, hash))))
	f.wantNums("complete", f.heard, "20 34 32 21")
	key, down := keys.Both(a, p.K, hash, hash)
	f.feed(f.unit(newkeys)[:1])
	f.in.key, f.out.key, f.todo = key, down, nil
	return f, a.Size(key)
}

// finish makes the message 21 come of which a first byte has come already.
func (f *far) finish() []string {
	f.t.Helper()
	u, _ := frame.Pack(newkeys)
	return f.feed(u[1:])
}

func whole(s string) api.Field { return api.Field{Kind: 'm', S: s} }

// What a sealed term of a message exceeds the key by: of message 5, of message 2 without a text, and
// of message 1 that tells what is too long. Each data has five bytes of its own.
const (
	around1 = 5 + 5 + 6 + (5 + 4) + (5 + 4 + len("long")) + (5 + 4)
	around2 = 5 + 5 + 6 + (5 + 4)
	around5 = 5 + 5 + 6 + (5 + 4 + len("ssh-userauth"))
)

// 29.2: output that can't be packed ends the session; what would follow is not sent, but for the
// message 1 that tells of it.
func TestSendErrors(t *testing.T) {
	size := api.MaxTerm - around2 - 2000
	f := longKeys(t, size)
	f.wantHeard("message 5", f.finish(), wanted(t))
	most := api.MaxTerm - around2 - f.a.Size(f.out.key)
	from := len(f.heard)
	f.hear(f.p.Say(strings.Repeat("x", most)))
	f.wantNums("as long as it may be", f.heard[from:], "2")
	f.wantGoing("as long as it may be", api.PhOpen, 1)
	f.hear(f.p.Say(strings.Repeat("x", most+1)))
	f.wantEnd("one byte more", "peer: send: long")
	f.wantNums("one byte more", f.heard[from:], "2 1")
	f.wantCounts("one byte more")

	// The initialization of another exchange is longer than what is left.
	f = longKeys(t, size)
	f.finish()
	from = len(f.heard)
	f.hear(f.p.Rekey())
	f.wantEnd("Rekey", "peer: send: long")
	f.wantNums("Rekey", f.heard[from:], "1")
	f = longKeys(t, size)
	f.finish()
	from = len(f.heard)
	f.say(f.said(1, func(x *api.Init) { x.Prefs = api.Prefs{} }))
	f.wantEnd("message 20", "peer: send: long")
	f.wantNums("message 20", f.heard[from:], "1")
}

// 29.2: what can't be packed is not even told of if the message 1 can't be packed, either.
func TestNoFarewell(t *testing.T) {
	end := api.Event{Kind: api.EvEnd, Session: number, Number: 2}
	f := longKeys(t, api.MaxTerm-around5)
	f.wantHeard("message 5", f.finish(), wanted(t))
	f.wantGoing("message 5", api.PhOpen, 1)
	f.wantHeard("no message 1", f.say("\x15"))
	f.wantUntold("no message 1", "peer: order: order", end)

	f = longKeys(t, api.MaxTerm)
	f.wantHeard("no message 5", f.finish())
	f.wantUntold("no message 5", "peer: send: long", end)
	if f.p.Over() != 1 || f.p.Session() == api.None {
		t.Errorf("%d exchanges", f.p.Over())
	}
}

// wantUntold checks that the session has ended without a message.
func (f *far) wantUntold(what, text string, end api.Event) {
	f.t.Helper()
	wantText(f.t, what, f.p.Err(), text)
	if l := f.events; len(l) != 2 || l[0].Kind != api.EvCommit || l[1] != end {
		f.t.Errorf("%s: %+v", what, l)
	}
	f.wantCounts(what)
	for range 2 {
		wantNothing(f.t, what, f.p.Feed("x"))
		wantNothing(f.t, what, f.p.Say("x"))
		wantNothing(f.t, what, f.p.Rekey())
	}
	if f.p.Phase() != api.PhDead {
		f.t.Errorf("%s: phase %d", what, f.p.Phase())
	}
}
