package peer_test

import (
	"slices"
	"strings"
	"testing"

	"shibboleth/api"
	"shibboleth/code"
	"shibboleth/conf"
	"shibboleth/fault"
	"shibboleth/field"
	"shibboleth/frame"
	"shibboleth/kex"
	"shibboleth/msg"
	"shibboleth/payload"
	"shibboleth/peer"
	"shibboleth/seal"
	"shibboleth/sign"
	"shibboleth/term"
)

const (
	number  = 4            // of the session that is tested
	distant = 9            // of the other side
	theirs  = "SSH-2.0-xx" // the other side's version line
	newkeys = "\x15"
	host    = 5
)

// far is the other side of a session, as the tests play it: it can say anything at any time, and
// opens and checks all that the session sends.
type far struct {
	t       *testing.T
	a       *term.Arena
	p       *peer.Peer
	near    api.Conf // the session's configuration
	conf    api.Conf // its own
	x       *kex.Exchange
	over    int
	session api.ID
	out, in way
	pieces  []string    // what it has fed to the session
	lines   []string    // what the session has sent
	heard   []string    // the payloads that the session has sent
	todo    []string    // those that the exchange has not processed yet
	answers []string    // those that the exchange wants to be sent
	sealed  []string    // those that the session has sealed
	opened  []string    // those that the session has to open
	events  []api.Event // what has happened in the session
}

// way is the key and the next sequence number of a direction.
type way struct {
	key api.ID
	n   uint32
}

// meet returns the other side of a session that has not started.
func meet(t *testing.T, a *term.Arena, near, other api.Conf) *far {
	t.Helper()
	p, err := peer.New(a, near, number)
	if err != nil {
		t.Fatalf("New: %v", err)
	}
	other.Software, other.Comment = "xx", ""
	return &far{
		t: t, a: a, p: p, near: near, conf: other, session: api.None,
		out: way{key: api.None}, in: way{key: api.None},
	}
}

// plain returns the other side of a session with the default configuration that has started.
func plain(t *testing.T, server bool) *far {
	t.Helper()
	f := meet(t, term.New(), conf.Plain(server, host), conf.Plain(!server, host))
	f.hear(f.p.Start())
	return f
}

// hear takes what the session has sent, checks its units' terms, and lets the own exchange process
// the messages.
func (f *far) hear(m api.Move) {
	f.t.Helper()
	for _, e := range m.Events {
		if e.Session != number {
			f.t.Errorf("an event of session %d: %+v", e.Session, e)
		}
	}
	f.events = append(f.events, m.Events...)
	for _, u := range m.Out {
		if len(f.lines) == 0 {
			f.hearLine(u)
			continue
		}
		f.hearPacket(u)
		f.process()
	}
}

func (f *far) hearLine(u api.Unit) {
	f.t.Helper()
	s, is := strings.CutSuffix(u.Bytes, "\r\n")
	if !is || u.Term != f.a.Data(s) {
		f.t.Errorf("no line: %q, %d", u.Bytes, u.Term)
	}
	f.lines = append(f.lines, s)
}

func (f *far) hearPacket(u api.Unit) {
	f.t.Helper()
	var s, again string
	var e api.Errno
	want := api.ID(api.None)
	if f.in.key == api.None {
		s, e = frame.Unpack(u.Bytes)
		again, _ = frame.Pack(s)
		want = payload.Term(f.a, s)
	} else {
		s, e = seal.Open(f.a, f.in.key, f.in.n, u.Bytes)
		again, _ = seal.Pack(f.a, f.in.key, f.in.n, s)
		want = f.a.Seal(f.in.key, f.in.n, payload.Term(f.a, s))
		f.sealed = append(f.sealed, s)
	}
	if e != api.OK || again != u.Bytes || want != u.Term {
		f.t.Fatalf("packet %d: %v, %.60q, %d", f.in.n, e, u.Bytes, u.Term)
	}
	f.in.n++
	f.heard, f.todo = append(f.heard, s), append(f.todo, s)
}

// process lets the exchange process the messages that were heard.
func (f *far) process() {
	f.t.Helper()
	for f.x != nil && len(f.todo) > 0 {
		s := f.todo[0]
		f.todo = f.todo[1:]
		switch {
		case s[0] == 20:
			f.add(f.x.Init(f.lines[0], s))
		case s[0] >= 30 && s[0] < 50:
			f.add(f.x.Take(s))
		case s == newkeys:
			f.in.key = f.keys()[0]
		}
	}
}

func (f *far) add(l []string, err error) {
	f.t.Helper()
	if err != nil {
		f.t.Fatalf("the other side's exchange: %v", err)
	}
	f.answers = append(f.answers, l...)
}

// keys returns the keys of its input and its output that the exchange has produced.
func (f *far) keys() [2]api.ID {
	f.t.Helper()
	d, is := f.x.Done()
	if !is {
		f.t.Fatalf("the exchange is not complete")
	}
	if f.conf.Server {
		return [2]api.ID{d.Up, d.Down}
	}
	return [2]api.ID{d.Down, d.Up}
}

// feed feeds bytes to the session, and returns the payloads that it sends thereupon.
func (f *far) feed(s string) []string {
	f.t.Helper()
	n := len(f.heard)
	f.pieces = append(f.pieces, s)
	f.hear(f.p.Feed(s))
	return f.heard[n:]
}

// unit returns the next packet with that payload.
func (f *far) unit(s string) string {
	f.t.Helper()
	u, e := frame.Pack(s)
	if f.out.key != api.None {
		u, e = seal.Pack(f.a, f.out.key, f.out.n, s)
		f.opened = append(f.opened, s)
	}
	if e != api.OK {
		f.t.Fatalf("a packet of %.60q: %v", s, e)
	}
	f.out.n++
	return u
}

// say says messages, one after the other, and returns the payloads that the session sends thereupon.
func (f *far) say(l ...string) []string {
	f.t.Helper()
	n := len(f.heard)
	for _, s := range l {
		f.feed(f.unit(s))
	}
	return f.heard[n:]
}

// begin begins the own exchange.
func (f *far) begin() []string {
	f.t.Helper()
	n := len(f.heard)
	x, err := kex.New(f.a, f.conf, distant, f.over, f.session)
	if err != nil {
		f.t.Fatalf("New: %v", err)
	}
	l, err := x.Begin()
	if err != nil {
		f.t.Fatalf("Begin: %v", err)
	}
	f.x = x
	f.process()
	f.say(l...)
	return f.heard[n:]
}

// goOn says what the exchange wants to be sent.
func (f *far) goOn() []string {
	f.t.Helper()
	l := f.answers
	if len(l) == 0 {
		f.t.Fatalf("the exchange does not go on: %v", f.p.Err())
	}
	f.answers = nil
	return f.say(l...)
}

// renew says that the new key is used from now on.
func (f *far) renew() []string {
	f.t.Helper()
	d, _ := f.x.Done()
	n := len(f.heard)
	f.pieces = append(f.pieces, f.unit(newkeys))
	key := f.keys()[1]
	f.session, f.over = d.Session, f.over+1
	m := f.p.Feed(f.pieces[len(f.pieces)-1])
	f.out.key, f.x, f.todo = key, nil, nil
	f.hear(m)
	return f.heard[n:]
}

// to brings the session to a phase of the exchange that is next.
func (f *far) to(phase int) *far {
	f.t.Helper()
	if f.p.Phase() == api.PhLine && phase != api.PhLine {
		f.feed(theirs + "\r\n")
	}
	if (f.p.Phase() == api.PhInit || f.p.Phase() == api.PhOpen) && phase != api.PhInit {
		f.begin()
	}
	for f.p.Phase() == api.PhKex && phase != api.PhKex {
		f.goOn()
	}
	if f.p.Phase() == api.PhNew && phase != api.PhNew {
		f.renew()
	}
	if f.p.Phase() != phase || f.p.Err() != nil {
		f.t.Fatalf("phase %d, not %d: %v", f.p.Phase(), phase, f.p.Err())
	}
	return f
}

// wantHeard checks what the session has sent thereupon.
func (f *far) wantHeard(what string, got []string, want ...string) {
	f.t.Helper()
	if !slices.Equal(got, want) {
		f.t.Errorf("%s: %.200q, not %.200q; %v", what, got, want, f.p.Err())
	}
}

// wantGoing checks what a session tells that has not ended.
func (f *far) wantGoing(what string, phase, over int) {
	f.t.Helper()
	if f.p.Err() != nil || f.p.Phase() != phase || f.p.Over() != over {
		f.t.Errorf("%s: phase %d, not %d, after %d exchanges, not %d; %v", what, f.p.Phase(), phase, f.p.Over(), over, f.p.Err())
	}
	f.wantCounts(what)
}

// wantCounts checks what a session tells of the packets.
func (f *far) wantCounts(what string) {
	f.t.Helper()
	out, in := f.p.Numbers()
	if out != f.in.n || in != f.out.n {
		f.t.Errorf("%s: the next packets are %d and %d, not %d and %d", what, out, in, f.in.n, f.out.n)
	}
	if !slices.Equal(f.p.Sent(), f.sealed) || !slices.Equal(f.p.Got(), f.opened) {
		f.t.Errorf("%s: sealed %.300q, not %.300q; opened %.300q, not %.300q", what, f.p.Sent(), f.sealed, f.p.Got(), f.opened)
	}
}

// wantEnd checks that the session has ended with an error of that text, or was closed if that is
// empty, and that it has said so once.
func (f *far) wantEnd(what, text string) {
	f.t.Helper()
	err := f.p.Err()
	if (err == nil) != (text == "") || err != nil && err.Error() != text {
		f.t.Fatalf("%s: %v, not %q", what, err, text)
	}
	ends := 0
	for _, e := range f.events {
		if e.Kind == api.EvEnd {
			ends++
		}
	}
	last := f.events[len(f.events)-1]
	if ends != 1 || last != (api.Event{Kind: api.EvEnd, Session: number, Number: fault.Reason(err)}) {
		f.t.Errorf("%s: %d ends, %+v", what, ends, last)
	}
	told := 0
	for _, s := range f.heard {
		if s[0] == 1 {
			told++
		}
	}
	if err == nil && told != 0 || err != nil && (told != 1 || f.heard[len(f.heard)-1] != farewell(f.t, err)) {
		f.t.Errorf("%s: %d messages 1, %q", what, told, f.heard[max(0, len(f.heard)-1):])
	}
	f.wantSilent(what)
}

// wantSilent checks that nothing has an effect on the session any more.
func (f *far) wantSilent(what string) {
	f.t.Helper()
	over, in, session, err := f.p.Over(), f.p.In(), f.p.Session(), f.p.Err()
	for _, m := range []api.Move{
		f.p.Feed(theirs + "\r\n"), f.p.Feed("\xff"), f.p.Feed(f.unit("\x01")), f.p.Say("x"), f.p.Rekey(), f.p.Start(), f.p.Feed(""),
	} {
		if len(m.Out) != 0 || len(m.Events) != 0 {
			f.t.Errorf("%s: not silent: %+v", what, m)
		}
	}
	f.out.n--
	if f.out.key != api.None {
		f.opened = f.opened[:len(f.opened)-1]
	}
	if f.p.Phase() != api.PhDead || f.p.Over() != over || f.p.In() != in || f.p.Session() != session || f.p.Err() != err {
		f.t.Errorf("%s: not dead: %d", what, f.p.Phase())
	}
}

// farewell returns the message 1 that tells an error.
func farewell(t *testing.T, err error) string {
	t.Helper()
	return message(t, 1, u32(fault.Reason(err)), text(fault.Code(err).Error()), text(""))
}

// message returns the payload of a message.
func message(t *testing.T, num int, l ...api.Field) string {
	t.Helper()
	s, err := msg.Encode(api.Msg{Num: num, Fields: l})
	if err != nil {
		t.Fatalf("message %d: %v", num, err)
	}
	return s
}

func text(s string) api.Field { return api.Field{Kind: 's', S: s} }

func u32(n int) api.Field { return api.Field{Kind: 'u', N: n} }

func flag(n int) api.Field { return api.Field{Kind: 'b', N: n} }

func list(l ...string) api.Field { return api.Field{Kind: 'n', L: l} }

// of returns a term as a value.
func (f *far) of(x api.ID) api.Field {
	f.t.Helper()
	s, is := field.Bytes(f.a, x)
	if !is {
		f.t.Fatalf("no bytes of %d", x)
	}
	return api.Field{Kind: 't', S: s}
}

// The messages of authentication, by the default algorithm and for the user "ann".
const alg = "ssh-ed25519"

func wanted(t *testing.T) string { return message(t, 5, text("ssh-userauth")) }

func granted(t *testing.T) string { return message(t, 6, text("ssh-userauth")) }

func refused(t *testing.T) string { return message(t, 51, list("publickey"), flag(0)) }

const letIn = "\x34"

func (f *far) query(who int) string {
	f.t.Helper()
	return message(f.t, 50, text("ann"), text("ssh-connection"), text("publickey"), flag(0), text(alg), f.of(f.a.Pub(f.a.Key(who))))
}

func (f *far) signed(who int) string {
	f.t.Helper()
	sig := sign.User(f.a, f.session, "ann", "ssh-connection", alg, who)
	return message(f.t, 50, text("ann"), text("ssh-connection"), text("publickey"), flag(1), text(alg), f.of(f.a.Pub(f.a.Key(who))), f.of(sig))
}

func (f *far) invited(who int) string {
	f.t.Helper()
	return message(f.t, 60, text(alg), f.of(f.a.Pub(f.a.Key(who))))
}

// login returns an event of authentication.
func (f *far) login(kind int) api.Event {
	return api.Event{Kind: kind, Session: number, Who: 8, User: "ann", Service: "ssh-connection", Alg: alg, Sid: f.session}
}

// authenticate lets the client's user be authenticated.
func (f *far) authenticate() {
	f.t.Helper()
	if f.near.Server {
		f.say(wanted(f.t), f.query(8), f.signed(8))
	} else {
		f.say(granted(f.t), f.invited(8), letIn)
	}
	if !f.p.In() {
		f.t.Fatalf("not in: %v", f.p.Err())
	}
}

// strange returns message 3 about a packet.
func strange(n uint32) string { return "\x03" + code.U32(n) }

// wantEvents checks all that has happened in the session.
func (f *far) wantEvents(what string, want ...api.Event) {
	f.t.Helper()
	if !slices.Equal(f.events, want) {
		f.t.Errorf("%s: %+v, not %+v", what, f.events, want)
	}
}
