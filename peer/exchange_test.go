package peer_test

import (
	"slices"
	"strconv"
	"strings"
	"testing"

	"shibboleth/api"
	"shibboleth/conf"
	"shibboleth/kexinit"
	"shibboleth/term"
)

// initialization returns the message 20 of the session in its exchange with a number.
func (f *far) initialization(n int) string {
	f.t.Helper()
	s, err := kexinit.Build(conf.Init(f.near, number, n))
	if err != nil {
		f.t.Fatalf("Build: %v", err)
	}
	return s
}

// nums returns the numbers of messages.
func nums(l []string) string {
	var words []string
	for _, s := range l {
		words = append(words, strconv.Itoa(int(s[0])))
	}
	return strings.Join(words, " ")
}

func (f *far) wantNums(what string, got []string, want string) {
	f.t.Helper()
	if nums(got) != want {
		f.t.Errorf("%s: %s, not %s; %v", what, nums(got), want, f.p.Err())
	}
}

// outcome returns the event that the exchange's completion is for the session.
func (f *far) outcome(n int) api.Event {
	f.t.Helper()
	d, is := f.x.Done()
	if !is {
		f.t.Fatalf("the exchange is not complete")
	}
	kind := api.EvCommit
	if f.near.Server {
		kind = api.EvRunning
	}
	return api.Event{Kind: kind, Session: number, Number: n, Who: host, Done: d}
}

// With each method: what both prefer.
var methods = []string{"curve25519-sha256", "ecdh-sha2-nistp256", "diffie-hellman-group-exchange-sha256"}

// couple returns the configurations of a session and of its other side.
func couple(server bool, kex, otherKex []string) (near, other api.Conf) {
	near, other = conf.Plain(server, host), conf.Plain(!server, host)
	near.Prefs.Kex, other.Prefs.Kex = kex, otherKex
	return near, other
}

// begun returns the other side of a session with these configurations that has started.
func begun(t *testing.T, near, other api.Conf) *far {
	t.Helper()
	f := meet(t, term.New(), near, other)
	f.hear(f.p.Start())
	return f
}

// 29.2: what the session sends in each exchange, and the events, with each method; the first exchange
// is followed by message 7 of a server, and by message 5 of a client.
func TestExchanges(t *testing.T) {
	for _, server := range []bool{false, true} {
		for i, method := range methods {
			near, other := couple(server, []string{method}, []string{method})
			f := begun(t, near, other)
			f.wantHeard("the beginning", f.heard, f.initialization(0))
			first := [][2]string{{"30 21", "31 21 7"}, {"30 21", "31 21 7"}, {"34 32 21", "31 33 21 7"}}[i]
			later := [][2]string{{"20 30 21", "20 31 21"}, {"20 30 21", "20 31 21"}, {"20 34 32 21", "20 31 33 21"}}[i]
			role := 0
			if server {
				role = 1
			}
			var events []api.Event
			for n := range 4 {
				what := method + " " + strconv.Itoa(n) + " " + strconv.FormatBool(server)
				from := len(f.heard)
				f.to(api.PhNew)
				want := first
				if n > 0 {
					want = later
				}
				f.wantNums(what, f.heard[from:], want[role])
				events = append(events, f.outcome(n))
				f.wantEvents(what, events...)
				got := f.renew()
				switch {
				case n == 0 && !server:
					f.wantHeard(what, got, wanted(t))
				default:
					f.wantHeard(what, got)
				}
				f.wantGoing(what, api.PhOpen, n+1)
			}
		}
	}
}

// 29.2: message 7 of a server tells its algorithms, in the first exchange only, and only to a client
// that wants to be told.
func TestAnnouncement(t *testing.T) {
	for _, ext := range []bool{false, true} {
		for _, algs := range [][]string{{"a"}, {"ssh-b", alg, "c"}} {
			near, other := couple(true, methods, methods)
			near.Algs, other.Ext = algs, ext
			near.Ext = !ext
			f := begun(t, near, other).to(api.PhNew)
			told := message(t, 7, api.Field{Kind: 'e', L: []string{"server-sig-algs", strings.Join(algs, ",")}})
			if !ext {
				f.wantNums("not told", f.heard, "20 31 21")
			} else {
				f.wantNums("told", f.heard, "20 31 21 7")
				f.wantHeard("told", f.sealed, told)
			}
			from := len(f.heard)
			f.to(api.PhOpen).to(api.PhOpen)
			f.wantNums("the second exchange", f.heard[from:], "20 31 21")
		}
	}
}

// 29.2: a client's guess, right or wrong, in the first exchange and in later ones: of the session and
// of the other side.
func TestGuess(t *testing.T) {
	for _, c := range []struct {
		client, server []string
		right          bool
		own            string // what the client sends in an exchange
		answer         string // what the server does
	}{
		{methods, methods, true, "20 30 21", "20 31 21"},
		{methods[1:], methods[1:], true, "20 30 21", "20 31 21"},
		{methods[2:], methods[2:], true, "20 34 32 21", "20 31 33 21"},
		{methods, methods[1:], false, "20 30 30 21", "20 31 21"},
		{methods, methods[2:], false, "20 30 34 32 21", "20 31 33 21"},
		{[]string{methods[2], methods[0]}, methods[:1], false, "20 34 30 21", "20 31 21"},
		{[]string{methods[0], methods[1]}, []string{methods[1], methods[0]}, false, "20 30 30 21", "20 31 21"},
	} {
		for _, server := range []bool{false, true} {
			near, other := couple(server, c.client, c.server)
			want := c.own
			if server {
				near, other = couple(server, c.server, c.client)
				want = c.answer
			}
			near.Guess, other.Guess = true, true
			f := begun(t, near, other)
			from := 0
			for n := range 3 {
				what := strconv.FormatBool(server) + " " + strconv.Itoa(n) + ": " + c.own
				f.to(api.PhNew)
				got := nums(f.heard[from:])
				if n == 0 && server {
					got = strings.TrimSuffix(got, " 7")
				}
				if got != want {
					t.Errorf("%s: %s, not %s", what, got, want)
				}
				if e := f.events[n]; e != f.outcome(n) {
					t.Errorf("%s: %+v", what, e)
				}
				f.to(api.PhOpen).wantGoing(what, api.PhOpen, n+1)
				from = len(f.heard)
			}
		}
	}
}

// 29.2: while a guess is to be ignored, a message that says nothing is passed over, and does not
// stand for it; but a malformed one of the exchange does.
func TestIgnoredGuess(t *testing.T) {
	near, other := couple(true, methods[1:], methods)
	f := begun(t, near, other).to(api.PhOpen)
	f.conf.Guess = true
	// The other side says the guess itself.
	said := conf.Init(f.conf, distant, 1)
	s, err := kexinit.Build(said)
	if err != nil {
		t.Fatalf("Build: %v", err)
	}
	f.wantHeard("an initialization", f.say(s), f.initialization(1))
	f.wantHeard("nothing said", f.say("\x02\x00\x00\x00\x00"))
	f.wantHeard("a guess", f.say("\x1e"))
	f.wantGoing("a guess", api.PhKex, 1)
	f.say("\x1e")
	f.wantEnd("a guess again", "peer: kex: ecdh-init: 0: short")
}

// 29.2, 29.3: an exchange that this side begins, or both sides at once.
func TestRekey(t *testing.T) {
	for _, server := range []bool{false, true} {
		f := plain(t, server).to(api.PhOpen)
		f.authenticate()
		for n := 1; n < 4; n++ {
			what := strconv.FormatBool(server) + " " + strconv.Itoa(n)
			from := len(f.heard)
			f.hear(f.p.Rekey())
			f.wantHeard(what, f.heard[from:], f.initialization(n))
			f.wantGoing(what, api.PhOpen, n)
			wantNothing(t, "Rekey again", f.p.Rekey())
			// The other side's message 20 either crosses it or comes upon it: there is no difference.
			f.to(api.PhKex)
			wantNothing(t, "Rekey in PhKex", f.p.Rekey())
			f.to(api.PhNew)
			wantNothing(t, "Rekey in PhNew", f.p.Rekey())
			if e := f.events[len(f.events)-1]; e != f.outcome(n) {
				t.Errorf("%s: %+v", what, e)
			}
			f.to(api.PhOpen).wantGoing(what, api.PhOpen, n+1)
			f.wantNums(what, f.heard[from:], map[bool]string{false: "20 30 21", true: "20 31 21"}[server])
		}
	}
}

// 29.3: Rekey has no effect in any phase of the first exchange, nor while another one is in progress.
func TestRekeyInEachPhase(t *testing.T) {
	for _, server := range []bool{false, true} {
		for _, phase := range []int{api.PhLine, api.PhInit, api.PhKex, api.PhNew} {
			f := plain(t, server).to(phase)
			wantNothing(t, "Rekey", f.p.Rekey())
			f.wantGoing("Rekey", phase, 0)
			f.to(api.PhOpen).wantGoing("afterwards", api.PhOpen, 1)
		}
		for _, phase := range []int{api.PhKex, api.PhNew} {
			f := plain(t, server).to(api.PhOpen).to(phase)
			wantNothing(t, "Rekey", f.p.Rekey())
			f.wantGoing("Rekey", phase, 1)
			f.to(api.PhOpen).wantGoing("afterwards", api.PhOpen, 2)
		}
	}
}

// 29.2: what a server must not send during an exchange is sent after its message 21, in order; the
// events occur at once.
func TestServerQueue(t *testing.T) {
	f := plain(t, true).to(api.PhOpen)
	f.wantHeard("the service", f.say(wanted(t)), granted(t))
	from := len(f.heard)
	f.hear(f.p.Rekey())
	events := len(f.events)
	n := f.out.n
	f.say(f.query(1), f.query(8), "\xc8", f.signed(8), "\x02\x00\x00\x00\x00", f.signed(8), f.query(2))
	f.wantHeard("at once", f.heard[from:], f.initialization(1), strange(n+2))
	if l := f.events[events:]; !slices.Equal(l, []api.Event{f.login(api.EvAccept)}) || !f.p.In() {
		t.Errorf("events at once: %+v, %v", l, f.p.In())
	}
	f.wantGoing("begun", api.PhOpen, 1)
	f.to(api.PhKex)
	f.wantNums("met", f.heard[from:], "20 3")
	f.to(api.PhNew)
	got := f.heard[from:]
	f.wantNums("complete", got, "20 3 31 21 51 60 52")
	f.wantHeard("queued", got[len(got)-4:], newkeys, refused(t), f.invited(8), letIn)
	f.wantHeard("nothing more", f.renew())
	f.wantGoing("finished", api.PhOpen, 2)
	if e := f.events[len(f.events)-1]; e.Kind != api.EvRunning || e.Number != 1 {
		t.Errorf("the last event: %+v", e)
	}
	// What was sent once is not sent again, and nothing is queued any more.
	f.to(api.PhOpen)
	f.wantNums("the next exchange", f.heard[from:], "20 3 31 21 51 60 52 20 31 21")
}

// 29.2: the same of a client.
func TestClientQueue(t *testing.T) {
	for _, say := range []bool{false, true} {
		f := plain(t, false).to(api.PhOpen)
		from, events := len(f.heard), len(f.events)
		f.hear(f.p.Rekey())
		f.wantHeard("granted", f.say(granted(t)))
		f.wantHeard("invited", f.say(f.invited(8)))
		want := []string{f.initialization(1)}
		if say {
			f.hear(f.p.Say("now"))
			want = append(want, message(t, 2, text("now")))
		}
		f.wantHeard("at once", f.heard[from:], want...)
		if l := f.events[events:]; !slices.Equal(l, []api.Event{f.login(api.EvRequest)}) || f.p.In() {
			t.Errorf("events at once: %+v, %v", l, f.p.In())
		}
		f.to(api.PhNew)
		got := f.heard[from:]
		f.wantHeard("queued", got[len(got)-3:], newkeys, f.query(8), f.signed(8))
		f.wantHeard("nothing more", f.renew())
		f.say(letIn)
		f.wantGoing("finished", api.PhOpen, 2)
		if !f.p.In() || f.events[len(f.events)-1] != f.login(api.EvLet) {
			t.Errorf("not in: %+v", f.events)
		}
	}
}

// 29.2: what is queued is forgotten with the session.
func TestQueueAtTheEnd(t *testing.T) {
	for _, last := range []string{"\x01", "\x05"} {
		f := plain(t, true).to(api.PhOpen)
		f.say(wanted(t))
		f.hear(f.p.Rekey())
		f.say(f.query(8))
		from := len(f.heard)
		f.say(last)
		if last == "\x01" {
			f.wantEnd("closed", "")
			f.wantNums("closed", f.heard[from:], "")
			continue
		}
		f.wantEnd("wrong", "peer: auths: service-request: 0: short")
		f.wantNums("wrong", f.heard[from:], "1")
	}
}

// 29.2, 29.4: a login, and its events.
func TestLogin(t *testing.T) {
	f := plain(t, true).to(api.PhOpen)
	running := f.events[0]
	f.wantHeard("5", f.say(wanted(t)), granted(t))
	f.wantHeard("50", f.say(f.query(1)), refused(t))
	f.wantHeard("50", f.say(f.query(8)), f.invited(8))
	if f.p.In() {
		t.Errorf("in too early")
	}
	f.wantHeard("50", f.say(f.signed(8)), letIn)
	f.wantHeard("50", f.say(f.signed(8)))
	f.wantEvents("a server", running, f.login(api.EvAccept))
	if !f.p.In() {
		t.Errorf("not in")
	}
	f.wantGoing("a server", api.PhOpen, 1)

	near, other := couple(false, methods, methods)
	near.Keys = []int{1, 8}
	f = begun(t, near, other).to(api.PhOpen)
	commit := f.events[0]
	f.wantHeard("53", f.say(message(t, 53, text("hi"), text(""))))
	f.wantHeard("6", f.say(granted(t)), f.query(1))
	f.wantHeard("51", f.say(refused(t)), f.query(8))
	f.wantHeard("60", f.say(f.invited(8)), f.signed(8))
	f.wantEvents("a client", commit, f.login(api.EvRequest))
	if f.p.In() {
		t.Errorf("in too early")
	}
	f.wantHeard("52", f.say(letIn))
	f.wantEvents("a client", commit, f.login(api.EvRequest), f.login(api.EvLet))
	if !f.p.In() {
		t.Errorf("not in")
	}
	f.wantGoing("a client", api.PhOpen, 1)
}

// 29.3: Say has an effect as soon as output is sealed, also during an exchange.
func TestSay(t *testing.T) {
	said := message(t, 2, text("hello"))
	for _, server := range []bool{false, true} {
		for _, phase := range []int{api.PhLine, api.PhInit, api.PhKex} {
			f := plain(t, server).to(phase)
			wantNothing(t, "Say", f.p.Say("hello"))
			f.wantGoing("Say", phase, 0)
		}
		f := plain(t, server)
		check := func(phase, over int) {
			t.Helper()
			from := len(f.heard)
			f.hear(f.p.Say("hello"))
			f.wantHeard("Say", f.heard[from:], said)
			f.wantGoing("Say", phase, over)
		}
		f.to(api.PhNew)
		check(api.PhNew, 0)
		f.to(api.PhOpen)
		check(api.PhOpen, 1)
		f.hear(f.p.Rekey())
		check(api.PhOpen, 1)
		f.to(api.PhKex)
		check(api.PhKex, 1)
		f.to(api.PhNew)
		check(api.PhNew, 1)
		f.to(api.PhOpen)
		check(api.PhOpen, 2)
		check(api.PhOpen, 2)
	}
}

// 29.3: what Say says: any bytes, as long as the message can be encoded.
func TestSayStrings(t *testing.T) {
	for _, server := range []bool{false, true} {
		f := plain(t, server).to(api.PhOpen)
		for _, s := range []string{"", "\x00\xff\r\n", "\xf3\x00\x00\x00\x01", strings.Repeat("x", api.MaxPayload-5)} {
			from := len(f.heard)
			f.hear(f.p.Say(s))
			f.wantHeard("Say", f.heard[from:], message(t, 2, text(s)))
		}
		for _, n := range []int{api.MaxPayload - 4, api.MaxPayload, 1 << 20} {
			wantNothing(t, "Say of what is too long", f.p.Say(strings.Repeat("x", n)))
		}
		f.wantGoing("Say", api.PhOpen, 1)
	}
}
