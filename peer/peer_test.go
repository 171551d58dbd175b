package peer_test

import (
	"math"
	"slices"
	"strconv"
	"testing"

	"shibboleth/api"
	"shibboleth/conf"
	"shibboleth/kexinit"
	"shibboleth/peer"
	"shibboleth/term"
)

func wantText(t *testing.T, what string, err error, text string) {
	t.Helper()
	if (err == nil) != (text == "") || err != nil && err.Error() != text {
		t.Errorf("%s: %v, not %q", what, err, text)
	}
}

func wantNothing(t *testing.T, what string, m api.Move) {
	t.Helper()
	if len(m.Out) != 0 || len(m.Events) != 0 {
		t.Errorf("%s: %+v", what, m)
	}
}

// 29.1: the configuration's error comes first, then what else is no argument.
func TestNew(t *testing.T) {
	a := term.New()
	check := func(a *term.Arena, c api.Conf, number int, text string) {
		t.Helper()
		p, err := peer.New(a, c, number)
		wantText(t, "New", err, text)
		if (p == nil) != (err != nil) {
			t.Errorf("%v, %v", p, err)
		}
	}
	noAlgs := conf.Plain(true, 1)
	noAlgs.Algs = nil
	for _, arena := range []*term.Arena{a, nil} {
		for _, number := range []int{0, -1, api.MaxSessions} {
			check(arena, conf.Plain(false, -1), number, "peer: conf: peer: range")
			check(arena, conf.Plain(true, 16), number, "peer: conf: own: range")
			check(arena, noAlgs, number, "peer: conf: deny: algs: none")
			check(arena, api.Conf{}, number, "peer: conf: version: arg")
		}
	}
	for _, server := range []bool{false, true} {
		check(nil, conf.Plain(server, 1), 0, "peer: arg")
		for _, number := range []int{-1, math.MinInt, api.MaxSessions, math.MaxInt} {
			check(a, conf.Plain(server, 1), number, "peer: arg")
		}
		for number := range api.MaxSessions {
			check(a, conf.Plain(server, 1), number, "")
		}
	}
}

// wantFresh checks what a session tells that has not started, or has only started.
func wantFresh(t *testing.T, what string, p *peer.Peer, sent uint32) {
	t.Helper()
	out, in := p.Numbers()
	if p.Phase() != api.PhLine || p.Over() != 0 || p.Session() != api.None || p.In() || len(p.Sent()) != 0 || len(p.Got()) != 0 || out != sent || in != 0 || p.Err() != nil {
		t.Errorf("%s: %d, %d, %d, %v, %q, %q, %d, %d, %v", what, p.Phase(), p.Over(), p.Session(), p.In(), p.Sent(), p.Got(), out, in, p.Err())
	}
}

// 29.1: nothing has an effect before Start, whose first call alone returns something.
func TestStart(t *testing.T) {
	for _, server := range []bool{false, true} {
		for _, guess := range []bool{false, true} {
			a := term.New()
			c := conf.Plain(server, host)
			c.Guess, c.Comment = guess, "a comment"
			f := meet(t, a, c, conf.Plain(!server, host))
			wantFresh(t, "new", f.p, 0)
			for range 2 {
				wantNothing(t, "Feed ahead of Start", f.p.Feed(theirs+"\r\n"))
				wantNothing(t, "Feed ahead of Start", f.p.Feed("\x00\xff"))
				wantNothing(t, "Say ahead of Start", f.p.Say("x"))
				wantNothing(t, "Rekey ahead of Start", f.p.Rekey())
				wantFresh(t, "ahead of Start", f.p, 0)
			}
			f.hear(f.p.Start())
			said, err := kexinit.Build(conf.Init(c, number, 0))
			if err != nil {
				t.Fatalf("Build: %v", err)
			}
			want := []string{said}
			if guess && !server {
				share := f.a.Exp(f.a.Base("curve25519"), f.a.Nonce(number+1, 0))
				want = append(want, message(t, 30, f.of(share)))
			}
			f.wantHeard("Start", f.heard, want...)
			if !slices.Equal(f.lines, []string{"SSH-2.0-plain a comment"}) || len(f.events) != 0 {
				t.Errorf("Start: %q, %v", f.lines, f.events)
			}
			wantFresh(t, "started", f.p, uint32(len(want)))
			wantNothing(t, "Start, once more", f.p.Start())
			wantFresh(t, "started twice", f.p, uint32(len(want)))
			wantNothing(t, "Feed of nothing", f.p.Feed(""))
			// What came too early was not kept.
			f.to(api.PhOpen).wantGoing("opened", api.PhOpen, 1)
			wantNothing(t, "Start of an open session", f.p.Start())
			f.wantGoing("started again", api.PhOpen, 1)
		}
	}
}

// 29.1: a session has a configuration of its own.
func TestNewCopy(t *testing.T) {
	for _, server := range []bool{false, true} {
		a := term.New()
		c := conf.Plain(server, host)
		f := meet(t, a, c, conf.Plain(!server, host))
		c.Prefs.Kex[0], c.Prefs.Host[0], c.Algs[0] = "x", "y", "z"
		if server {
			c.Grants[0].Who = 7
		} else {
			c.Keys[0] = 7
		}
		f.hear(f.p.Start())
		want, _ := kexinit.Build(conf.Init(conf.Plain(server, host), number, 0))
		f.wantHeard("Start", f.heard, want)
		f.to(api.PhOpen)
		f.authenticate()
	}
}

// 29.1 to 29.4: a session that there is none of, and the zero one.
func TestNil(t *testing.T) {
	for name, p := range map[string]*peer.Peer{"nil": nil, "zero": {}} {
		for range 2 {
			for _, m := range []api.Move{p.Start(), p.Feed(""), p.Feed(theirs + "\r\n"), p.Feed("\xff"), p.Rekey(), p.Say("x")} {
				wantNothing(t, name, m)
			}
			out, in := p.Numbers()
			if p.Phase() != api.PhDead || p.Over() != 0 || p.Session() != api.None || p.In() || len(p.Sent()) != 0 || len(p.Got()) != 0 || out != 0 || in != 0 {
				t.Errorf("%s: %d, %d, %d, %v, %d, %d", name, p.Phase(), p.Over(), p.Session(), p.In(), out, in)
			}
			wantText(t, name, p.Err(), "peer: arg")
		}
	}
}

// 29.4: what a session tells in each state of the first exchange and of later ones.
func TestStates(t *testing.T) {
	for _, server := range []bool{false, true} {
		f := plain(t, server)
		var first api.ID
		for over := range 3 {
			what := strconv.FormatBool(server) + " " + strconv.Itoa(over)
			if over == 0 {
				f.to(api.PhLine).wantGoing(what, api.PhLine, 0)
				f.to(api.PhInit).wantGoing(what, api.PhInit, 0)
			}
			f.to(api.PhKex).wantGoing(what, api.PhKex, over)
			if over == 0 && f.p.Session() != api.None {
				t.Errorf("%s: a session ahead of its time: %d", what, f.p.Session())
			}
			f.to(api.PhNew).wantGoing(what, api.PhNew, over)
			d, is := f.x.Done()
			if over == 0 {
				first = d.Hash
			}
			if !is || f.p.Session() != first || d.Session != first {
				t.Errorf("%s: the session is %d, not %d", what, f.p.Session(), first)
			}
			f.to(api.PhOpen).wantGoing(what, api.PhOpen, over+1)
			if f.p.In() != (over > 0) || f.p.Session() != first {
				t.Errorf("%s: %v, session %d, not %d", what, f.p.In(), f.p.Session(), first)
			}
			if over == 0 {
				f.authenticate()
				f.wantGoing(what, api.PhOpen, 1)
			}
		}
		f.say("\x01")
		f.wantEnd("closed", "")
		f.wantCounts("closed")
		if !f.p.In() || f.p.Over() != 3 || f.p.Session() != first {
			t.Errorf("closed: %v, %d, %d", f.p.In(), f.p.Over(), f.p.Session())
		}
	}
}

// 29.4: a session that was in remains so when it ends by an error of authentication, and one that
// was not in does not become it.
func TestInAfterEnd(t *testing.T) {
	for _, server := range []bool{false, true} {
		for _, in := range []bool{false, true} {
			f := plain(t, server).to(api.PhOpen)
			if in {
				f.authenticate()
			}
			wrong, text := letIn, "peer: authc: order"
			if server {
				wrong, text = "\x05\x00", "peer: auths: service-request: 0: short"
			}
			f.say(wrong)
			f.wantEnd("an error of authentication", text)
			if f.p.In() != in {
				t.Errorf("%v: in: %v", server, f.p.In())
			}
		}
	}
}

// R4: what was answered does not change, and changing it changes nothing.
func TestAnswersAreNew(t *testing.T) {
	f := plain(t, true).to(api.PhOpen)
	f.say(wanted(t))
	sent, got := f.p.Sent(), f.p.Got()
	sent[0], got[0] = "x", "y"
	sent, got = f.p.Sent(), f.p.Got()
	before, opened := slices.Clone(sent), slices.Clone(got)
	f.say(f.query(8), f.query(1))
	f.wantCounts("changed")
	if !slices.Equal(sent, before) || !slices.Equal(got, opened) {
		t.Errorf("an answer has changed: %q, %q", sent, got)
	}
}
