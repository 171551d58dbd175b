package report_test

import (
	"math"
	"slices"
	"strconv"
	"strings"
	"testing"

	"shibboleth/api"
	"shibboleth/conf"
	"shibboleth/fault"
	"shibboleth/report"
	"shibboleth/script"
	"shibboleth/world"
)

// roll is a row of numbers that only looks random.
type roll uint32

func (r *roll) next(n int) int {
	*r = *r*1664525 + 1013904223
	return int(uint32(*r)>>8) % n
}

// literal is the report of a world as the document has it: a line each, with one book.
func literal(w *world.World) string {
	b := report.New()
	s := ""
	for _, e := range w.Events() {
		s += b.Event(e) + "\n"
	}
	for i := range w.Sessions() {
		x, _ := w.Look(i)
		s += b.Look(i, x) + "\n"
	}
	return s
}

// run returns the report of a run of steps.
func run(t *testing.T, l []api.Step) string {
	t.Helper()
	text, err := script.Print(l)
	if err != nil {
		t.Fatalf("Print: %v", err)
	}
	s, err := report.Run(text)
	if err != nil {
		t.Fatalf("Run: %v", err)
	}
	return s
}

// talk are the steps in which a server and a client communicate undisturbed; then come others.
func talk(l ...api.Step) []api.Step {
	steps := []api.Step{{Conf: conf.Plain(true, 1)}, {Conf: conf.Plain(false, 1)}}
	w := world.New()
	w.Run(steps)
	for i := 0; i < len(w.Sent()); i++ {
		x := api.Step{Kind: api.StPass, Who: i, To: 1 - w.Sent()[i].Session}
		w.Do(x)
		steps = append(steps, x)
	}
	return append(steps, l...)
}

// 36.2: what happens in an undisturbed communication, and thereafter.
func TestTalk(t *testing.T) {
	const agreed = "who=1 hash=t1 session=t1 up=t2 down=t3 kex=curve25519-sha256 host=ssh-ed25519 encc=aes256-gcm encs=aes256-gcm macc=hmac-sha2-256 macs=hmac-sha2-256 compc=none comps=none\n"
	const login = "who=8 user=ann service=ssh-connection alg=ssh-ed25519 session=t1\n"
	const events = "0 running 0 " + agreed + "1 commit 0 " + agreed + "1 request " + login + "0 accept " + login + "1 let " + login
	const server, client = "session 0 server ", "session 1 client "
	want := "done 17 of 17\n" + events +
		server + "open over=1 session=t1 user=1 out=7 in=6 sent=4 got=3 code=ok\n" +
		client + "open over=1 session=t1 user=1 out=6 in=7 sent=3 got=4 code=ok\n"
	if got := run(t, talk()); got != want {
		t.Errorf("%s", got)
	}
	want = "done 20 of 21\n" + events + "0 end 2\n1 end 0\n- taken 3\n" +
		server + "dead over=1 session=t1 user=1 out=8 in=6 sent=5 got=3 code=long\n" +
		client + "dead over=1 session=t1 user=1 out=6 in=8 sent=3 got=5 code=ok\n"
	got := run(t, talk(
		api.Step{Kind: api.StBad},
		api.Step{Kind: api.StPass, To: 1, Who: 15},
		api.Step{Kind: api.StPass, To: 1, Who: 99},
		api.Step{Kind: api.StTake, Who: 3},
	))
	if got != want {
		t.Errorf("%s", got)
	}
}

// 36.2: worlds without sessions, with one, and with many.
func TestWorld(t *testing.T) {
	for name, w := range map[string]*world.World{"nil": nil, "zero": {}, "new": world.New()} {
		if s := report.World(w); s != "" {
			t.Errorf("%s: %q", name, s)
		}
	}
	w := world.New()
	var want string
	for i := range api.MaxSessions {
		w.Do(api.Step{Conf: conf.Plain(i%2 == 0, i)})
		want += "session " + strconv.Itoa(i) + []string{" server", " client"}[i%2] + " line over=0 session=- user=0 out=1 in=0 sent=0 got=0 code=ok\n"
		for range 2 {
			if s := report.World(w); s != want || s != literal(w) {
				t.Errorf("%q, not %q", s, want)
			}
		}
	}
	w = world.New()
	w.Do(api.Step{Kind: api.StTake, Who: 15})
	if s := report.World(w); s != "- taken 15\n" {
		t.Errorf("%q", s)
	}
}

// 36.2: whatever happens in a world, its report is that of its events and sessions, with one book.
// Asking for it changes nothing.
func TestWorldAll(t *testing.T) {
	for seed := range 20 {
		r := roll(seed)
		var steps []api.Step
		w := world.New()
		done := 0
		for i := range 120 {
			x := api.Step{Kind: api.StPass, To: r.next(4), Who: r.next(1 + len(w.Sent()))}
			switch n := r.next(40); {
			case i < 4:
				x = api.Step{Conf: conf.Plain(i%2 == 0, seed%3)}
			case n < 3:
				x = api.Step{Kind: api.StRekey + n%2, To: r.next(5), Text: "said"}
			case n == 3:
				x = api.Step{Kind: api.StTake, Who: r.next(18) - 1}
			case n == 4 && i > 90:
				x = api.Step{Kind: api.StBad, To: r.next(5)}
			case n < 35:
				x = next(w, &r)
			}
			steps = append(steps, x)
			if w.Do(x) {
				done++
			}
			if s := report.World(w); s != literal(w) {
				t.Fatalf("%q, not %q", s, literal(w))
			}
		}
		want := "done " + strconv.Itoa(done) + " of " + strconv.Itoa(len(steps)) + "\n" + literal(w)
		for range 2 {
			if s := run(t, steps); s != want {
				t.Fatalf("%q, not %q", s, want)
			}
		}
	}
}

// next passes a unit that the session 0 or 1, or 2 or 3, has sent, to the other one, which may not
// have got it yet: the first after those that it has.
func next(w *world.World, r *roll) api.Step {
	to := r.next(4)
	x, is := w.Look(to)
	if !is {
		return api.Step{Kind: api.StPass}
	}
	n := int(x.InN)
	if x.Phase > api.PhLine {
		n++
	}
	for i, s := range w.Sent() {
		if s.Session != to^1 {
			continue
		}
		if n == 0 {
			return api.Step{Kind: api.StPass, To: to, Who: i}
		}
		n--
	}
	return api.Step{Kind: api.StSay, To: to}
}

// 36.2: runs of few steps, of ill-formed ones, and of most.
func TestRun(t *testing.T) {
	for text, want := range map[string]string{
		"":                                     "done 0 of 0\n",
		"take who=3\n":                         "done 1 of 1\n- taken 3\n",
		"take\n":                               "done 1 of 1\n- taken 0\n",
		"take who=3\ntake who=3\n":             "done 1 of 2\n- taken 3\n",
		"take who=16\n":                        "done 0 of 1\n",
		"spawn\n":                              "done 0 of 1\n",
		"bad\nrekey\nsay text=x\npass\nline\n": "done 0 of 5\n",
		"spawn server=1 software=a\ntake who=2\ntake who=-2\n": "done 1 of 3\n- taken 2\n",
	} {
		for range 2 {
			if got, err := report.Run(text); err != nil || got != want {
				t.Errorf("Run(%q): %q, %v", text, got, err)
			}
		}
	}
	most := slices.Repeat([]api.Step{{Kind: api.StTake, Who: 1}}, api.MaxLines)
	if got := run(t, most); got != "done 1 of 1000\n- taken 1\n" {
		t.Errorf("most steps: %q", got)
	}
	c := conf.Plain(true, 1)
	sessions := slices.Repeat([]api.Step{{Conf: c}}, api.MaxSessions+1)
	if got := run(t, sessions); !strings.HasPrefix(got, "done 16 of 17\nsession 0 server line ") || strings.Count(got, "\n") != 17 {
		t.Errorf("most sessions: %q", got)
	}
}

// 36.2: texts that are no scripts.
func TestRunNone(t *testing.T) {
	for text, e := range map[string]api.Errno{
		"bad":                                   api.ErrForm,
		"\n":                                    api.ErrForm,
		"take who=3\n\n":                        api.ErrForm,
		"take who=3\nworse\n":                   api.ErrForm,
		"take who=03\n":                         api.ErrForm,
		"take who=3\ntake who=\n":               api.ErrForm,
		strings.Repeat("bad\n", api.MaxLines+1): api.ErrLong,
	} {
		_, want := script.Parse(text)
		got, err := report.Run(text)
		if got != "" || err == nil || want == nil || err.Error() != want.Error() || fault.Code(err) != e {
			t.Errorf("%q: %q, %v, not %v", text[:min(len(text), 30)], got, err, want)
		}
	}
}

// 36.1: lines are words with single spaces between them, of bytes that can be seen.
func TestWords(t *testing.T) {
	counts := map[int]int{api.EvRunning: 16, api.EvCommit: 16, api.EvRequest: 7, api.EvAccept: 7, api.EvLet: 7, api.EvEnd: 3, api.EvTaken: 3}
	texts := []string{"", " ", "a", ";", "\n", "a b", "\xff", "%"}
	r := roll(9)
	b := report.New()
	for range 2000 {
		text := func() string { return texts[r.next(len(texts))] }
		e := whole(r.next(9))
		e.Session, e.User, e.Service, e.Alg, e.Sid = r.next(5)-2, text(), text(), text(), api.ID(r.next(6)-2)
		e.Done.Choice = api.Choice{Kex: text(), Host: text(), EncC: text(), EncS: text(), MacC: text(), MacS: text(), CompC: text(), CompS: text()}
		want, known := counts[e.Kind]
		if !known {
			want = 3
		}
		wantWords(t, b.Event(e), want)
		wantWords(t, b.Look(r.next(9), api.Look{Phase: r.next(8) - 1, Session: api.ID(r.next(6) - 2), Code: api.Errno(r.next(20) - 2), Over: math.MinInt}), 12)
	}
}

func wantWords(t *testing.T, line string, n int) {
	t.Helper()
	words := strings.Split(line, " ")
	if len(words) != n || slices.Contains(words, "") {
		t.Errorf("%q: not %d words", line, n)
	}
	for _, c := range []byte(line) {
		if c < 32 || c > 126 {
			t.Errorf("%q: byte %d", line, c)
		}
	}
}
