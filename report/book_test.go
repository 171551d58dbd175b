package report_test

import (
	"math"
	"strconv"
	"strings"
	"testing"

	"shibboleth/api"
	"shibboleth/report"
	"shibboleth/script"
)

// books are two that have no labels.
func books() map[string]*report.Book {
	return map[string]*report.Book{"new": report.New(), "zero": {}}
}

// 36.1: labels are given in the order in which terms are asked for; each term keeps its own.
func TestLabel(t *testing.T) {
	for name, b := range books() {
		for i, x := range []struct {
			t    api.ID
			want string
		}{
			{api.None, "-"}, {7, "t1"}, {api.None, "-"}, {0, "t2"}, {7, "t1"}, {0, "t2"}, {1, "t3"}, {math.MaxInt, "t4"}, {2, "t5"}, {api.None, "-"}, {7, "t1"}, {math.MaxInt, "t4"}, {-2, "t6"}, {math.MinInt, "t7"}, {-2, "t6"}, {3, "t8"}, {4, "t9"}, {5, "t10"},
		} {
			if got := b.Label(x.t); got != x.want {
				t.Errorf("%s, %d: Label(%d): %q, not %q", name, i, x.t, got, x.want)
			}
		}
	}
}

// 36.3: different terms have different labels, and a term one label.
func TestLabels(t *testing.T) {
	b := report.New()
	of, terms := map[api.ID]string{}, map[string]api.ID{}
	r := roll(3)
	for range 5000 {
		x := api.ID(r.next(1000))
		s := b.Label(x)
		if known, is := of[x]; is && known != s {
			t.Fatalf("%d: %q and %q", x, known, s)
		}
		if other, is := terms[s]; is && other != x {
			t.Fatalf("%q: %d and %d", s, other, x)
		}
		of[x], terms[s] = s, x
	}
	if len(of) < 900 || b.Label(1000) != "t"+strconv.Itoa(len(of)+1) {
		t.Errorf("%d labels, then %q", len(of), b.Label(1000))
	}
}

// 36.1: a book that there is none of.
func TestNil(t *testing.T) {
	var b *report.Book
	for _, x := range []api.ID{api.None, 0, 5} {
		if s := b.Label(x); s != "" {
			t.Errorf("Label: %q", s)
		}
	}
	for kind := -1; kind < 10; kind++ {
		if s := b.Event(api.Event{Kind: kind}); s != "" {
			t.Errorf("Event: %q", s)
		}
	}
	if s := b.Look(3, api.Look{}); s != "" {
		t.Errorf("Look: %q", s)
	}
}

// names are names that differ, of which some have to be escaped and one is empty.
var names = api.Choice{Kex: "k", Host: "h h", EncC: "", EncS: "=", MacC: "%", MacS: "\xff", CompC: ",:", CompS: ";"}

const namesText = "kex=k host=h%20h encc=; encs=%3d macc=%25 macs=%ff compc=%2c%3a comps=%3b"

// whole is an event in which every field is something.
func whole(kind int) api.Event {
	return api.Event{
		Kind: kind, Session: 4, Number: 5, Who: 6, User: "u", Service: "s", Alg: "a", Sid: 70,
		Done: api.Done{VC: "v", VS: "w", IC: "x", IS: "y", Choice: names, Method: 8, Wish: [3]uint32{9, 9, 9}, Group: api.Group{P: "p", G: "g"}, Key: 71, E: 72, F: 73, K: 74, Hash: 75, Session: 76, Up: 77, Down: 78},
	}
}

// 36.1: each kind of event, and what is none; a label is asked for where it is written only.
func TestEvent(t *testing.T) {
	for kind, want := range map[int]string{
		api.EvRunning: "4 running 5 who=6 hash=t1 session=t2 up=t3 down=t4 " + namesText,
		api.EvCommit:  "4 commit 5 who=6 hash=t1 session=t2 up=t3 down=t4 " + namesText,
		api.EvRequest: "4 request who=6 user=u service=s alg=a session=t1",
		api.EvAccept:  "4 accept who=6 user=u service=s alg=a session=t1",
		api.EvLet:     "4 let who=6 user=u service=s alg=a session=t1",
		api.EvEnd:     "4 end 5",
		api.EvTaken:   "- taken 6",
		0:             "4 ? 0",
		8:             "4 ? 8",
		-1:            "4 ? -1",
		math.MinInt:   "4 ? -9223372036854775808",
		math.MaxInt:   "4 ? 9223372036854775807",
	} {
		for name, b := range books() {
			for range 2 {
				if got := b.Event(whole(kind)); got != want {
					t.Errorf("%s: %q, not %q", name, got, want)
				}
			}
			// The next label tells how many were given.
			if got, next := b.Label(1000), "t"+strconv.Itoa(1+labels(want)); got != next {
				t.Errorf("%s, %q: then %s, not %s", name, want, got, next)
			}
		}
	}
}

// labels returns how many labels a line has.
func labels(line string) int {
	n := 0
	for w := range strings.SplitSeq(line, " ") {
		if _, value, is := strings.Cut(w, "=t"); is && value != "" {
			n++
		}
	}
	return n
}

// 36.1: an event in which nothing is anything.
func TestEventZero(t *testing.T) {
	const noNames = "kex=; host=; encc=; encs=; macc=; macs=; compc=; comps=;"
	for kind, want := range map[int]string{
		api.EvRunning: "0 running 0 who=0 hash=t1 session=t1 up=t1 down=t1 " + noNames,
		api.EvCommit:  "0 commit 0 who=0 hash=t1 session=t1 up=t1 down=t1 " + noNames,
		api.EvRequest: "0 request who=0 user=; service=; alg=; session=t1",
		api.EvAccept:  "0 accept who=0 user=; service=; alg=; session=t1",
		api.EvLet:     "0 let who=0 user=; service=; alg=; session=t1",
		api.EvEnd:     "0 end 0",
		api.EvTaken:   "- taken 0",
		0:             "0 ? 0",
	} {
		if got := report.New().Event(api.Event{Kind: kind}); got != want {
			t.Errorf("%q, not %q", got, want)
		}
	}
}

// 36.1: terms that are the same, and none, in each place of one line and in several lines.
func TestEventLabels(t *testing.T) {
	b := report.New()
	for i, x := range []struct {
		e    api.Event
		want string
	}{
		{exchange(api.EvCommit, 9, 9, 9, 9), "hash=t1 session=t1 up=t1 down=t1"},
		{exchange(api.EvRunning, api.None, 8, api.None, 9), "hash=- session=t2 up=- down=t1"},
		{exchange(api.EvCommit, 7, api.None, 8, api.None), "hash=t3 session=- up=t2 down=-"},
		{exchange(api.EvCommit, api.None, api.None, api.None, api.None), "hash=- session=- up=- down=-"},
		{exchange(api.EvRunning, 6, 5, 6, 5), "hash=t4 session=t5 up=t4 down=t5"},
		{exchange(api.EvCommit, 1, 2, 3, 4), "hash=t6 session=t7 up=t8 down=t9"},
		{api.Event{Kind: api.EvAccept, Sid: 0}, "session=t10"},
		{api.Event{Kind: api.EvLet, Sid: api.None}, "session=-"},
		{api.Event{Kind: api.EvRequest, Sid: 8}, "session=t2"},
	} {
		got := " " + b.Event(x.e) + " "
		if !strings.Contains(got, " "+x.want+" ") {
			t.Errorf("%d: %q, not %q", i, got, x.want)
		}
	}
}

// exchange is an event about an exchange with these terms.
func exchange(kind int, hash, session, up, down api.ID) api.Event {
	return api.Event{Kind: kind, Done: api.Done{Hash: hash, Session: session, Up: up, Down: down}}
}

// 36.1: strings that are empty or must be escaped, in each place.
func TestEventStrings(t *testing.T) {
	for _, s := range []string{"", ";", "-", "a b", "=", "%", "\n", "\x00\xff", "t1", strings.Repeat(",", 100), "ssh-ed25519"} {
		want := script.Escape(s)
		if s == "" {
			want = ";"
		}
		for key, e := range map[string]api.Event{
			"user":    {Kind: api.EvRequest, User: s},
			"service": {Kind: api.EvAccept, Service: s},
			"alg":     {Kind: api.EvLet, Alg: s},
			"kex":     {Kind: api.EvRunning, Done: api.Done{Choice: api.Choice{Kex: s}}},
			"host":    {Kind: api.EvCommit, Done: api.Done{Choice: api.Choice{Host: s}}},
			"encc":    {Kind: api.EvRunning, Done: api.Done{Choice: api.Choice{EncC: s}}},
			"encs":    {Kind: api.EvCommit, Done: api.Done{Choice: api.Choice{EncS: s}}},
			"macc":    {Kind: api.EvRunning, Done: api.Done{Choice: api.Choice{MacC: s}}},
			"macs":    {Kind: api.EvCommit, Done: api.Done{Choice: api.Choice{MacS: s}}},
			"compc":   {Kind: api.EvRunning, Done: api.Done{Choice: api.Choice{CompC: s}}},
			"comps":   {Kind: api.EvCommit, Done: api.Done{Choice: api.Choice{CompS: s}}},
		} {
			if got := " " + report.New().Event(e) + " "; !strings.Contains(got, " "+key+"="+want+" ") {
				t.Errorf("%s=%q: %q", key, s, got)
			}
		}
	}
}

// 36.1: numbers in each place.
func TestEventNumbers(t *testing.T) {
	for _, n := range []int{1, -1, 15, 1 << 40, math.MinInt, math.MaxInt} {
		s := strconv.Itoa(n)
		e := api.Event{Session: n, Number: n, Who: n}
		for kind, want := range map[int]string{
			api.EvRunning: s + " running " + s + " who=" + s + " ",
			api.EvCommit:  s + " commit " + s + " who=" + s + " ",
			api.EvRequest: s + " request who=" + s + " ",
			api.EvAccept:  s + " accept who=" + s + " ",
			api.EvLet:     s + " let who=" + s + " ",
			api.EvEnd:     s + " end " + s,
			api.EvTaken:   "- taken " + s,
			9:             s + " ? 9",
		} {
			e.Kind = kind
			if got := report.New().Event(e); !strings.HasPrefix(got, want) {
				t.Errorf("%q, not %q", got, want)
			}
		}
	}
}

// 36.1: the line of a session: every phase, and what is none; every field, and every error.
func TestLook(t *testing.T) {
	for phase, name := range map[int]string{api.PhLine: "line", api.PhInit: "init", api.PhKex: "kex", api.PhNew: "new", api.PhOpen: "open", api.PhDead: "dead", 6: ";", -1: ";", math.MinInt: ";", math.MaxInt: ";"} {
		want := "session 0 client " + name + " over=0 session=t1 user=0 out=0 in=0 sent=0 got=0 code=ok"
		if got := report.New().Look(0, api.Look{Phase: phase}); got != want {
			t.Errorf("%q, not %q", got, want)
		}
	}
	for e := api.Errno(-1); e < 17; e++ {
		if got := report.New().Look(0, api.Look{Code: e}); !strings.HasSuffix(got, " got=0 code="+e.Error()) {
			t.Errorf("%q", got)
		}
	}
	b := report.New()
	for _, x := range []struct {
		i    int
		look api.Look
		want string
	}{
		{0, api.Look{Session: api.None}, "session 0 client line over=0 session=- user=0 out=0 in=0 sent=0 got=0 code=ok"},
		{15, api.Look{Conf: api.Conf{Server: true, Software: "x", User: "u"}, Phase: api.PhOpen, Over: 2, Session: 30, In: true, OutN: 4, InN: 5, Sent: make([]string, 6), Got: make([]string, 7), Code: api.ErrSeal}, "session 15 server open over=2 session=t1 user=1 out=4 in=5 sent=6 got=7 code=seal"},
		{-3, api.Look{Over: -2, Session: 31, OutN: math.MaxUint32, InN: math.MaxUint32 - 1, Sent: []string{"", "a b"}, Code: 99}, "session -3 client line over=-2 session=t2 user=0 out=4294967295 in=4294967294 sent=2 got=0 code=unknown"},
		{math.MaxInt, api.Look{Session: 30, Got: []string{"x"}, In: true}, "session 9223372036854775807 client line over=0 session=t1 user=1 out=0 in=0 sent=0 got=1 code=ok"},
	} {
		for range 2 {
			if got := b.Look(x.i, x.look); got != x.want {
				t.Errorf("%q, not %q", got, x.want)
			}
		}
	}
}

// 36.1: events, with a new book each time.
func TestEvents(t *testing.T) {
	l := []api.Event{whole(api.EvRequest), {Kind: api.EvLet, Sid: 70}, {Kind: api.EvTaken}, {Kind: api.EvRunning, Sid: 5}, whole(9), {Kind: api.EvAccept, Sid: api.None}, whole(api.EvLet)}
	b := report.New()
	var want strings.Builder
	for _, e := range l {
		want.WriteString(b.Event(e) + "\n")
	}
	for range 2 {
		if got := report.Events(l); got != want.String() {
			t.Errorf("%q, not %q", got, want.String())
		}
	}
	for i := range l {
		if got, want := report.Events(l[i:i+1]), report.New().Event(l[i])+"\n"; got != want {
			t.Errorf("%q, not %q", got, want)
		}
	}
	if got := report.Events(nil) + report.Events([]api.Event{}); got != "" {
		t.Errorf("no events: %q", got)
	}
}
