package replay_test

import (
	"math"
	"slices"
	"strconv"
	"strings"
	"testing"

	"shibboleth/api"
	"shibboleth/conf"
	"shibboleth/fault"
	"shibboleth/replay"
	"shibboleth/report"
	"shibboleth/script"
	"shibboleth/world"
)

// roll is a sequence of pseudo-random numbers.
type roll uint32

func (r *roll) next(n int) int {
	*r = *r*1664525 + 1013904223
	return int(uint32(*r)>>8) % n
}

// text is one of few kinds of lines, the last of which may have no end.
func (r *roll) text(pieces ...string) string {
	s := ""
	for range r.next(12) {
		s += pieces[r.next(len(pieces))]
	}
	return s
}

// wantError checks an error: its number, and its locations.
func wantError(t *testing.T, what string, err error, want string, e api.Errno) {
	t.Helper()
	if err == nil || err.Error() != want || fault.Code(err) != e {
		t.Errorf("%s: %v, not %s", what, err, want)
	}
}

// take are steps that compromise these principals' keys.
func take(people ...int) []api.Step {
	var l []api.Step
	for _, who := range people {
		l = append(l, api.Step{Kind: api.StTake, Who: who})
	}
	return l
}

// login are the steps of a login, and of an exchange behind it.
func login() []api.Step {
	w := world.New()
	var l []api.Step
	do := func(x api.Step) { w.Do(x); l = append(l, x) }
	do(api.Step{Kind: api.StSpawn, Conf: conf.Plain(true, 1)})
	do(api.Step{Kind: api.StSpawn, Conf: conf.Plain(false, 1)})
	for i := 0; i < len(w.Sent()) && i < 40; i++ {
		do(api.Step{Kind: api.StPass, Who: i, To: 1 - w.Sent()[i].Session, Cuts: []int{i, 2}})
		if i == 14 {
			do(api.Step{Kind: api.StRekey, To: 1})
		}
	}
	do(api.Step{Kind: api.StSay, Text: "a text, and more: ="})
	do(api.Step{Kind: api.StLine, To: 1, Ops: []api.Op{{Kind: api.OpData, S: "--\n"}}})
	return append(l, take(1, 8, 8, 99)...)
}

// records are some steps, and what is reported of their runs.
func records() []recorded {
	return []recorded{
		{nil, "done 0 of 0\n"},
		{take(3), "done 1 of 1\n- taken 3\n"},
		{take(3, 3), "done 1 of 2\n- taken 3\n"},
		{take(3, 16, 0, -1), "done 2 of 4\n- taken 3\n- taken 0\n"},
		{[]api.Step{{Kind: api.StBad, To: 5}}, "done 0 of 1\n"},
		{[]api.Step{{Kind: api.StSpawn}, {Kind: api.StSay}}, "done 0 of 2\n"},
		{[]api.Step{{Kind: api.StPass, Who: math.MaxInt}, take(15)[0], {Kind: api.StRekey, To: -1}}, "done 1 of 3\n- taken 15\n"},
		{[]api.Step{{Kind: api.StLine, Ops: []api.Op{{Kind: api.OpData, S: "\n--\n"}}}}, "done 0 of 1\n"},
		{[]api.Step{{Kind: api.StSay, Text: "--\n--\n"}}, "done 0 of 1\n"},
		{make([]api.Step, api.MaxLines), "done 0 of 1000\n"},
	}
}

type recorded struct {
	l    []api.Step
	told string
}

// 38.1: a record is the script, the line --, and the report; 38.3: it is right.
func TestRecord(t *testing.T) {
	for _, x := range records() {
		text, err := script.Print(x.l)
		if err != nil {
			t.Fatalf("Print: %v", err)
		}
		got, err := replay.Record(x.l)
		if err != nil || got != text+"--\n"+x.told {
			t.Errorf("%q, %v, not %q", got, err, x.told)
		}
		wantRight(t, got, x.l)
	}
	l := login()
	got, err := replay.Record(l)
	text, _ := script.Print(l)
	told, _ := report.Run(text)
	if err != nil || got != text+"--\n"+told || strings.Count(told, "commit") != 2 {
		t.Errorf("a login: %q, %v", got, err)
	}
	wantRight(t, got, l)
}

// wantRight checks a record of the steps l.
func wantRight(t *testing.T, record string, l []api.Step) {
	t.Helper()
	if err := replay.Check(record); err != nil {
		t.Errorf("%q: %v", record, err)
	}
	if n, err := replay.Count(record); n != len(l) || err != nil {
		t.Errorf("%q: %d steps, %v, not %d", record, n, err, len(l))
	}
	if same, err := replay.Mend(record); same != record || err != nil {
		t.Errorf("%q: mended: %q, %v", record, same, err)
	}
	text, told, ok := replay.Split(record)
	if !ok || text+"--\n"+told != record {
		t.Errorf("%q: parts: %q, %q, %v", record, text, told, ok)
	}
	if run, err := report.Run(text); run != told || err != nil {
		t.Errorf("%q: run: %q, %v", record, run, err)
	}
}

// The example of chapter 38.
func TestExample(t *testing.T) {
	for _, l := range [][]api.Step{nil, {}} {
		if s, err := replay.Record(l); s != "--\ndone 0 of 0\n" || err != nil {
			t.Errorf("%q, %v", s, err)
		}
	}
}

// 38.1: what has no text has no record.
func TestNoRecord(t *testing.T) {
	for want, x := range map[string]struct {
		l []api.Step
		e api.Errno
	}{
		"replay: script: long":          {make([]api.Step, api.MaxLines+1), api.ErrLong},
		"replay: script: 1: word: none": {[]api.Step{{Kind: 9}}, api.ErrNone},
		"replay: script: 3: word: none": {append(take(3, 4), api.Step{Kind: -1}), api.ErrNone},
		"replay: script: 2: ops: none":  {[]api.Step{{}, {Ops: []api.Op{{Kind: 15}}}, {Kind: 9}}, api.ErrNone},
	} {
		s, err := replay.Record(x.l)
		wantError(t, "Record", err, want, x.e)
		if _, due := script.Print(x.l); s != "" || due == nil || "replay: "+due.Error() != want {
			t.Errorf("%s: %q, %v", want, s, due)
		}
	}
}

// 38.1: the parts of a record are beside the first line that is just --.
func TestSplit(t *testing.T) {
	for _, x := range []struct {
		record, text, told string
		ok                 bool
	}{
		{"--\n", "", "", true},
		{"--\nb", "", "b", true},
		{"a\n--\n", "a\n", "", true},
		{"a\n--\nb\n", "a\n", "b\n", true},
		{"--\n--\n", "", "--\n", true},
		{"a\n--\nb\n--\nc", "a\n", "b\n--\nc", true},
		{"\n--\n\n", "\n", "\n", true},
		{"\n\n--\n--", "\n\n", "--", true},
		{"a--\n--\nb", "a--\n", "b", true},
		{"--a\n--\nb", "--a\n", "b", true},
		{" --\n--\n", " --\n", "", true},
		{"-- \n--\n", "-- \n", "", true},
		{"---\n-\n--\n", "---\n-\n", "", true},
		{"--\r\n--\n\r", "--\r\n", "\r", true},
		{"\xff\n\x00\n--\n\xff", "\xff\n\x00\n", "\xff", true},
		{"", "", "", false},
		{"\n", "", "", false},
		{"a", "", "", false},
		{"a\n", "", "", false},
		{"--", "", "", false},
		{"a\n--", "", "", false},
		{"a--\n", "", "", false},
		{"--a\n", "", "", false},
		{"a\n-\n-\n", "", "", false},
		{"---\n", "", "", false},
		{"--\r\n", "", "", false},
		{"--\x00\n", "", "", false},
	} {
		text, told, ok := replay.Split(x.record)
		if text != x.text || told != x.told || ok != x.ok {
			t.Errorf("%q: %q, %q, %v", x.record, text, told, ok)
		}
	}
}

// literalSplit looks for the line in the text with a line's end in front of it.
func literalSplit(record string) (string, string, bool) {
	text, told, ok := strings.Cut("\n"+record, "\n--\n")
	switch {
	case !ok:
		return "", "", false
	case text == "":
		return "", told, true
	}
	return text[1:] + "\n", told, true
}

// 38.1: many texts, as the document has it.
func TestManySplits(t *testing.T) {
	r := roll(1)
	is := 0
	for range 20000 {
		s := r.text("-", "--", "\n", "--\n", "a")
		text, told, ok := replay.Split(s)
		dueText, dueTold, due := literalSplit(s)
		if text != dueText || told != dueTold || ok != due {
			t.Fatalf("%q: %q, %q, %v", s, text, told, ok)
		}
		if ok {
			is++
		}
	}
	if is < 1000 || is > 19000 {
		t.Errorf("%d have parts", is)
	}
}

// 38.1: the number of the first line that differs.
func TestDiff(t *testing.T) {
	for _, x := range []struct {
		a, b string
		want int
	}{
		{"", "", 0},
		{"a", "a", 0},
		{"a\n", "a\n", 0},
		{"\n\n\n", "\n\n\n", 0},
		{"a\nb\nc", "a\nb\nc", 0},
		{"", "a", 1},
		{"", "\n", 1},
		{"a", "b", 1},
		{"a", "a\n", 1},
		{"a\n", "a\r\n", 1},
		{"a\nb\n", "A\nb\n", 1},
		{"a\n", "a\nb", 2},
		{"a\n", "a\n\n", 2},
		{"a\nb", "a\nb\n", 2},
		{"a\nb\nc\n", "a\nc\n", 2},
		{"a\nb\nc\n", "a\nx\ny\n", 2},
		{"\n\n", "\n\n\n", 3},
		{"a\nb\nc\nd\n", "a\nb\nc\nd\xff\n", 4},
		{strings.Repeat("x\n", 5000), strings.Repeat("x\n", 4999) + "x", 5000},
		{strings.Repeat("x\n", 5000), strings.Repeat("x\n", 5000) + "x", 5001},
	} {
		if n := replay.Diff(x.a, x.b); n != x.want {
			t.Errorf("%.20q, %.20q: %d, not %d", x.a, x.b, n, x.want)
		}
		if n := replay.Diff(x.b, x.a); n != x.want {
			t.Errorf("%.20q, %.20q: %d, not %d", x.b, x.a, n, x.want)
		}
	}
}

// literalLines are the lines of a text, each with its end.
func literalLines(s string) []string {
	l := strings.SplitAfter(s, "\n")
	return l[:len(l)-map[bool]int{true: 1}[l[len(l)-1] == ""]]
}

// literalDiff looks at one line after the other.
func literalDiff(a, b string) int {
	x, y := literalLines(a), literalLines(b)
	for i := range max(len(x), len(y)) {
		if i >= len(x) || i >= len(y) || x[i] != y[i] {
			return i + 1
		}
	}
	return 0
}

// 38.1: many texts, as the document has it; no difference is told of equal texts only.
func TestManyDiffs(t *testing.T) {
	r := roll(2)
	same, later := 0, 0
	for range 20000 {
		front := r.text("a\n", "b\n", "\n")
		a, b := front+r.text("a", "\n"), front+r.text("a", "\n")
		n := replay.Diff(a, b)
		if n != literalDiff(a, b) || n != replay.Diff(b, a) || (n == 0) != (a == b) {
			t.Fatalf("%q, %q: %d", a, b, n)
		}
		if n == 0 {
			same++
		}
		if n > 2 {
			later++
		}
	}
	if same < 100 || later < 1000 {
		t.Errorf("%d are equal, %d differ later", same, later)
	}
}

// 38.2: texts that are no records, and scripts that are none.
func TestWrongRecords(t *testing.T) {
	for record, want := range map[string]string{
		"":                    "replay: form",
		"take who=3\n":        "replay: form",
		"take who=3\n--":      "replay: form",
		"--":                  "replay: form",
		"who\n -- \n":         "replay: form",
		"take whom=3\n--":     "replay: form",
		"take whom=3\n--\n":   "replay: script: 1: key: form",
		"\n--\ndone 0 of 0\n": "replay: script: 1: word: form",
		"take\ntook\n--\n":    "replay: script: 2: word: form",
		"take who=03\n--\ndone 1 of 1\n- taken 3\n": "replay: script: 1: who: form",
		"take\n---\n--\n": "replay: script: 2: word: form",
		strings.Repeat("take\n", api.MaxLines+1) + "--\n":         "replay: script: long",
		strings.Repeat("take\n", api.MaxLines) + "take \n--\n":    "replay: script: long",
		strings.Repeat("take\n", api.MaxLines-1) + "take \n--\nx": "replay: script: 1000: key: form",
	} {
		e := api.ErrForm
		if strings.HasSuffix(want, "long") {
			e = api.ErrLong
		}
		wantError(t, "Check", replay.Check(record), want, e)
		s, err := replay.Mend(record)
		wantError(t, "Mend", err, want, e)
		n, err := replay.Count(record)
		wantError(t, "Count", err, want, e)
		if s != "" || n != 0 {
			t.Errorf("%.20q: %q, %d", record, s, n)
		}
		if text, _, ok := replay.Split(record); ok {
			if _, due := report.Run(text); due == nil || "replay: "+due.Error() != want {
				t.Errorf("%.20q: %v, not %s", record, due, want)
			}
		}
	}
}

// 38.2: reports that are not what happens: the first line that differs is told.
func TestWrongReports(t *testing.T) {
	const right = "take who=3\ntake who=4\n--\ndone 2 of 2\n- taken 3\n- taken 4\n"
	if err := replay.Check(right); err != nil {
		t.Fatalf("%v", err)
	}
	for told, line := range map[string]int{
		"":                                    1,
		"\n":                                  1,
		"done 2 of 2":                         1,
		"done 1 of 2\n- taken 3\n- taken 4\n": 1,
		"--\ndone 2 of 2\n- taken 3\n- taken 4\n":   1,
		"\ndone 2 of 2\n- taken 3\n- taken 4\n":     1,
		"done 2 of 2\r\n- taken 3\r\n- taken 4\r\n": 1,
		"done 2 of 2\n":                           2,
		"done 2 of 2\n- taken 3":                  2,
		"done 2 of 2\n- taken 4\n- taken 3\n":     2,
		"done 2 of 2\n\n- taken 3\n- taken 4\n":   2,
		"done 2 of 2\n- taken 3\n":                3,
		"done 2 of 2\n- taken 3\n- taken 4":       3,
		"done 2 of 2\n- taken 3\n- taken 4 \n":    3,
		"done 2 of 2\n- taken 3\n- taken 4\n\n":   4,
		"done 2 of 2\n- taken 3\n- taken 4\n--\n": 4,
		"done 2 of 2\n- taken 3\n- taken 4\nand":  4,
	} {
		record := "take who=3\ntake who=4\n--\n" + told
		err := replay.Check(record)
		wantError(t, "Check", err, "replay: "+strconv.Itoa(line)+": rule", api.ErrRule)
		if path := fault.Path(err); !slices.Equal(path, []string{"replay", strconv.Itoa(line)}) {
			t.Errorf("within %q", path)
		}
		// What is told does not matter to Mend and Count.
		if s, err := replay.Mend(record); s != right || err != nil {
			t.Errorf("mended: %q, %v", s, err)
		}
		if n, err := replay.Count(record); n != 2 || err != nil {
			t.Errorf("%d steps, %v", n, err)
		}
	}
}

// 38.3: a byte that is changed, added or taken away anywhere in a report is found at its line.
func TestAnyChange(t *testing.T) {
	record, err := replay.Record(login())
	if err != nil {
		t.Fatalf("%v", err)
	}
	text, told, _ := replay.Split(record)
	for at := 0; at <= len(told); at += 11 {
		line := strconv.Itoa(1 + strings.Count(told[:at], "\n"))
		changes := []string{told[:at] + "\x00" + told[at:], told[:at]}
		if at < len(told) {
			changes = append(changes, told[:at]+"\x00"+told[at+1:])
		}
		for _, changed := range changes {
			if changed == told {
				continue
			}
			wrong := text + "--\n" + changed
			wantError(t, "Check", replay.Check(wrong), "replay: "+line+": rule", api.ErrRule)
			if s, err := replay.Mend(wrong); s != record || err != nil {
				t.Errorf("mended: %q, %v", s, err)
			}
		}
	}
}

// 38.2: equal records are judged alike, whatever was judged between.
func TestRepeated(t *testing.T) {
	record, _ := replay.Record(login())
	for range 3 {
		again, _ := replay.Record(login())
		if again != record || replay.Check(record) != nil || replay.Check(record+"\n") == nil {
			t.Errorf("%q, not %q", again, record)
		}
	}
}

// 38.1: steps are not changed.
func TestKept(t *testing.T) {
	l := login()
	before, _ := script.Print(l)
	_, _ = replay.Record(l)
	if after, _ := script.Print(l); after != before {
		t.Errorf("%q, not %q", after, before)
	}
}
