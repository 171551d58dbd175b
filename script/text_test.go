package script_test

import (
	"reflect"
	"slices"
	"strconv"
	"strings"
	"testing"

	"shibboleth/api"
	"shibboleth/script"
)

// 35.3: texts of any number of lines.
func TestText(t *testing.T) {
	for _, n := range []int{0, 1, 2, 10, api.MaxLines - 1, api.MaxLines} {
		var l []api.Step
		var want strings.Builder
		for i := range n {
			l = append(l, api.Step{Kind: api.StTake, Who: i + 1})
			want.WriteString("take who=" + strconv.Itoa(i+1) + "\n")
		}
		s, err := script.Print(l)
		if err != nil || s != want.String() {
			t.Errorf("%d steps: %q, %v", n, s, err)
		}
		m, err := script.Parse(s)
		if err != nil || !reflect.DeepEqual(m, l) {
			t.Errorf("%d lines: %v, %v", n, m, err)
		}
	}
	if s, err := script.Print([]api.Step{}); err != nil || s != "" {
		t.Errorf("no steps: %q, %v", s, err)
	}
	l := []api.Step{full(), {}, {Kind: api.StSay, Text: "\n--\n"}, full()}
	s, err := script.Print(l)
	if want := "say " + strings.Join(fullParts, " ") + "\n"; err != nil || s != want+"spawn\nsay text=%0a--%0a\n"+want {
		t.Errorf("%q, %v", s, err)
	}
	if m, err := script.Parse(s); err != nil || !reflect.DeepEqual(m, l) {
		t.Errorf("%+v, %v", m, err)
	}
}

// 35.3: too many steps, and steps without a line.
func TestPrintNone(t *testing.T) {
	strange := api.Step{Kind: -1}
	recipe := api.Step{Ops: []api.Op{{Kind: -1}}}
	fine := make([]api.Step, api.MaxLines)
	for _, c := range []struct {
		l    []api.Step
		want string
		e    api.Errno
	}{
		{make([]api.Step, api.MaxLines+1), "script: long", api.ErrLong},
		{append([]api.Step{strange}, fine...), "script: long", api.ErrLong},
		{[]api.Step{strange}, "script: 1: word: none", api.ErrNone},
		{[]api.Step{recipe}, "script: 1: ops: none", api.ErrNone},
		{[]api.Step{{}, recipe, strange}, "script: 2: ops: none", api.ErrNone},
		{[]api.Step{{}, strange, recipe}, "script: 2: word: none", api.ErrNone},
		{append(slices.Clone(fine[1:]), strange), "script: 1000: word: none", api.ErrNone},
	} {
		s, err := script.Print(c.l)
		wantError(t, "Print", err, c.want, c.e, s == "")
	}
}

// 35.3: texts that are none.
func TestParseNone(t *testing.T) {
	most := strings.Repeat("bad\n", api.MaxLines)
	for text, want := range map[string]string{
		"bad":                            "script: form",
		"\x00":                           "script: form",
		"bad\nbad":                       "script: form",
		"bad\r":                          "script: form",
		"worse\nbad":                     "script: form",
		"bad\n ":                         "script: form",
		most[:len(most)-1]:               "script: form",
		most + "x":                       "script: form",
		"\n":                             "script: 1: word: form",
		"\n\n":                           "script: 1: word: form",
		"bad\n\n":                        "script: 2: word: form",
		"bad\n\nbad\n":                   "script: 2: word: form",
		"\nbad\n":                        "script: 1: word: form",
		"bad\r\n":                        "script: 1: word: form",
		"bad\nbad \n":                    "script: 2: key: form",
		" bad\n":                         "script: 1: word: form",
		"bad\ntake who=0\ntake x\n":      "script: 2: who: form",
		most[4:] + "worse\n":             "script: 1000: word: form",
		most[8:] + "take who=x\nworse\n": "script: 999: who: form",
		"bad\nplain ops=data:0:0:0:\nplain ops=\n": "script: 3: ops: form",
	} {
		l, err := script.Parse(text)
		wantError(t, strconv.Quote(text[max(0, len(text)-20):]), err, want, api.ErrForm, l == nil)
	}
	for _, text := range []string{most + "\n", most + "bad\n", most + "worse\n", strings.Repeat("\n", api.MaxLines+1), most + "bad\nbad", "x" + strings.Repeat("\n", 2*api.MaxLines) + "y"} {
		l, err := script.Parse(text)
		wantError(t, "too many lines", err, "script: long", api.ErrLong, l == nil)
	}
	if l, err := script.Parse(""); err != nil || l != nil {
		t.Errorf("no lines: %v, %v", l, err)
	}
}

// R4: a step that was read has memory of its own, and one that is written is not changed.
func TestMemory(t *testing.T) {
	x := full()
	s := line(t, x)
	if !reflect.DeepEqual(x, full()) {
		t.Errorf("Line has changed its argument")
	}
	y, err := script.Read(s)
	if err != nil {
		t.Fatalf("Read: %v", err)
	}
	// Each list grows into no other one.
	lists := []*[]string{&y.Conf.Prefs.Kex, &y.Conf.Prefs.Host, &y.Conf.Prefs.EncC, &y.Conf.Prefs.EncS, &y.Conf.Prefs.MacC, &y.Conf.Prefs.MacS, &y.Conf.Prefs.CompC, &y.Conf.Prefs.CompS, &y.Conf.Algs}
	for _, l := range lists {
		_ = append(*l, "grown", "grown", "grown")
		(*l)[0] = "changed"
	}
	_, _ = append(y.Cuts, 1, 2, 3), append(y.Conf.Keys, 1, 2, 3)
	for i, l := range lists {
		if (*l)[0] != "changed" || slices.Contains((*l)[1:], "changed") || slices.Contains(*l, "grown") {
			t.Errorf("list %d: %q", i, *l)
		}
	}
	if !slices.Equal(y.Cuts, x.Cuts) || !slices.Equal(y.Conf.Keys, x.Conf.Keys) {
		t.Errorf("%v, %v", y.Cuts, y.Conf.Keys)
	}
	if again, err := script.Read(s); err != nil || !reflect.DeepEqual(again, full()) {
		t.Errorf("Read again: %+v, %v", again, err)
	}
}

// roll is a row of numbers that only looks random.
type roll uint32

func (r *roll) next(n int) int {
	*r = *r*1664525 + 1013904223
	return int(uint32(*r)>>8) % n
}

func (r *roll) number() int {
	return []int{0, 1, -1, r.next(100), -r.next(100), 1<<63 - 1, -1 << 63, 1 << 32}[r.next(8)]
}

func (r *roll) text() string {
	b := make([]byte, []int{0, 1, 2, 5}[r.next(4)])
	for i := range b {
		b[i] = []byte("a%,:=; \n\x00\xff~1")[r.next(12)]
	}
	return string(b)
}

// few returns a list that is often empty.
func few[T any](r *roll, next func() T) []T {
	var l []T
	for range max(r.next(6)-2, 0) {
		l = append(l, next())
	}
	return l
}

func (r *roll) step() api.Step {
	names := func() []string { return few(r, r.text) }
	x := api.Step{Kind: r.next(9), To: r.number(), Who: r.number(), Text: r.text(), Cuts: few(r, r.number)}
	x.Ops = few(r, func() api.Op {
		return api.Op{Kind: r.next(15), A: r.number(), B: r.number(), C: r.number(), S: r.text()}
	})
	x.Conf = api.Conf{Server: r.next(2) == 0, Software: r.text(), Comment: r.text(), Algs: names(), Own: r.number(), Limit: r.number(), Peer: r.number(), User: r.text(), Keys: few(r, r.number), Ext: r.next(2) == 0, Guess: r.next(2) == 0}
	x.Conf.Prefs = api.Prefs{Kex: names(), Host: names(), EncC: names(), EncS: names(), MacC: names(), MacS: names(), CompC: names(), CompS: names()}
	x.Conf.Grants = few(r, func() api.Grant { return api.Grant{User: r.text(), Who: r.number()} })
	if r.next(2) == 0 {
		x.Conf.Wish = [3]uint32{uint32(r.number()), uint32(r.number()), uint32(r.number())}
	}
	return x
}

// 35.4: a step with a line has exactly one; and so has what is read, whatever is read.
func TestOneLine(t *testing.T) {
	r := roll(1)
	read := 0
	for range 3000 {
		x := r.step()
		s := line(t, x)
		wantStep(t, s, x)
		for range 5 {
			changed := change(&r, s)
			y, err := script.Read(changed)
			if err != nil {
				continue
			}
			read++
			if got := line(t, y); got != changed {
				t.Fatalf("%q was read, as %q", changed, got)
			}
		}
	}
	if read < 1000 {
		t.Errorf("only %d changed lines were read", read)
	}
}

// change changes, removes or inserts a byte.
func change(r *roll, s string) string {
	i := r.next(len(s))
	with := string("0123;:,=% -abf~\n\xff"[r.next(17)])
	switch r.next(3) {
	case 0:
		return s[:i] + with + s[i+1:]
	case 1:
		return s[:i] + s[i+1:]
	}
	return s[:i] + with + s[i:]
}

// 35.4: the same for whatever a fuzzer finds.
func FuzzRead(f *testing.F) {
	r := roll(2)
	for range 20 {
		s, _ := script.Line(r.step())
		f.Add(s)
	}
	f.Fuzz(func(t *testing.T, s string) {
		x, err := script.Read(s)
		if err != nil {
			if !reflect.DeepEqual(x, api.Step{}) {
				t.Errorf("%+v with %v", x, err)
			}
			return
		}
		if got := line(t, x); got != s {
			t.Errorf("%q was read, as %q", s, got)
		}
	})
}
