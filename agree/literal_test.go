package agree_test

import (
	"slices"
	"testing"

	"shibboleth/agree"
	"shibboleth/api"
	"shibboleth/trust"
)

// literal is a history as the document has it, searched anew for each question.
type literal []api.Event

func (l literal) source(at int) int {
	e := l[at]
	return slices.IndexFunc(l[:at], func(s api.Event) bool {
		same := s.Who == e.Who && s.User == e.User && s.Service == e.Service && s.Alg == e.Alg && s.Sid == e.Sid
		switch e.Kind {
		case api.EvCommit:
			return s.Kind == api.EvRunning && s.Who == e.Who && s.Done == e.Done
		case api.EvAccept:
			return s.Kind == api.EvRequest && same
		case api.EvLet:
			return s.Kind == api.EvAccept && same
		}
		return false
	})
}

// exchanges are the indices of the exchange events of an event's session before it.
func (l literal) exchanges(at int) []int {
	var found []int
	for i, e := range l[:at] {
		if (e.Kind == api.EvRunning || e.Kind == api.EvCommit) && e.Session == l[at].Session {
			found = append(found, i)
		}
	}
	return found
}

func (l literal) asked(at int) bool {
	if l[at].Kind != api.EvLet {
		return trust.Safe(l, at)
	}
	x := l.exchanges(at)
	return len(x) > 0 && l[x[0]].Kind == api.EvCommit && trust.Safe(l, x[0])
}

// any reports whether there is such an event before one.
func (l literal) any(at int, is func(i int, e api.Event) bool) bool {
	for i, e := range l[:at] {
		if is(i, e) {
			return true
		}
	}
	return false
}

func (l literal) rule(at int) string {
	e, x := l[at], l.exchanges(at)
	isExchange := e.Kind == api.EvRunning || e.Kind == api.EvCommit
	session := e.Done.Hash
	if len(x) > 0 {
		session = l[x[0]].Done.Session
	}
	switch {
	case e.Kind != api.EvTaken && l.any(at, func(_ int, o api.Event) bool { return o.Kind == api.EvEnd && o.Session == e.Session }):
		return "end"
	case e.Kind == api.EvTaken && l.any(at, func(_ int, o api.Event) bool { return o.Kind == api.EvTaken && o.Who == e.Who }):
		return "taken"
	case isExchange && e.Number != len(x):
		return "number"
	case isExchange && e.Done.Session != session:
		return "session"
	case (e.Kind == api.EvRequest || e.Kind == api.EvAccept || e.Kind == api.EvLet) && (len(x) == 0 || e.Sid != session):
		return "early"
	case (e.Kind == api.EvAccept || e.Kind == api.EvLet) && l.any(at, func(_ int, o api.Event) bool { return o.Kind == e.Kind && o.Session == e.Session }):
		return "again"
	case l.asked(at) && l.source(at) == api.None:
		return map[int]string{api.EvCommit: "commit", api.EvAccept: "accept", api.EvLet: "let"}[e.Kind]
	case l.asked(at) && l.any(at, func(i int, o api.Event) bool { return o.Kind == e.Kind && l.asked(i) && l.source(i) == l.source(at) }):
		return "twice"
	}
	return ""
}

// roll is a row of numbers that only looks random.
type roll uint32

func (r *roll) next(n int) int {
	*r = *r*1664525 + 1013904223
	return int(uint32(*r)>>8) % n
}

// pair is a client and a server, which go on event by event.
type pair struct {
	n     int
	stage int
}

// step returns the next event of a pair, as undisturbed sessions have it.
func (p *pair) step() api.Event {
	s, c := 2*p.n, 2*p.n+1
	d := func(n int) api.Done { return result(api.ID(100*p.n), n) }
	login := func(kind, session int) api.Event {
		return api.Event{Kind: kind, Session: session, Who: 8 + p.n%2, User: "ann", Service: "ssh-connection", Alg: "a", Sid: api.ID(100 * p.n)}
	}
	p.stage++
	switch p.stage {
	case 2:
		return api.Event{Kind: api.EvCommit, Session: c, Who: p.n, Done: d(0)}
	case 3:
		return login(api.EvRequest, c)
	case 4:
		return login(api.EvAccept, s)
	case 5:
		return login(api.EvLet, c)
	}
	k := p.stage / 5
	if p.stage%5 == 1 {
		return api.Event{Kind: api.EvRunning, Session: s, Number: k, Who: p.n, Done: d(k)}
	}
	p.stage = 5*k + 5
	return api.Event{Kind: api.EvCommit, Session: c, Number: k, Who: p.n, Done: d(k)}
}

// talks returns a history of some pairs, which keeps all rules.
func talks(r *roll, n int) []api.Event {
	pairs := []pair{{n: 0}, {n: 1}, {n: 2}}
	lost, over := map[int]bool{}, map[int]bool{}
	var l []api.Event
	for len(l) < n {
		if x := r.next(40); x < 4 && !lost[3*x] {
			lost[3*x] = true
			l = append(l, taken(3*x))
		} else if x >= 4 {
			p := &pairs[r.next(3)]
			if e := p.step(); !over[p.n] {
				l = append(l, e)
			}
			if r.next(25) == 0 && !over[p.n] {
				over[p.n] = true
				l = append(l, end(2*p.n), end(2*p.n+1))
			}
			if len(over) == 3 {
				return l
			}
		}
	}
	return l
}

// spoil changes one field of one event, or removes, doubles or moves it.
func spoil(r *roll, l []api.Event) []api.Event {
	l = slices.Clone(l)
	i, k := r.next(len(l)), r.next(len(l))
	e := &l[i]
	switch r.next(14) {
	case 0:
		e.Kind = r.next(9)
	case 1:
		e.Session = r.next(7)
	case 2:
		e.Number += r.next(3) - 1
	case 3:
		e.Who = r.next(9)
	case 4:
		e.User += "x"
	case 5:
		e.Sid += api.ID(r.next(3) - 1)
	case 6:
		e.Done.IC = "x"
	case 7:
		e.Done.Session++
	case 8:
		e.Done = l[k].Done
	case 9:
		return slices.Delete(l, i, i+1)
	case 10:
		return slices.Insert(l, i, l[k])
	case 11:
		l[i], l[k] = l[k], l[i]
	case 12:
		return slices.Insert(l, i, taken(r.next(10)))
	case 13:
		return slices.Insert(l, i, end(r.next(6)))
	}
	return l
}

// 32.1: histories that keep all rules, and such with a few faults, each as the document has it.
func TestLiteral(t *testing.T) {
	r := roll(32)
	rules := map[string]int{}
	for n := range 3000 {
		l := talks(&r, 5+r.next(20))
		for range n % 4 {
			l = spoil(&r, append(l, taken(15)))
		}
		first, name := api.None, ""
		for i := range l {
			rule := literal(l).rule(i)
			if got := agree.Rule(l, i); got != rule {
				t.Fatalf("%+v: Rule %d: %q, not %q", l, i, got, rule)
			}
			if rule != "" && first == api.None {
				first, name = i, rule
			}
			want := literal(l).source(i)
			if at, is := agree.Source(l, i); is != (want != api.None) || is && at != want || !is && at != 0 {
				t.Fatalf("%+v: Source %d: %d, %v, not %d", l, i, at, is, want)
			}
			if agree.Asked(l, i) != literal(l).asked(i) {
				t.Fatalf("%+v: Asked %d: not %v", l, i, literal(l).asked(i))
			}
		}
		if at, got := agree.Wrong(l); at != first || got != name {
			t.Fatalf("%+v: Wrong: %d, %q, not %d, %q", l, at, got, first, name)
		}
		if n%4 == 0 && name != "" {
			t.Fatalf("%+v: %q, but nothing was changed", l, name)
		}
		rules[name]++
	}
	for _, name := range []string{"", "end", "taken", "number", "session", "early", "again", "commit", "accept", "let", "twice"} {
		if rules[name] < 3 {
			t.Errorf("rule %q: %d times", name, rules[name])
		}
	}
}

// 32.2: if no rule is violated, no two safe commits have the same source, no two safe accepts have,
// and nothing is wrong with any prefix.
func TestDifferentSources(t *testing.T) {
	r := roll(7)
	for n := range 500 {
		l := talks(&r, 25)
		if n%2 == 0 {
			l = spoil(&r, l)
		}
		at, _ := agree.Wrong(l)
		if at == api.None {
			at = len(l)
		}
		used := map[[2]int]int{}
		for i := range at {
			if agree.Check(l[:i]) != nil {
				t.Fatalf("%+v: the prefix of %d: %v", l, i, agree.Check(l[:i]))
			}
			s, is := agree.Source(l, i)
			if trust.Safe(l, i) && (!is || s >= i) {
				t.Fatalf("%+v: event %d has no source", l, i)
			}
			if trust.Safe(l, i) {
				used[[2]int{l[i].Kind, s}]++
			}
		}
		for x, times := range used {
			if times != 1 {
				t.Fatalf("%+v: %v: %d times", l, x, times)
			}
		}
	}
}

// A long history takes no more than linear time: else this test does not come to its end.
func TestLong(t *testing.T) {
	var l []api.Event
	for n := range 50000 {
		l = append(l, running(n), commit(n))
	}
	wantEnd := append(l, commit(50000))
	if at, name := agree.Wrong(wantEnd); at != 100000 || name != "commit" {
		t.Errorf("%d, %q", at, name)
	}
	if at, is := agree.Source(l, 99999); at != 99998 || !is {
		t.Errorf("%d, %v", at, is)
	}
}
