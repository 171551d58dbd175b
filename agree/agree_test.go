package agree_test

import (
	"errors"
	"math"
	"slices"
	"strings"
	"testing"

	"shibboleth/agree"
	"shibboleth/api"
	"shibboleth/fault"
)

// What most histories here are made of: the server 2 and the client 3 of the host 1, the user's key 8.
const (
	server = 2
	client = 3
	host   = 1
	user   = 8
)

// result is what the exchange n of the session with that hash comes to.
func result(session api.ID, n int) api.Done {
	return api.Done{VC: "c", VS: "s", Hash: session + api.ID(n), Session: session, Method: 1}
}

func running(n int) api.Event {
	return api.Event{Kind: api.EvRunning, Session: server, Number: n, Who: host, Done: result(70, n)}
}

func commit(n int) api.Event {
	return api.Event{Kind: api.EvCommit, Session: client, Number: n, Who: host, Done: result(70, n)}
}

// login is an event about the user.
func login(kind, session int) api.Event {
	return api.Event{Kind: kind, Session: session, Who: user, User: "ann", Service: "ssh-connection", Alg: "a", Sid: 70}
}

func request() api.Event { return login(api.EvRequest, client) }
func accept() api.Event  { return login(api.EvAccept, server) }
func let() api.Event     { return login(api.EvLet, client) }

func taken(who int) api.Event {
	return api.Event{Kind: api.EvTaken, Who: who}
}

func end(session int) api.Event {
	return api.Event{Kind: api.EvEnd, Session: session, Number: 11}
}

// whole is a history that keeps all rules.
func whole() []api.Event {
	return []api.Event{running(0), commit(0), request(), accept(), let(), running(1), commit(1), taken(4), running(2), commit(2), end(client), end(server), taken(0)}
}

// in returns an event that is of another session.
func in(session int, e api.Event) api.Event {
	e.Session = session
	return e
}

// with returns an event after a change.
func with(e api.Event, change func(e *api.Event)) api.Event {
	change(&e)
	return e
}

// kinds are all kinds of events, and some that there are none of.
func kinds() []int {
	return []int{api.EvRunning, api.EvCommit, api.EvRequest, api.EvAccept, api.EvLet, api.EvEnd, api.EvTaken, 0, 8, -1, math.MinInt, math.MaxInt}
}

// results are results that differ from that of an event in one field each.
func results(e api.Event) []api.Event {
	var l []api.Event
	for _, change := range []func(d *api.Done){
		func(d *api.Done) { d.VC += "x" }, func(d *api.Done) { d.VS += "x" },
		func(d *api.Done) { d.IC += "x" }, func(d *api.Done) { d.IS += "x" },
		func(d *api.Done) { d.Choice.Kex += "x" }, func(d *api.Done) { d.Choice.Host += "x" },
		func(d *api.Done) { d.Choice.EncC += "x" }, func(d *api.Done) { d.Choice.EncS += "x" },
		func(d *api.Done) { d.Choice.MacC += "x" }, func(d *api.Done) { d.Choice.MacS += "x" },
		func(d *api.Done) { d.Choice.CompC += "x" }, func(d *api.Done) { d.Choice.CompS += "x" },
		func(d *api.Done) { d.Method++ },
		func(d *api.Done) { d.Wish[0]++ }, func(d *api.Done) { d.Wish[1]++ }, func(d *api.Done) { d.Wish[2]++ },
		func(d *api.Done) { d.Group.P += "x" }, func(d *api.Done) { d.Group.G += "x" },
		func(d *api.Done) { d.Key++ }, func(d *api.Done) { d.E++ }, func(d *api.Done) { d.F++ },
		func(d *api.Done) { d.K++ }, func(d *api.Done) { d.Hash++ }, func(d *api.Done) { d.Session++ },
		func(d *api.Done) { d.Up++ }, func(d *api.Done) { d.Down++ },
	} {
		l = append(l, with(e, func(e *api.Event) { change(&e.Done) }))
	}
	return l
}

// logins are events that differ from one about a user in one field each.
func logins(e api.Event) []api.Event {
	return []api.Event{
		with(e, func(e *api.Event) { e.Who++ }), with(e, func(e *api.Event) { e.User += "x" }),
		with(e, func(e *api.Event) { e.Service += "x" }), with(e, func(e *api.Event) { e.Alg += "x" }),
		with(e, func(e *api.Event) { e.Sid++ }),
	}
}

// 32.1: the source of each kind of event.
func TestSource(t *testing.T) {
	for name, x := range map[string]struct{ source, e api.Event }{
		"commit": {running(0), commit(0)},
		"accept": {request(), accept()},
		"let":    {accept(), let()},
	} {
		s, e := x.source, x.e
		differ := logins(s)
		if e.Kind == api.EvCommit {
			differ = append(results(s), with(s, func(e *api.Event) { e.Who++ }))
		}
		// What an event has beside that does not count.
		other := with(s, func(e *api.Event) { e.Session, e.Number = 9, 5 })
		if e.Kind == api.EvCommit {
			other = with(other, func(e *api.Event) { e.User, e.Service, e.Alg, e.Sid = "bob", "x", "b", 1 })
		} else {
			other.Done = result(80, 1)
		}
		for what, y := range map[string]struct {
			l    []api.Event
			at   int
			want int
			is   bool
		}{
			"alone":                   {[]api.Event{e}, 0, 0, false},
			"at the first event":      {[]api.Event{s, e}, 1, 0, true},
			"at a later one":          {[]api.Event{end(7), s, taken(3), e}, 3, 1, true},
			"two candidates":          {[]api.Event{{}, s, s, e}, 3, 1, true},
			"one candidate, then one": {[]api.Event{s, e, s, e}, 3, 0, true},
			"at a later index":        {[]api.Event{e, s}, 0, 0, false},
			"others that are no such": {append(slices.Clone(differ), e), len(differ), 0, false},
			"and one that is":         {append(append(slices.Clone(differ), s), e), len(differ) + 1, len(differ), true},
			"other fields differ":     {[]api.Event{other, e}, 1, 0, true},
			"of the source itself":    {[]api.Event{x.source, x.source}, 1, 0, false},
		} {
			at, is := agree.Source(y.l, y.at)
			if at != y.want || is != y.is {
				t.Errorf("%s, %s: %d, %v", name, what, at, is)
			}
		}
		for _, d := range differ {
			if at, is := agree.Source([]api.Event{d, e}, 1); at != 0 || is {
				t.Errorf("%s: %+v is the source", name, d)
			}
		}
		for _, kind := range kinds() {
			l := []api.Event{with(s, func(e *api.Event) { e.Kind = kind }), e}
			if _, is := agree.Source(l, 1); is != (kind == s.Kind) {
				t.Errorf("%s: kind %d as a source: %v", name, kind, is)
			}
		}
	}
}

// 32.1: other events have no source, need none, and so do events that there are none of.
func TestNoSource(t *testing.T) {
	for _, kind := range kinds() {
		if kind == api.EvCommit || kind == api.EvAccept || kind == api.EvLet {
			continue
		}
		l := whole()[:5]
		for _, e := range whole()[:5] {
			e.Kind = kind
			l = append(l, e)
		}
		for i := range l[5:] {
			if at, is := agree.Source(l, 5+i); at != 0 || is || agree.Asked(l, 5+i) {
				t.Errorf("kind %d: %d, %v, %v", kind, at, is, agree.Asked(l, 5+i))
			}
		}
	}
	for _, l := range [][]api.Event{nil, {}, {commit(0)}, whole()} {
		for _, i := range []int{-1, -2, len(l), len(l) + 1, math.MinInt, math.MaxInt} {
			if at, is := agree.Source(l, i); at != 0 || is || agree.Asked(l, i) || agree.Rule(l, i) != "" {
				t.Errorf("index %d of %d", i, len(l))
			}
		}
	}
}

// 32.1: which events must have a source.
func TestAsked(t *testing.T) {
	for name, x := range map[string]struct {
		l    []api.Event
		want bool
	}{
		"a commit":                                {[]api.Event{commit(0)}, true},
		"a commit of another exchange":            {[]api.Event{running(1), commit(1)}, true},
		"a commit after a compromise":             {[]api.Event{running(0), taken(host), commit(0)}, false},
		"a commit after another compromise":       {[]api.Event{running(0), taken(user), taken(0), commit(0)}, true},
		"an accept":                               {[]api.Event{accept()}, true},
		"an accept after a compromise":            {[]api.Event{running(0), request(), taken(user), accept()}, false},
		"an accept after the host's":              {[]api.Event{running(0), request(), taken(host), accept()}, true},
		"a let without an exchange":               {[]api.Event{let()}, false},
		"a let after a safe commit":               {[]api.Event{commit(0), let()}, true},
		"a let after the user's key is lost":      {[]api.Event{commit(0), taken(user), let()}, true},
		"a let after the host's is lost":          {[]api.Event{commit(0), taken(host), let()}, true},
		"a let after a commit that is not":        {[]api.Event{taken(host), commit(0), let()}, false},
		"a let after a running":                   {[]api.Event{in(client, running(0)), let()}, false},
		"a let after a running, then a commit":    {[]api.Event{in(client, running(0)), commit(1), let()}, false},
		"a let after a commit, then a running":    {[]api.Event{commit(0), in(client, running(1)), let()}, true},
		"a let after a commit, then a bad one":    {[]api.Event{commit(0), taken(host), commit(1), let()}, true},
		"a let after a bad commit, then a commit": {[]api.Event{taken(host), commit(0), with(commit(1), func(e *api.Event) { e.Who = 5 }), let()}, false},
		"a let after another session's commit":    {[]api.Event{in(5, commit(0)), let()}, false},
		"a let after a commit that isn't first":   {[]api.Event{commit(3), let()}, true},
		"a let ahead of a commit":                 {[]api.Event{accept(), let()}, false},
		"a running":                               {[]api.Event{running(0)}, false},
		"a request":                               {[]api.Event{commit(0), request()}, false},
		"an end":                                  {[]api.Event{commit(0), end(client)}, false},
	} {
		if agree.Asked(x.l, len(x.l)-1) != x.want {
			t.Errorf("%s: not %v", name, x.want)
		}
		// What comes later makes no difference.
		if agree.Asked(append(slices.Clone(x.l), commit(0), taken(host), taken(user)), len(x.l)-1) != x.want {
			t.Errorf("%s, and more: not %v", name, x.want)
		}
	}
}

// 32.1: a history that keeps all rules does so in each of its parts.
func TestNothingWrong(t *testing.T) {
	for n := range len(whole()) + 1 {
		wantWrong(t, "whole", whole()[:n], api.None, "")
	}
	wantWrong(t, "nothing", nil, api.None, "")
}

// wantWrong checks which event of a history violates a rule first.
func wantWrong(t *testing.T, what string, l []api.Event, at int, name string) {
	t.Helper()
	before := slices.Clone(l)
	gotAt, got := agree.Wrong(l)
	if gotAt != at || got != name {
		t.Errorf("%s: %d, %q, not %d, %q", what, gotAt, got, at, name)
	}
	for i := range l {
		if i == at && agree.Rule(l, i) != name || (at == api.None || i < at) && agree.Rule(l, i) != "" {
			t.Errorf("%s: Rule %d: %q", what, i, agree.Rule(l, i))
		}
	}
	err := agree.Check(l)
	if name == "" && err != nil {
		t.Errorf("%s: %v", what, err)
	}
	if name != "" && (fault.Code(err) != api.ErrRule || !slices.Equal(fault.Path(err), []string{"agree", name}) || err.Error() != "agree: "+name+": rule" || !errors.Is(err, api.ErrRule)) {
		t.Errorf("%s: %v", what, err)
	}
	if !slices.Equal(l, before) {
		t.Errorf("%s: the history has changed", what)
	}
}

// 32.1: each rule, violated by an event after which more events follow that violate others.
func TestRules(t *testing.T) {
	sid := func(sid api.ID) func(e *api.Event) { return func(e *api.Event) { e.Sid = sid } }
	number := func(n int) func(e *api.Event) { return func(e *api.Event) { e.Number = n } }
	session := func(s api.ID) func(e *api.Event) { return func(e *api.Event) { e.Done.Session = s } }
	begun := []api.Event{running(0), commit(0)}
	asked := append(slices.Clone(begun), request())
	in5 := func(e api.Event) api.Event { return in(5, e) }
	for name, x := range map[string]struct {
		l []api.Event
		e api.Event
	}{
		"end, by a running":                {append(slices.Clone(begun), end(server)), running(1)},
		"end, by a second end":             {[]api.Event{end(3)}, end(3)},
		"end, by an unknown kind":          {[]api.Event{end(3)}, api.Event{Kind: 9, Session: 3}},
		"end, by a kind 0":                 {[]api.Event{end(0)}, api.Event{}},
		"taken, by the second":             {[]api.Event{taken(3)}, taken(3)},
		"taken, by the third":              {[]api.Event{taken(3), end(3), taken(2)}, taken(3)},
		"taken, whatever the session is":   {[]api.Event{taken(0)}, in(9, taken(0))},
		"number, at first":                 {nil, with(running(0), number(1))},
		"number, below 0":                  {nil, with(commit(0), number(-1))},
		"number, the same again":           {begun, with(commit(1), number(0))},
		"number, too great":                {begun, with(commit(1), number(2))},
		"number, of an unsafe one":         {[]api.Event{taken(host)}, with(commit(0), number(1))},
		"session, at first":                {nil, with(running(0), session(71))},
		"session, of a commit":             {[]api.Event{running(0)}, with(commit(0), session(71))},
		"session, that of a later one":     {begun, with(running(1), session(71))},
		"session, of the second one":       {append(slices.Clone(begun), running(1), commit(1)), with(running(2), session(71))},
		"early, a request at first":        {nil, request()},
		"early, an accept at first":        {nil, accept()},
		"early, a let at first":            {nil, let()},
		"early, in another session":        {begun, in5(request())},
		"early, with another identifier":   {begun, with(request(), sid(71))},
		"early, with that of a later one":  {[]api.Event{running(0), commit(0), running(1), commit(1)}, with(request(), sid(71))},
		"early, with no identifier":        {[]api.Event{taken(host), commit(0)}, with(let(), sid(0))},
		"again, an accept":                 {append(slices.Clone(asked), accept()), accept()},
		"again, a let":                     {append(slices.Clone(asked), accept(), let()), let()},
		"again, an accept of another user": {append(slices.Clone(asked), accept()), with(accept(), func(e *api.Event) { e.Who, e.User = 9, "bob" })},
		"commit, without anything":         {nil, commit(0)},
		"commit, with another result":      {[]api.Event{running(0)}, with(commit(0), func(e *api.Event) { e.Done.IC = "x" })},
		"commit, to another host":          {[]api.Event{running(0)}, with(commit(0), func(e *api.Event) { e.Who = 2 })},
		"commit, the second one":           {begun, commit(1)},
		"accept, without a request":        {begun, accept()},
		"accept, after another's request":  {append(slices.Clone(begun), with(request(), func(e *api.Event) { e.Who = 9 })), accept()},
		"let, without an accept":           {asked, let()},
		"let, after another's accept":      {append(slices.Clone(asked), with(request(), func(e *api.Event) { e.User = "bob" }), with(accept(), func(e *api.Event) { e.User = "bob" })), let()},
		"twice, a commit":                  {begun, in5(commit(0))},
		"twice, an accept":                 {append(slices.Clone(asked), accept(), in5(running(0))), in5(accept())},
	} {
		rule, _, _ := strings.Cut(name, ",")
		// Whatever keeps all rules and does not touch the sessions may stand ahead of it.
		ahead := []api.Event{in(7, running(0)), end(6), taken(14), {Kind: 99, Session: 8}}
		ahead[0].Done = result(90, 0)
		for _, n := range []int{0, 1, len(ahead)} {
			l := slices.Concat(ahead[:n], x.l)
			at := len(l)
			wantWrong(t, name+": ahead", l, api.None, "")
			l = append(l, x.e)
			wantWrong(t, name, l, at, rule)
			wantWrong(t, name+": and then", append(l, let(), end(1), end(1)), at, rule)
		}
	}
}

// 32.1: a let with the same source as another client's.
func TestLetTwice(t *testing.T) {
	l := []api.Event{running(0), commit(0), request(), accept(), let()}
	// Another client of the same session identifier: its commit has to have a source of its own.
	other := with(running(0), func(e *api.Event) { e.Session, e.Who = 4, 5 })
	l = append(l, other, with(commit(0), func(e *api.Event) { e.Session, e.Who = 5, 5 }))
	wantWrong(t, "a second let", append(slices.Clone(l), in(5, let())), 7, "twice")
	// After a commit to a compromised host, nothing is asked of the second one.
	l = []api.Event{running(0), commit(0), request(), accept(), let(), taken(host), in(5, commit(0)), in(5, let())}
	wantWrong(t, "an unsafe let", l, api.None, "")
	// And an unsafe let takes no source from a later one.
	l = []api.Event{running(0), commit(0), request(), accept(), in(5, running(0)), in(5, let()), let()}
	wantWrong(t, "after an unsafe let", l, api.None, "")
}

// 32.1: of two events with the same source, only both safe ones are too many.
func TestSameSource(t *testing.T) {
	one, two := commit(0), in(5, commit(0))
	wantWrong(t, "both safe", []api.Event{running(0), one, two}, 2, "twice")
	wantWrong(t, "the first one safe", []api.Event{running(0), one, taken(host), two}, api.None, "")
	wantWrong(t, "none safe", []api.Event{running(0), taken(host), one, two}, api.None, "")
	a, b := in(server, accept()), in(5, accept())
	begun := []api.Event{running(0), commit(0), in(5, running(0)), request()}
	wantWrong(t, "both accepts safe", append(slices.Clone(begun), a, b), 5, "twice")
	wantWrong(t, "the first accept safe", append(slices.Clone(begun), a, taken(user), b), api.None, "")
	wantWrong(t, "no accept safe", append(slices.Clone(begun), taken(user), a, b), api.None, "")
	// The source is the first one even if there are as many runnings as commits.
	wantWrong(t, "two runnings", []api.Event{running(0), in(4, running(0)), one, two}, 3, "twice")
	// A commit and an accept may have sources at the same index of different kinds: these do not meet.
	wantWrong(t, "different kinds", whole(), api.None, "")
}

// 32.1: which kinds of events each rule concerns.
func TestKinds(t *testing.T) {
	for _, kind := range kinds() {
		exchange := kind == api.EvRunning || kind == api.EvCommit
		user := kind == api.EvRequest || kind == api.EvAccept || kind == api.EvLet
		for name, x := range map[string]struct {
			l       []api.Event
			e       api.Event
			concern bool
		}{
			"end":     {[]api.Event{end(client)}, api.Event{Session: client}, kind != api.EvTaken},
			"taken":   {[]api.Event{taken(4)}, api.Event{Who: 4}, kind == api.EvTaken},
			"number":  {[]api.Event{running(0)}, api.Event{Session: server, Number: 7, Sid: 70, Done: api.Done{Session: 70}}, exchange},
			"session": {nil, api.Event{Done: api.Done{Hash: 3}}, exchange},
			"early":   {nil, api.Event{Session: 1, Sid: 3}, user},
			"again":   {[]api.Event{running(0), commit(0), request(), in(client, accept()), let()}, in(client, accept()), kind == api.EvAccept || kind == api.EvLet},
			"commit":  {nil, commit(0), kind == api.EvCommit},
			"accept":  {[]api.Event{running(0)}, accept(), kind == api.EvAccept},
			"let":     {[]api.Event{running(0), commit(0)}, let(), kind == api.EvLet},
		} {
			e := x.e
			e.Kind = kind
			if got := agree.Rule(append(x.l, e), len(x.l)); (got == name) != x.concern {
				t.Errorf("kind %d: %q, where %s: %v", kind, got, name, x.concern)
			}
		}
	}
}

// 32.1: if an event violates several rules, the first one is told; if several events do, the first one.
func TestSeveral(t *testing.T) {
	bad := api.Event{Kind: api.EvCommit, Session: client, Number: 7, Who: host, Done: api.Done{Hash: 1, Session: 2}}
	wantWrong(t, "all of a commit", []api.Event{end(client), bad}, 1, "end")
	wantWrong(t, "all but the first", []api.Event{bad}, 0, "number")
	bad.Number = 0
	wantWrong(t, "all but the number", []api.Event{bad}, 0, "session")
	bad.Done.Session = 1
	wantWrong(t, "the source alone", []api.Event{bad}, 0, "commit")
	wantWrong(t, "early and without a source", []api.Event{running(0), commit(0), accept()}, 2, "accept")
	wantWrong(t, "early again", []api.Event{running(0), commit(0), request(), accept(), with(accept(), func(e *api.Event) { e.Sid = 1 })}, 4, "early")
	wantWrong(t, "again and twice", []api.Event{running(0), commit(0), request(), accept(), accept()}, 4, "again")
	wantWrong(t, "again without a source", []api.Event{running(0), commit(0), request(), accept(), let(), with(let(), func(e *api.Event) { e.Alg = "b" })}, 5, "again")
	wantWrong(t, "taken after an end", []api.Event{end(0), taken(4), taken(4)}, 2, "taken")
	wantWrong(t, "two events", []api.Event{running(0), commit(1), in(5, commit(1)), end(9), end(9)}, 1, "number")
	if l := []api.Event{taken(4), taken(4), taken(5), taken(5)}; agree.Rule(l, 1) != "taken" || agree.Rule(l, 2) != "" || agree.Rule(l, 3) != "taken" {
		t.Errorf("Rule of later events")
	}
}
