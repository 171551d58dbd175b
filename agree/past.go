package agree

import (
	"slices"

	"shibboleth/api"
)

// A past is what the rules need to know of the events before the one that they judge. It is
// looked up, not searched, so that a long history takes linear time.
type past struct {
	events   int   // how many there are: the index of the next one
	safe     []int // the indices of safe events, ascending, up to the next event at least
	sessions map[int]session
	taken    map[int]int  // by a key's owner: where it was compromised
	first    map[mark]int // the first event that can be a source, by what it has in common with those
	used     map[int]int  // by a source: an event that must have one, and has this one
}

// A session is what became of a session so far.
type session struct {
	exchanges  int    // how many exchange events there are
	identifier api.ID // of the first one
	committed  bool   // whether the first one is a safe commit
	accepted   bool
	let        bool
	ended      bool
}

// A mark is what an event and its source have in common.
type mark struct {
	kind    int // the source's
	who     int
	user    string
	service string
	alg     string
	sid     api.ID
	done    api.Done
}

func newPast(safe []int) *past {
	return &past{safe: safe, sessions: map[int]session{}, taken: map[int]int{}, first: map[mark]int{}, used: map[int]int{}}
}

// add makes the next event one of the past.
func (p *past) add(e api.Event) {
	if at, is := p.source(e); is && p.asked(e) {
		p.used[at] = p.events
	}
	m := marked(e.Kind, e)
	if _, is := p.first[m]; !is {
		p.first[m] = p.events
	}
	if e.Kind == api.EvTaken {
		p.taken[e.Who] = p.events
	} else {
		p.sessions[e.Session] = p.after(e)
	}
	p.events++
}

// after returns what became of the session of the next event, with this event.
func (p *past) after(e api.Event) session {
	s := p.sessions[e.Session]
	switch e.Kind {
	case api.EvRunning, api.EvCommit:
		if s.exchanges == 0 {
			s.identifier = e.Done.Session
			s.committed = p.isSafe() // no running is
		}
		s.exchanges++
	case api.EvAccept:
		s.accepted = true
	case api.EvLet:
		s.let = true
	case api.EvEnd:
		s.ended = true
	}
	return s
}

// isSafe reports whether the next event is safe.
func (p *past) isSafe() bool {
	_, is := slices.BinarySearch(p.safe, p.events)
	return is
}

// asked reports whether the next event must have a source.
func (p *past) asked(e api.Event) bool {
	if e.Kind == api.EvLet {
		return p.sessions[e.Session].committed
	}
	return p.isSafe()
}

// source returns the index of the next event's source, and whether it has one.
func (p *past) source(e api.Event) (int, bool) {
	switch e.Kind {
	case api.EvCommit:
		return p.lookUp(marked(api.EvRunning, e))
	case api.EvAccept:
		return p.lookUp(marked(api.EvRequest, e))
	case api.EvLet:
		return p.lookUp(marked(api.EvAccept, e))
	}
	return 0, false
}

func (p *past) lookUp(m mark) (int, bool) {
	at, is := p.first[m]
	return at, is
}

// marked returns what an event has in common with a source, or a source with an event, where
// kind is the kind of the source.
func marked(kind int, e api.Event) mark {
	if kind == api.EvRunning {
		return mark{kind: kind, who: e.Who, done: e.Done}
	}
	return mark{kind: kind, who: e.Who, user: e.User, service: e.Service, alg: e.Alg, sid: e.Sid}
}
