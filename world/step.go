package world

import (
	"iter"
	"slices"

	"shibboleth/api"
	"shibboleth/conf"
	"shibboleth/frame"
	"shibboleth/line"
	"shibboleth/payload"
	"shibboleth/peer"
	"shibboleth/recipe"
	"shibboleth/seal"
)

const (
	terminator = "\r\n" // of a line
	bad        = "\xff" // a byte with which nothing begins
)

// Do performs a step, unless it is ill-formed, and reports whether it is not.
func (w *World) Do(x api.Step) bool {
	if w == nil || w.arena == nil {
		return false
	}
	switch x.Kind {
	case api.StSpawn:
		return w.spawn(x.Conf)
	case api.StTake:
		return w.compromise(x.Who)
	}
	return w.has(x.To) && w.reach(x, w.sessions[x.To].peer)
}

// reach performs a step that concerns the session p.
func (w *World) reach(x api.Step, p *peer.Peer) bool {
	switch x.Kind {
	case api.StRekey:
		w.record(x.To, p.Rekey())
		return true
	case api.StSay:
		w.record(x.To, p.Say(x.Text))
		return true
	}
	s, is := w.delivery(x)
	for piece := range pieces(s, x.Cuts) {
		w.record(x.To, p.Feed(piece))
	}
	return is
}

// spawn creates a session, and starts it.
func (w *World) spawn(c api.Conf) bool {
	number := len(w.sessions)
	// No session has MaxSessions as its number.
	p, err := peer.New(w.arena, c, number)
	if err != nil {
		return false
	}
	w.sessions = append(w.sessions, session{conf: conf.Copy(c), peer: p})
	w.record(number, p.Start())
	return true
}

// compromise makes a principal's secret key known.
func (w *World) compromise(who int) bool {
	if who < 0 || who >= api.MaxPeople {
		return false
	}
	key := w.arena.Key(who)
	if slices.Contains(w.known, key) {
		return false
	}
	w.known = append(w.known, key)
	w.events = append(w.events, api.Event{Kind: api.EvTaken, Who: who})
	return true
}

// record notes what a session has come to.
func (w *World) record(number int, m api.Move) {
	for _, u := range m.Out {
		w.sent = append(w.sent, api.Sent{Session: number, Unit: u})
	}
	w.events = append(w.events, m.Events...)
}

// delivery returns the bytes that a step delivers, and whether there are any.
func (w *World) delivery(x api.Step) (string, bool) {
	switch x.Kind {
	case api.StLine:
		return w.lineOf(w.eval(x.Ops))
	case api.StPlain:
		return w.packetOf(w.eval(x.Ops))
	case api.StSealed:
		unit, e := seal.Unit(w.arena, w.eval(x.Ops))
		return unit, e == api.OK
	case api.StBad:
		return bad, true
	case api.StPass:
		if x.Who < 0 || x.Who >= len(w.sent) {
			return "", false
		}
		return w.sent[x.Who].Unit.Bytes, true
	}
	return "", false
}

// lineOf returns the line whose bytes are the data t, with the line terminator.
func (w *World) lineOf(t api.ID) (string, bool) {
	v, _ := w.arena.View(t)
	s := v.S + terminator
	// It need not be one that a session accepts, only one that a session reads, as a whole.
	found, _, _ := line.Scan(s)
	if v.Kind != api.TmData || found != v.S {
		return "", false
	}
	return s, true
}

// packetOf returns the plain packet of the payload whose term is t.
func (w *World) packetOf(t api.ID) (string, bool) {
	s, is := payload.Bytes(w.arena, t)
	if !is {
		return "", false
	}
	// It is no packet if the payload is empty.
	unit, e := frame.Pack(s)
	return unit, e == api.OK
}

// eval returns the result of a recipe.
func (w *World) eval(l []api.Op) api.ID {
	return recipe.Eval(w.arena, w.known, w.Terms(), l)
}

// pieces yields s in pieces of these sizes, as long as something is left, and then the rest.
func pieces(s string, cuts []int) iter.Seq[string] {
	return func(yield func(string) bool) {
		rest := s
		for _, size := range cuts {
			if rest == "" {
				return
			}
			n := min(max(size, 1), len(rest))
			if !yield(rest[:n]) {
				return
			}
			rest = rest[n:]
		}
		if rest != "" {
			yield(rest)
		}
	}
}
