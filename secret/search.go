package secret

import "shibboleth/api"

// A search finds the available terms. What it finds can make further terms constructible, among
// them keys of sealed terms that could not be opened before. Only those are asked about again,
// so that a long chain of terms, each of which opens the next one, does not take a round each.
type search struct {
	mind    *Mind
	found   []api.ID            // the available terms in the order in which they were found
	parents map[api.ID][]api.ID // by a term: those that may depend on it, and could not be constructed or opened
}

// begin makes the terms that exist available. The adversary has them by steps of that kind.
func (s *search) begin(kind int, l []api.ID) {
	for i, t := range l {
		if _, is := s.mind.arena.View(t); is {
			s.find(t, api.Op{Kind: kind, A: i})
		}
	}
}

// finish finds all that follows from what was found.
func (s *search) finish() {
	for next := 0; next < len(s.found); next++ {
		s.look(s.found[next])
	}
}

// find makes t available, as the result of a step.
func (s *search) find(t api.ID, op api.Op) {
	m := s.mind
	if m.Has(t) {
		return
	}
	m.had[t] = struct{}{}
	m.answers[t] = possible
	// The plan may yield it already, as the key of something or as a part of one.
	if _, is := m.plan.steps[t]; !is {
		m.plan.steps[t] = m.plan.add(op)
	}
	s.found = append(s.found, t)
}

// look does all that the availability of t brings about.
func (s *search) look(t api.ID) {
	m := s.mind
	v, _ := m.arena.View(t)
	switch v.Kind {
	case api.TmList:
		for i, x := range v.Args {
			s.find(x, api.Op{Kind: api.OpAt, A: m.plan.steps[t], B: i})
		}
	case api.TmSeal:
		s.await(t, v.Args[:1])
		s.open(t, v)
	case api.TmShare:
		for _, x := range v.Args {
			m.raised[x] = append(m.raised[x], t)
		}
		// Other shares with the same exponents may be raised from this one.
		for _, x := range v.Args {
			s.tell(x)
		}
	}
	s.tell(t)
}

// open makes the content of a sealed term available if its key can be constructed.
func (s *search) open(t api.ID, v api.Node) {
	m := s.mind
	key, content := v.Args[0], v.Args[1]
	// The recipe for the key has to be written now, of what is available without the content:
	// the key may be inside.
	if !m.Has(content) && m.can(key) {
		s.find(content, api.Op{Kind: api.OpOpen, A: m.plan.steps[t], B: m.write(&m.plan, key)})
	}
}

// await notes that t may depend on its parts. Once all is found nothing can change any more.
func (s *search) await(t api.ID, parts []api.ID) {
	if s == nil {
		return
	}
	for _, x := range parts {
		s.parents[x] = append(s.parents[x], t)
	}
}

// tell asks again about all that may depend on t.
func (s *search) tell(t api.ID) {
	for _, x := range s.parents[t] {
		s.retry(x)
	}
}

// retry opens a sealed term, or constructs another term, if that is possible now.
func (s *search) retry(t api.ID) {
	m := s.mind
	v, _ := m.arena.View(t)
	if m.Has(t) && v.Kind == api.TmSeal {
		s.open(t, v)
	} else if m.answers[t] == impossible && m.derivable(v) {
		m.answers[t] = possible
		s.tell(t)
	}
}
