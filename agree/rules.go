package agree

import "shibboleth/api"

// A rule tells whether an event keeps it, after all events of a past.
type rule struct {
	name  string
	holds func(e api.Event) bool
}

// violated returns the name of the first rule that an event violates, "" if it violates none.
func violated(rules []rule, e api.Event) string {
	for _, r := range rules {
		if !r.holds(e) {
			return r.name
		}
	}
	return ""
}

// rules returns the rules in their order. They judge the event that follows what p knows when
// they are asked.
func (p *past) rules() []rule {
	return []rule{
		{"end", func(e api.Event) bool {
			return e.Kind == api.EvTaken || !p.sessions[e.Session].ended
		}},
		{"taken", func(e api.Event) bool {
			_, twice := p.taken[e.Who]
			return e.Kind != api.EvTaken || !twice
		}},
		{"number", func(e api.Event) bool {
			return !isExchange(e) || e.Number == p.sessions[e.Session].exchanges
		}},
		{"session", func(e api.Event) bool {
			return !isExchange(e) || e.Done.Session == p.identifier(e)
		}},
		{"early", func(e api.Event) bool {
			s := p.sessions[e.Session]
			return !isLogin(e) || s.exchanges > 0 && e.Sid == s.identifier
		}},
		{"again", func(e api.Event) bool {
			s := p.sessions[e.Session]
			return !(e.Kind == api.EvAccept && s.accepted || e.Kind == api.EvLet && s.let)
		}},
		{"commit", p.sourced(api.EvCommit)},
		{"accept", p.sourced(api.EvAccept)},
		{"let", p.sourced(api.EvLet)},
		{"twice", func(e api.Event) bool {
			// Events with the same source are of the same kind.
			at, is := p.source(e)
			_, twice := p.used[at]
			return !is || !p.asked(e) || !twice
		}},
	}
}

// sourced returns whether an event of that kind has a source if it must have one.
func (p *past) sourced(kind int) func(e api.Event) bool {
	return func(e api.Event) bool {
		if e.Kind != kind || !p.asked(e) {
			return true
		}
		_, is := p.source(e)
		return is
	}
}

// identifier returns what the session identifier of an exchange event has to be.
func (p *past) identifier(e api.Event) api.ID {
	if s := p.sessions[e.Session]; s.exchanges > 0 {
		return s.identifier
	}
	return e.Done.Hash
}
