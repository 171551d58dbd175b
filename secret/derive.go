package secret

import (
	"slices"

	"shibboleth/api"
)

// adversary is the participant whose nonces a recipe may use.
const adversary = 0

// An answer is kept for a term that may be asked about again: without that, the time would grow
// with the number of ways in which a term can be taken apart.
type answer int

const (
	unasked answer = iota
	possible
	impossible
)

// can reports whether t can be constructed of the terms that are available so far.
func (m *Mind) can(t api.ID) bool {
	if x := m.answers[t]; x != unasked {
		return x == possible
	}
	v, is := m.arena.View(t)
	if !is {
		// The arena may come to have such a term later: that is no answer to be kept.
		return false
	}
	if m.derivable(v) {
		m.answers[t] = possible
		return true
	}
	m.answers[t] = impossible
	m.search.await(t, v.Args)
	return false
}

// derivable reports whether a term that is not available itself can be constructed.
func (m *Mind) derivable(v api.Node) bool {
	switch v.Kind {
	case api.TmKey:
		return false
	case api.TmNonce:
		return v.A == adversary
	case api.TmShare:
		_, _, is := m.start(v)
		return is
	}
	return m.canAll(v.Args)
}

func (m *Mind) canAll(l []api.ID) bool {
	for _, t := range l {
		if !m.can(t) {
			return false
		}
	}
	return true
}

// start returns an available share, or None for the base, from which a share can be raised, the
// exponents that remain, and whether that is possible.
func (m *Mind) start(v api.Node) (api.ID, []api.ID, bool) {
	// A share is of use only if it has all missing exponents already: those with the one that the
	// fewest have are enough to look at.
	var shares []api.ID
	complete := true
	for _, x := range v.Args {
		if m.can(x) {
			continue
		}
		if complete || len(m.raised[x]) < len(shares) {
			shares = m.raised[x]
		}
		complete = false
	}
	if complete {
		return api.None, v.Args, true
	}
	for _, share := range shares {
		w, _ := m.arena.View(share)
		rest, is := without(v.Args, w.Args)
		if is && w.S == v.S && m.canAll(rest) {
			return share, rest, true
		}
	}
	return api.None, nil, false
}

// without returns what remains of all without some, each as often as it is there, and whether all
// of them are among all.
func without(all, some []api.ID) ([]api.ID, bool) {
	rest := slices.Clone(all)
	for _, t := range some {
		i := slices.Index(rest, t)
		if i < 0 {
			return nil, false
		}
		rest = slices.Delete(rest, i, i+1)
	}
	return rest, true
}
