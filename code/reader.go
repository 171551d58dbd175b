package code

import (
	"slices"

	"shibboleth/api"
	"shibboleth/term"
)

// reader reads terms from bytes. Once something is bad, nothing is left, and so nothing more is
// read: what is answered from then on has no meaning.
type reader struct {
	arena *term.Arena
	rest  string
	bad   bool
}

func (r *reader) fail() {
	r.rest, r.bad = "", true
}

func (r *reader) take(n uint32) string {
	if uint64(n) > uint64(len(r.rest)) {
		r.fail()
		return ""
	}
	s := r.rest[:n]
	r.rest = r.rest[n:]
	return s
}

func (r *reader) octet() byte {
	s := r.take(1)
	if r.bad {
		return 0
	}
	return s[0]
}

func (r *reader) u32() uint32 {
	s := r.take(4)
	if r.bad {
		return 0
	}
	return uint32(s[0])<<24 | uint32(s[1])<<16 | uint32(s[2])<<8 | uint32(s[3])
}

func (r *reader) counted() string {
	return r.take(r.u32())
}

// terms reads a number, at most limit, and as many terms.
func (r *reader) terms(limit uint32) []api.ID {
	n := r.u32()
	if n > limit {
		r.fail()
		return nil
	}
	var l []api.ID
	for range n {
		l = append(l, r.term())
	}
	return l
}

// term reads a term. What is not permitted is left to the arena, which answers None for it, and
// for each term around it.
func (r *reader) term() api.ID {
	a := r.arena
	switch int(r.octet()) - mark {
	case api.TmData:
		return a.Data(r.counted())
	case api.TmNonce:
		return a.Nonce(int(r.u32()), int(r.u32()))
	case api.TmKey:
		return a.Key(int(r.u32()))
	case api.TmPub:
		return a.Pub(r.term())
	case api.TmShare:
		return r.share()
	case api.TmSig:
		return a.Sign(r.counted(), r.term(), r.term())
	case api.TmHash:
		return a.Hash(r.term())
	case api.TmDerive:
		return a.Derive(r.octet(), r.term(), r.term(), r.term())
	case api.TmSeal:
		return r.sealed()
	case api.TmList:
		return a.List(r.terms(api.MaxArgs)...)
	}
	r.fail()
	return api.None
}

// sealed reads the rest of a sealed term: the number comes first, unlike in the arena's call.
func (r *reader) sealed() api.ID {
	n, key, t := r.u32(), r.term(), r.term()
	return r.arena.Seal(key, n, t)
}

// share reads the rest of a share, whose exponents must be in the order in which they are encoded.
func (r *reader) share() api.ID {
	t := r.arena.Base(r.counted())
	exps := r.terms(api.MaxExps)
	for _, x := range exps {
		t = r.arena.Exp(t, x)
	}
	v, _ := r.arena.View(t)
	if !slices.Equal(v.Args, exps) {
		r.fail()
		return api.None
	}
	return t
}
