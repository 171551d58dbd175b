// Package term is layer 1: symbolic terms. An arena holds each term once, so that equal terms are
// known by their equal numbers. See shared/doc/01-term.md.
package term

import (
	"cmp"
	"slices"
	"strings"

	"shibboleth/api"
)

// Arena is a set of terms, each of which has a number. The zero Arena has no terms.
type Arena struct {
	terms   []entry
	numbers map[shape]api.ID
}

// shape describes a term completely: two terms of an arena are equal exactly if their shapes are.
type shape struct {
	kind int
	a    int
	b    int
	s    string
	args string // the subterms' numbers, packed: a slice could not be part of a map's key
}

type entry struct {
	shape
	size int
}

// The number of bytes of a term's size that do not belong to a text or to a subterm.
const (
	ownData   = 5
	ownNonce  = 9
	ownKey    = 5
	ownPub    = 1
	ownShare  = 9
	ownSig    = 5
	ownHash   = 1
	ownDerive = 2
	ownSeal   = 5
	ownList   = 5
)

// New returns an arena without terms.
func New() *Arena {
	return &Arena{numbers: map[shape]api.ID{}}
}

// Len returns the number of terms.
func (a *Arena) Len() int {
	if a == nil {
		return 0
	}
	return len(a.terms)
}

// Data returns the term of the bytes s.
func (a *Arena) Data(s string) api.ID {
	return a.build(shape{kind: api.TmData, s: s}, ownData)
}

// Nonce returns the n-th nonce of the participant who.
func (a *Arena) Nonce(who, n int) api.ID {
	if !isNumber(who) || !isNumber(n) {
		return api.None
	}
	return a.build(shape{kind: api.TmNonce, a: who, b: n}, ownNonce)
}

// Key returns the secret key of the principal who.
func (a *Arena) Key(who int) api.ID {
	if !isNumber(who) {
		return api.None
	}
	return a.build(shape{kind: api.TmKey, a: who}, ownKey)
}

// Pub returns the public key of a secret key.
func (a *Arena) Pub(key api.ID) api.ID {
	if a.Kind(key) != api.TmKey {
		return api.None
	}
	return a.build(shape{kind: api.TmPub}, ownPub, key)
}

// Base returns the base of a group: the share without exponents.
func (a *Arena) Base(group string) api.ID {
	if len(group) < 1 || len(group) > api.MaxGroup {
		return api.None
	}
	return a.build(shape{kind: api.TmShare, s: group}, ownShare)
}

// Exp returns the share raised to one exponent more, the nonce x.
func (a *Arena) Exp(share, x api.ID) api.ID {
	if a.Kind(share) != api.TmShare || a.Kind(x) != api.TmNonce {
		return api.None
	}
	old := a.terms[share]
	exps := append(unpack(old.args), x)
	if len(exps) > api.MaxExps {
		return api.None
	}
	// One order for all: the order of raising must not make a difference.
	slices.SortFunc(exps, a.compareNonces)
	return a.build(shape{kind: api.TmShare, s: old.s}, ownShare, exps...)
}

// Sign returns the signature by the algorithm alg with a secret key on t.
func (a *Arena) Sign(alg string, key, t api.ID) api.ID {
	if len(alg) < 1 || len(alg) > api.MaxText || a.Kind(key) != api.TmKey {
		return api.None
	}
	return a.build(shape{kind: api.TmSig, s: alg}, ownSig, key, t)
}

// Hash returns the hash of t.
func (a *Arena) Hash(t api.ID) api.ID {
	return a.build(shape{kind: api.TmHash}, ownHash, t)
}

// Derive returns the key with that letter that is derived from a secret, a hash and a session.
func (a *Arena) Derive(letter byte, secret, hash, session api.ID) api.ID {
	return a.build(shape{kind: api.TmDerive, b: int(letter)}, ownDerive, secret, hash, session)
}

// Seal returns t sealed with key as number n. Any term may serve as the key.
func (a *Arena) Seal(key api.ID, n uint32, t api.ID) api.ID {
	return a.build(shape{kind: api.TmSeal, b: int(n)}, ownSeal, key, t)
}

// List returns the list of the terms l.
func (a *Arena) List(l ...api.ID) api.ID {
	if len(l) > api.MaxArgs {
		return api.None
	}
	return a.build(shape{kind: api.TmList}, ownList, l...)
}

// View returns the term t, taken apart one level deep, and whether there is such a term.
func (a *Arena) View(t api.ID) (api.Node, bool) {
	if !a.has(t) {
		return api.Node{}, false
	}
	e := a.terms[t]
	return api.Node{Kind: e.kind, A: e.a, B: e.b, S: e.s, Args: unpack(e.args)}, true
}

// Kind returns the kind of t, 0 if there is no such term.
func (a *Arena) Kind(t api.ID) int {
	if !a.has(t) {
		return 0
	}
	return a.terms[t].kind
}

// Size returns the size of t, 0 if there is no such term.
func (a *Arena) Size(t api.ID) int {
	if !a.has(t) {
		return 0
	}
	return a.terms[t].size
}

func (a *Arena) has(t api.ID) bool {
	return a != nil && t >= 0 && int(t) < len(a.terms)
}

// build returns the term of that shape with the subterms args, of which own bytes and its text
// are its own; None if a subterm is missing or the term would be too large.
func (a *Arena) build(sh shape, own int, args ...api.ID) api.ID {
	if a == nil {
		return api.None
	}
	size := own + len(sh.s)
	for _, t := range args {
		if !a.has(t) {
			return api.None
		}
		size += a.terms[t].size
	}
	if size > api.MaxTerm {
		return api.None
	}
	sh.args = pack(args)
	return a.number(entry{sh, size})
}

// number returns the number of a term, which is a new one if the arena does not have it yet.
func (a *Arena) number(e entry) api.ID {
	if t, is := a.numbers[e.shape]; is {
		return t
	}
	if a.numbers == nil {
		a.numbers = map[shape]api.ID{}
	}
	// The text may be a small piece of a long one, which the arena must not keep alive.
	e.s = strings.Clone(e.s)
	t := api.ID(len(a.terms))
	a.terms = append(a.terms, e)
	a.numbers[e.shape] = t
	return t
}

// compareNonces orders nonces by whose they are, then by which one they are.
func (a *Arena) compareNonces(x, y api.ID) int {
	p, q := a.terms[x], a.terms[y]
	return cmp.Or(cmp.Compare(p.a, q.a), cmp.Compare(p.b, q.b))
}

func isNumber(n int) bool {
	return n >= 0 && n <= api.MaxNumber
}

// packed is how many bytes a term's number takes up: no arena comes to 2^32 terms.
const packed = 4

func pack(l []api.ID) string {
	b := make([]byte, 0, packed*len(l))
	for _, t := range l {
		b = append(b, byte(t>>24), byte(t>>16), byte(t>>8), byte(t))
	}
	return string(b)
}

// unpack returns what was packed, in new memory: it may be handed out and changed.
func unpack(s string) []api.ID {
	l := make([]api.ID, 0, len(s)/packed)
	for ; len(s) >= packed; s = s[packed:] {
		l = append(l, api.ID(s[0])<<24|api.ID(s[1])<<16|api.ID(s[2])<<8|api.ID(s[3]))
	}
	return l
}
