// Package code is layer 2: the encoding of terms as bytes. See shared/doc/02-code.md.
package code

import (
	"shibboleth/api"
	"shibboleth/term"
)

// mark is what the first byte of an encoding exceeds the term's kind by.
const mark = 240

// U32 returns n as a four-byte number.
func U32(n uint32) string {
	return string([]byte{byte(n >> 24), byte(n >> 16), byte(n >> 8), byte(n)})
}

// Encode returns the encoding of t, the empty string if there is no such term.
func Encode(a *term.Arena, t api.ID) string {
	if _, is := a.View(t); !is {
		return ""
	}
	// One buffer for all: joining the subterms' strings would take quadratic time for deep terms.
	out := make([]byte, 0, a.Size(t))
	var put func(t api.ID)
	put = func(t api.ID) {
		v, _ := a.View(t)
		out = append(out, head(v)...)
		for _, x := range v.Args {
			put(x)
		}
	}
	put(t)
	return string(out)
}

// Decode returns the term, in the arena, of which s is the encoding.
func Decode(a *term.Arena, s string) (api.ID, api.Errno) {
	switch {
	case a == nil:
		return api.None, api.ErrArg
	case len(s) > api.MaxTerm:
		return api.None, api.ErrLong
	}
	r := &reader{arena: a, rest: s}
	t := r.term()
	if r.bad || r.rest != "" || t == api.None {
		return api.None, api.ErrForm
	}
	return t, api.OK
}

// Opaque reports whether s is the encoding of a term that is not data.
func Opaque(s string) bool {
	a := term.New()
	t, e := Decode(a, s)
	return e == api.OK && a.Kind(t) != api.TmData
}

// head returns what precedes the encodings of a term's subterms.
func head(v api.Node) string {
	kind := string([]byte{byte(mark + v.Kind)})
	switch v.Kind {
	case api.TmData, api.TmSig:
		return kind + counted(v.S)
	case api.TmNonce:
		return kind + U32(uint32(v.A)) + U32(uint32(v.B))
	case api.TmKey:
		return kind + U32(uint32(v.A))
	case api.TmShare:
		return kind + counted(v.S) + U32(uint32(len(v.Args)))
	case api.TmDerive:
		return kind + string([]byte{byte(v.B)})
	case api.TmSeal:
		return kind + U32(uint32(v.B))
	case api.TmList:
		return kind + U32(uint32(len(v.Args)))
	}
	return kind
}

func counted(s string) string {
	return U32(uint32(len(s))) + s
}
