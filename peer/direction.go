package peer

import (
	"shibboleth/api"
	"shibboleth/frame"
	"shibboleth/payload"
	"shibboleth/seal"
	"shibboleth/term"
)

// direction is one of the two ways in which packets go.
type direction struct {
	key      api.ID   // the key that seals the packets, None while they are plain
	next     uint32   // the sequence number of the next packet
	payloads []string // those that were sealed
}

func (d *direction) isPlain() bool {
	return d.key == api.None
}

// pack returns the next packet, whose payload is s.
func (d *direction) pack(a *term.Arena, s string) (u api.Unit, e api.Errno) {
	t := payload.Term(a, s)
	if d.isPlain() {
		u.Bytes, e = frame.Pack(s)
		u.Term = t
	} else {
		u.Bytes, e = seal.Pack(a, d.key, d.next, s)
		u.Term = a.Seal(d.key, d.next, t)
	}
	if e != api.OK {
		return api.Unit{}, e
	}
	d.count(s)
	return u, api.OK
}

// open returns the payload of the next packet, which is a unit.
func (d *direction) open(a *term.Arena, unit string) (s string, e api.Errno) {
	if d.isPlain() {
		s, e = frame.Unpack(unit)
	} else {
		s, e = seal.Open(a, d.key, d.next, unit)
	}
	if e != api.OK {
		return "", e
	}
	d.count(s)
	return s, api.OK
}

// count counts a packet. What is none does not count: the session ends with it.
func (d *direction) count(s string) {
	d.next = seal.Next(d.next)
	if !d.isPlain() {
		d.payloads = append(d.payloads, s)
	}
}
