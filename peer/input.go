package peer

import (
	"shibboleth/api"
	"shibboleth/fault"
	"shibboleth/line"
	"shibboleth/msg"
	"shibboleth/order"
)

// The locations of what is wrong with input.
const (
	atLine   = "line"
	atUnit   = "unit"
	atPacket = "packet"
	atOrder  = "order"
)

// noReason is the reason of a session that the other side has ended.
const noReason = 0

// read consumes all lines and units that are complete.
func (p *Peer) read() error {
	for p.phase != api.PhDead {
		more, err := p.next()
		if err != nil || !more {
			return err
		}
	}
	return nil
}

// next consumes the next line or unit, and reports whether it was complete.
func (p *Peer) next() (bool, error) {
	if p.phase == api.PhLine {
		return consume(p.input.Line, atLine, p.takeLine)
	}
	return consume(p.input.Unit, atUnit, p.takeUnit)
}

// consume takes what find finds at the start of the input, and reports whether there was something.
func consume(find func() (string, bool, api.Errno), at string, take func(item string) error) (bool, error) {
	item, is, e := find()
	if e != api.OK || !is {
		return false, fault.Of(at, e)
	}
	return true, take(item)
}

// takeLine takes a line ahead of all packets.
func (p *Peer) takeLine(s string) error {
	switch {
	case line.Right(s):
		p.version, p.phase = s, api.PhInit
	case !p.conf.Server && line.Ahead(s) && p.ahead < api.MaxPre:
		p.ahead++
	default:
		return fault.Of(atLine, api.ErrLine)
	}
	return nil
}

// takeUnit takes a packet, and does with its message what the verdict on it says.
func (p *Peer) takeUnit(unit string) error {
	number := p.in.next
	s, e := p.in.open(p.arena, unit)
	if e != api.OK {
		return fault.Of(atPacket, e)
	}
	// No payload is empty.
	num := int(s[0])
	switch order.Judge(p.phase, p.over == 0, p.conf.Server, num) {
	case api.VdTake:
		return p.take(num, s)
	case api.VdPass:
		_, err := msg.Decode(s)
		return err
	case api.VdStrange:
		return p.tell(unimplemented, api.Field{Kind: 'u', N: int(number)})
	case api.VdClose:
		p.end(noReason)
		return nil
	}
	return fault.Of(atOrder, api.ErrOrder)
}

// take takes a message that may come in this phase.
func (p *Peer) take(num int, payload string) error {
	switch {
	case num == kexinit:
		return p.meet(payload)
	case num == newkeys:
		return p.finish(payload)
	case p.phase == api.PhKex:
		return p.negotiate(payload)
	}
	return p.authenticate(payload)
}
