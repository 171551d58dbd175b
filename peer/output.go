package peer

import (
	"shibboleth/api"
	"shibboleth/fault"
	"shibboleth/msg"
	"shibboleth/order"
)

// atSend is the location of what can't be packed.
const atSend = "send"

// emit notes that a unit goes out.
func (p *Peer) emit(u api.Unit) {
	p.move.Out = append(p.move.Out, u)
}

// happen notes that events occur in this session.
func (p *Peer) happen(events ...api.Event) {
	for _, e := range events {
		e.Session = p.number
		p.move.Events = append(p.move.Events, e)
	}
}

// tell sends a message.
func (p *Peer) tell(num int, fields ...api.Field) error {
	payload, err := encode(num, fields...)
	if err != nil {
		return err
	}
	return p.send(payload)
}

// sendAll sends what a lower layer has answered, unless that is an error.
func (p *Peer) sendAll(payloads []string, err error) error {
	if err != nil {
		return err
	}
	for _, s := range payloads {
		if err := p.send(s); err != nil {
			return err
		}
	}
	return nil
}

// send sends a payload, or queues it until it may be sent.
func (p *Peer) send(payload string) error {
	if p.isExchanging() && !order.May(true, int(payload[0])) {
		p.queue = append(p.queue, payload)
		return nil
	}
	return p.pack(payload)
}

// isExchanging reports whether the own message 20 was the last one of 20 and 21 to be sent.
func (p *Peer) isExchanging() bool {
	return p.exchange != nil && p.phase != api.PhNew
}

// pack sends a payload as a packet.
func (p *Peer) pack(payload string) error {
	u, e := p.out.pack(p.arena, payload)
	if e != api.OK {
		return fault.Of(atSend, e)
	}
	p.emit(u)
	return nil
}

// fail ends the session with an error, which the other side is told if that can be packed.
func (p *Peer) fail(err error) {
	p.err = fault.At(where, err)
	reason := fault.Reason(err)
	p.tell(disconnect, api.Field{Kind: 'u', N: reason}, text(fault.Code(err).Error()), text(""))
	p.end(reason)
}

// end ends the session: whatever is left of input and output is forgotten.
func (p *Peer) end(reason int) {
	p.happen(api.Event{Kind: api.EvEnd, Number: reason})
	p.phase = api.PhDead
	p.input.Close()
	p.queue = nil
}

// encode returns the payload of a message.
func encode(num int, fields ...api.Field) (string, error) {
	return msg.Encode(api.Msg{Num: num, Fields: fields})
}

// text returns a text as a value.
func text(s string) api.Field {
	return api.Field{Kind: 's', S: s}
}
