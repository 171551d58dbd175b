package kex

import (
	"shibboleth/api"
	"shibboleth/fault"
	"shibboleth/field"
	"shibboleth/gex"
	"shibboleth/msg"
	"shibboleth/share"
	"shibboleth/sign"
)

// listen makes the server wait for the opening message of the chosen method.
func (x *Exchange) listen() ([]string, error) {
	x.wants = groupRequest
	if curve, is := gex.Curve(x.done.Method); is {
		x.wants, x.group = curveShare, curve
	}
	return nil, nil
}

// pick answers the client's request with a group.
func (x *Exchange) pick(m api.Msg) ([]string, error) {
	var wish [3]uint32
	for i := range wish {
		wish[i] = uint32(msg.Get(m, i).N)
	}
	g, err := gex.Pick(wish[0], wish[1], wish[2])
	if err != nil {
		return nil, err
	}
	if err := x.enter(g); err != nil {
		return nil, err
	}
	x.wants, x.done.Wish = groupShare, wish
	payload, err := msg.Encode(api.Msg{Num: replyOrGroup, Fields: []api.Field{{Kind: 'm', S: g.P}, {Kind: 'm', S: g.G}}})
	return []string{payload}, err
}

// reply answers the client's share with the server's public key, its share and its signature.
func (x *Exchange) reply(m api.Msg) ([]string, error) {
	a, d := x.arena, &x.done
	d.E = field.Of(a, msg.Get(m, 0).S)
	d.F = share.Offer(a, x.group, x.nonce)
	d.Key = a.Pub(a.Key(x.conf.Own))
	if err := x.agree(d.E); err != nil {
		return nil, err
	}
	sig := sign.Host(a, d.Choice.Host, x.conf.Own, d.Hash)
	if sig == api.None {
		return nil, fault.Of("signature", api.ErrLong)
	}
	if err := x.derive(); err != nil {
		return nil, err
	}
	num := replyOrGroup
	if x.asks() {
		num = groupReply
	}
	payload, err := x.message(num, d.Key, d.F, sig)
	if err != nil {
		return nil, err
	}
	x.state = complete
	return []string{payload}, nil
}
