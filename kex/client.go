package kex

import (
	"shibboleth/api"
	"shibboleth/field"
	"shibboleth/gex"
	"shibboleth/msg"
	"shibboleth/share"
	"shibboleth/sign"
)

// ask returns the client's opening message for the chosen method, unless it was guessed.
func (x *Exchange) ask(right bool) ([]string, error) {
	x.wants = replyOrGroup
	if x.asks() {
		x.done.Wish = x.conf.Wish
	}
	switch {
	case x.guessed && right:
		return nil, nil
	case x.guessed:
		// The first nonce went out already, in a share that the server ignores.
		x.nonce = x.fresh(1)
	}
	payload, err := x.open(x.done.Method)
	return []string{payload}, err
}

// open returns the client's opening message for a method.
func (x *Exchange) open(method int) (string, error) {
	if curve, is := gex.Curve(method); is {
		x.group = curve
		return x.offer(curveShare)
	}
	var sizes []api.Field
	for _, n := range x.conf.Wish {
		sizes = append(sizes, api.Field{Kind: 'u', N: int(n)})
	}
	return msg.Encode(api.Msg{Num: groupRequest, Fields: sizes})
}

// offer returns a message with the client's share.
func (x *Exchange) offer(num int) (string, error) {
	x.done.E = share.Offer(x.arena, x.group, x.nonce)
	return x.message(num, x.done.E)
}

// join takes the group that the server has picked.
func (x *Exchange) join(m api.Msg) ([]string, error) {
	g := api.Group{P: msg.Get(m, 0).S, G: msg.Get(m, 1).S}
	if err := gex.Check(x.conf.Wish[0], x.conf.Wish[2], g); err != nil {
		return nil, err
	}
	if err := x.enter(g); err != nil {
		return nil, err
	}
	x.wants = groupReply
	payload, err := x.offer(groupShare)
	return []string{payload}, err
}

// finish takes the server's reply: its public key, its share and its signature.
func (x *Exchange) finish(m api.Msg) ([]string, error) {
	a, d := x.arena, &x.done
	d.Key = field.Of(a, msg.Get(m, 0).S)
	d.F = field.Of(a, msg.Get(m, 1).S)
	sig := field.Of(a, msg.Get(m, 2).S)
	if err := x.agree(d.F); err != nil {
		return nil, err
	}
	if err := sign.CheckHost(a, d.Choice.Host, x.conf.Peer, d.Key, sig, d.Hash); err != nil {
		return nil, err
	}
	if err := x.derive(); err != nil {
		return nil, err
	}
	x.state = complete
	return nil, nil
}
