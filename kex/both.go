package kex

import (
	"shibboleth/api"
	"shibboleth/fault"
	"shibboleth/field"
	"shibboleth/gex"
	"shibboleth/keys"
	"shibboleth/msg"
	"shibboleth/share"
	"shibboleth/trans"
)

// enter makes the exchange use a group that a client has asked for.
func (x *Exchange) enter(g api.Group) error {
	name, e := gex.Name(g)
	if e != api.OK {
		return fault.Of("group", e)
	}
	x.group, x.done.Group = name, g
	return nil
}

// agree works out the secret that the other side's share makes, and the exchange hash.
func (x *Exchange) agree(theirs api.ID) error {
	d := &x.done
	secret, e := share.Secret(x.arena, x.group, theirs, x.nonce)
	if e != api.OK {
		return fault.Of("share", e)
	}
	d.K = secret
	d.Hash = trans.Hash(x.arena, trans.Parts{
		VC: d.VC, VS: d.VS, IC: d.IC, IS: d.IS,
		Key:  d.Key,
		Asks: x.asks(), Wish: d.Wish, Group: d.Group,
		E: d.E, F: d.F, K: d.K,
	})
	if d.Hash == api.None {
		return fault.Of("hash", api.ErrLong)
	}
	if x.number == 0 {
		d.Session = d.Hash
	}
	return nil
}

// derive works out the keys of both directions.
func (x *Exchange) derive() error {
	d := &x.done
	d.Up, d.Down = keys.Both(x.arena, d.K, d.Hash, d.Session)
	if d.Up == api.None || d.Down == api.None {
		return fault.Of("keys", api.ErrLong)
	}
	return nil
}

// message returns the payload of a message whose fields are terms.
func (x *Exchange) message(num int, terms ...api.ID) (string, error) {
	var fields []api.Field
	for _, t := range terms {
		s, _ := field.Bytes(x.arena, t)
		fields = append(fields, api.Field{Kind: 't', S: s})
	}
	return msg.Encode(api.Msg{Num: num, Fields: fields})
}
