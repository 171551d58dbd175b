package peer

import (
	"shibboleth/api"
	"shibboleth/authc"
	"shibboleth/auths"
	"shibboleth/kex"
	"shibboleth/msg"
	"shibboleth/names"
)

// announcement is the extension by which a server announces the algorithms that it accepts.
const announcement = "server-sig-algs"

// begin begins the session's next exchange.
func (p *Peer) begin() error {
	x, err := kex.New(p.arena, p.conf, p.number, p.over, p.session)
	if err != nil {
		return err
	}
	p.exchange = x
	return p.sendAll(x.Begin())
}

// meet takes the other side's initialization, by which it may be the one to begin the exchange.
func (p *Peer) meet(payload string) error {
	if p.exchange == nil {
		if err := p.begin(); err != nil {
			return err
		}
	}
	if err := p.sendAll(p.exchange.Init(p.version, payload)); err != nil {
		return err
	}
	p.phase = api.PhKex
	return nil
}

// negotiate takes a message of the exchange.
func (p *Peer) negotiate(payload string) error {
	if err := p.sendAll(p.exchange.Take(payload)); err != nil {
		return err
	}
	if !p.exchange.Over() {
		return nil
	}
	return p.renew()
}

// renew seals what is sent from now on with the key of the exchange, which is complete.
func (p *Peer) renew() error {
	done, _ := p.exchange.Done()
	p.session = done.Session
	p.happen(p.outcome(done))
	if err := p.tell(newkeys); err != nil {
		return err
	}
	p.out.key, _ = p.keys(done)
	p.phase = api.PhNew
	if p.exchange.Ext() {
		if err := p.announce(); err != nil {
			return err
		}
	}
	held := p.queue
	p.queue = nil
	return p.sendAll(held, nil)
}

// outcome returns what happens when the exchange is complete.
func (p *Peer) outcome(done api.Done) api.Event {
	e := api.Event{Kind: api.EvCommit, Number: p.over, Who: p.conf.Peer, Done: done}
	if p.conf.Server {
		e.Kind, e.Who = api.EvRunning, p.conf.Own
	}
	return e
}

// keys returns the keys of output and of input that an exchange has produced.
func (p *Peer) keys(done api.Done) (out, in api.ID) {
	if p.conf.Server {
		return done.Down, done.Up
	}
	return done.Up, done.Down
}

// announce tells the client which algorithms the server accepts.
func (p *Peer) announce() error {
	// The names of a configuration that was checked have a text.
	algs, _ := names.Join(p.conf.Algs)
	return p.tell(extInfo, api.Field{Kind: 'e', L: []string{announcement, algs}})
}

// finish takes the other side's message 21: what it sends from now on is sealed with the new key.
func (p *Peer) finish(payload string) error {
	if _, err := msg.Decode(payload); err != nil {
		return err
	}
	done, _ := p.exchange.Done()
	_, p.in.key = p.keys(done)
	p.phase, p.exchange = api.PhOpen, nil
	p.over++
	if p.over > 1 {
		return nil
	}
	return p.open()
}

// open creates the authentication layer, which a client starts.
func (p *Peer) open() error {
	if p.conf.Server {
		server, err := auths.New(p.arena, p.conf, p.session)
		if err != nil {
			return err
		}
		p.auth = server
		return nil
	}
	client, err := authc.New(p.arena, p.conf, p.session)
	if err != nil {
		return err
	}
	p.auth = client
	return p.sendAll(client.Start())
}

// authenticate takes a message of the authentication layer.
func (p *Peer) authenticate(payload string) error {
	payloads, events, err := p.auth.Take(payload)
	if err != nil {
		return err
	}
	p.inside = p.auth.In()
	p.happen(events...)
	return p.sendAll(payloads, nil)
}
