package relay

import (
	"strings"

	"shibboleth/api"
	"shibboleth/choose"
	"shibboleth/deny"
	"shibboleth/gex"
	"shibboleth/names"
	"shibboleth/prefs"
	"shibboleth/term"
)

// refusal is what the messages start with by which a server refuses requests: their number, 51.
const refusal = "\x33"

// Outcome returns what the relay has come to so far.
func (x *Relay) Outcome() api.Outcome {
	o := told(x.Look)
	for _, e := range x.Events() {
		switch e.Kind {
		case api.EvCommit:
			o.Commit = true
		case api.EvAccept:
			o.Who = e.Who
		}
	}
	return o
}

// told returns what the sessions, whose states look returns, tell of the outcome.
func told(look func(server bool) api.Look) api.Outcome {
	client, server := look(false), look(true)
	return api.Outcome{
		Client:   client.In,
		Server:   server.In,
		Failures: failures(server),
		Wrong:    wrong(client.Code, server.Code),
	}
}

// failures returns how many requests a server has refused. It tells the client of the last one in
// another way if it gives up.
func failures(server api.Look) int {
	n := 0
	for _, payload := range server.Sent {
		if strings.HasPrefix(payload, refusal) {
			n++
		}
	}
	if server.Code == api.ErrAuth {
		n++
	}
	return n
}

// wrong returns the numbers of the errors of both sides.
func wrong(client, server api.Errno) [2]api.Errno {
	return [2]api.Errno{client, server}
}

// Expect returns the outcome that is expected for a client and a server.
func Expect(client, server api.Conf) (api.Outcome, error) {
	if err := check(client, server); err != nil {
		return api.Outcome{}, err
	}
	choice, err := choose.Choose(client.Prefs, server.Prefs)
	switch {
	case err != nil:
		return api.Outcome{Wrong: wrong(api.ErrAlg, api.ErrAlg)}, nil
	case !hasGroup(prefs.Method(choice.Kex), client.Wish):
		return api.Outcome{Wrong: wrong(api.OK, api.ErrRange)}, nil
	case client.Peer != server.Own:
		return api.Outcome{Wrong: wrong(api.ErrHost, api.OK)}, nil
	}
	return expectLogin(client, server), nil
}

// hasGroup reports whether there is a group for the requested sizes, if the method asks for one.
func hasGroup(method int, wish [3]uint32) bool {
	if method != api.MeGex {
		return true
	}
	_, err := gex.Pick(wish[0], wish[1], wish[2])
	return err == nil
}

// expectLogin returns the expected outcome of a client that commits.
func expectLogin(client, server api.Conf) api.Outcome {
	// There is a gate for what is part of a configuration that was checked.
	gate, _ := deny.New(server.Grants, server.Algs, server.Limit)
	a := term.New()
	alg, keys := login(client, server)
	for _, who := range keys {
		switch {
		case gate.Has(a, client.User, alg, a.Pub(a.Key(who))):
			return api.Outcome{Commit: true, Client: true, Server: true, Who: who, Failures: gate.Failures()}
		case gate.Fail():
			return api.Outcome{Commit: true, Failures: gate.Failures(), Wrong: wrong(api.OK, api.ErrAuth)}
		}
	}
	return api.Outcome{Commit: true, Failures: gate.Failures(), Wrong: wrong(api.ErrAuth, api.OK)}
}

// login returns the algorithm by which a client tries to log in, and the keys that it tries: none
// if it has no algorithm.
func login(client, server api.Conf) (string, []int) {
	if !client.Ext {
		return client.Algs[0], client.Keys
	}
	alg, is := names.First(client.Algs, server.Algs)
	if !is {
		return "", nil
	}
	return alg, client.Keys
}
