package report

import (
	"strconv"

	"shibboleth/api"
	"shibboleth/order"
)

const (
	noTerm    = "-" // the label of what is no term
	noSession = "-" // instead of the number of a session
)

// Book is the labels of terms. The zero Book has no labels, either.
type Book struct {
	labels map[api.ID]int // by a term: the number of its label
}

// New returns a book without labels.
func New() *Book {
	return &Book{labels: map[api.ID]int{}}
}

// Label returns the label of a term, which gets the next one if it has none.
func (b *Book) Label(t api.ID) string {
	switch {
	case b == nil:
		return ""
	case t == api.None:
		return noTerm
	case b.labels == nil:
		b.labels = map[api.ID]int{}
	}
	n, is := b.labels[t]
	if !is {
		n = len(b.labels) + 1
		b.labels[t] = n
	}
	return "t" + strconv.Itoa(n)
}

// term returns the word of a key whose value is the label of a term.
func (b *Book) term(key string, t api.ID) string {
	return pair(key, b.Label(t))
}

// Event returns the line of an event.
func (b *Book) Event(e api.Event) string {
	if b == nil {
		return ""
	}
	session := strconv.Itoa(e.Session)
	switch e.Kind {
	case api.EvRunning:
		return b.exchange(session, "running", e)
	case api.EvCommit:
		return b.exchange(session, "commit", e)
	case api.EvRequest:
		return b.login(session, "request", e)
	case api.EvAccept:
		return b.login(session, "accept", e)
	case api.EvLet:
		return b.login(session, "let", e)
	case api.EvEnd:
		return line(session, "end", strconv.Itoa(e.Number))
	case api.EvTaken:
		return line(noSession, "taken", strconv.Itoa(e.Who))
	}
	return line(session, "?", strconv.Itoa(e.Kind))
}

// exchange returns the line of an event about an exchange.
func (b *Book) exchange(session, word string, e api.Event) string {
	// The labels are asked for from left to right.
	return line(session, word, strconv.Itoa(e.Number),
		number("who", e.Who),
		b.term("hash", e.Done.Hash),
		b.term("session", e.Done.Session),
		b.term("up", e.Done.Up),
		b.term("down", e.Done.Down),
		choice(e.Done.Choice),
	)
}

// login returns the line of an event about a user.
func (b *Book) login(session, word string, e api.Event) string {
	return line(session, word,
		number("who", e.Who),
		text("user", e.User),
		text("service", e.Service),
		text("alg", e.Alg),
		b.term("session", e.Sid),
	)
}

// Look returns the line of the session i, whose state is x.
func (b *Book) Look(i int, x api.Look) string {
	if b == nil {
		return ""
	}
	return line("session", strconv.Itoa(i), role(x.Conf.Server), escaped(order.Phase(x.Phase)),
		number("over", x.Over),
		b.term("session", x.Session),
		number("user", truth(x.In)),
		number("out", x.OutN),
		number("in", x.InN),
		number("sent", len(x.Sent)),
		number("got", len(x.Got)),
		pair("code", x.Code.Error()),
	)
}
