package dice

import (
	"shibboleth/api"
	"shibboleth/conf"
	"shibboleth/prefs"
	"shibboleth/secret"
	"shibboleth/trust"
	"shibboleth/world"
)

// What a game rolls for, one after the other, ahead of its turns.
const (
	hosts   = 4
	methods = 3
	guesses = 2
	spares  = 3
)

// What turns roll for.
const (
	turnKinds = 12
	sessions  = 2 // the server, which is session 0, and the client
)

// The principals whose keys a client has. Only by its own it is let in.
const (
	ownKey   = 8
	spareKey = 9
)

const said = "roll" // what a session says

// game is a world in which a die decides what happens.
type game struct {
	die   *Die
	world *world.World
	steps []api.Step
	next  [sessions]int // for each session, the first unit that may still be passed to it in order
}

// play plays a game.
func play(seed uint64, turns int) *game {
	g := &game{die: New(seed), world: world.New()}
	g.begin()
	for range min(turns, api.MaxTurns) {
		g.turn()
	}
	return g
}

// do adds a step to the script, and performs it.
func (g *game) do(x api.Step) {
	g.steps = append(g.steps, x)
	g.world.Do(x)
}

// begin creates the server and the client.
func (g *game) begin() {
	host := g.die.Roll(hosts)
	method := 1 + g.die.Roll(methods)
	guess := g.die.Roll(guesses) == 1
	spare := g.die.Roll(spares) == 0

	client := conf.Plain(false, host)
	client.Prefs.Kex = []string{prefs.Name(method)}
	client.Guess = guess
	client.Keys = []int{ownKey}
	if spare {
		client.Keys = []int{spareKey, ownKey}
	}
	g.do(api.Step{Kind: api.StSpawn, Conf: conf.Plain(true, host)})
	g.do(api.Step{Kind: api.StSpawn, Conf: client})
}

// turn does what is rolled.
func (g *game) turn() {
	switch g.die.Roll(turnKinds) {
	case 0:
		fallthrough
	case 1:
		fallthrough
	case 2:
		fallthrough
	case 3:
		fallthrough
	case 4:
		fallthrough
	case 5:
		fallthrough
	case 6:
		fallthrough
	case 7:
		g.pass(g.die.Roll(sessions))
	case 8:
		g.do(api.Step{Kind: api.StRekey, To: g.die.Roll(sessions)})
	case 9:
		g.do(api.Step{Kind: api.StSay, To: g.die.Roll(sessions), Text: said})
	case 10:
		g.do(api.Step{Kind: api.StTake, Who: g.die.Roll(api.MaxPeople)})
	case 11:
		to := g.die.Roll(sessions)
		unit := g.die.Roll(len(g.world.Sent()))
		g.do(api.Step{Kind: api.StPass, To: to, Who: unit})
	}
}

// pass passes to a session the next unit that the other one sent, if there is one.
func (g *game) pass(to int) {
	sent := g.world.Sent()
	for n := g.next[to]; n < len(sent); n++ {
		if sent[n].Session != to {
			g.next[to] = n + 1
			g.do(api.Step{Kind: api.StPass, To: to, Who: n})
			return
		}
	}
}

// mindOf returns what the adversary of a world can construct.
func mindOf(w *world.World) *secret.Mind {
	return secret.New(w.Arena(), w.Known(), w.Terms())
}

// leaks returns how many secrets of the exchanges of safe sessions, which have the numbers below
// count, can be constructed.
func leaks(m *secret.Mind, l []api.Event, count int) int {
	n := 0
	for session := range count {
		if !trust.Good(l, session) {
			continue
		}
		for _, d := range trust.Keys(l, session) {
			n += open(m, d.K, d.Up, d.Down)
		}
	}
	return n
}

// open returns how many of these terms can be constructed.
func open(m *secret.Mind, secrets ...api.ID) int {
	n := 0
	for _, t := range secrets {
		if m.Can(t) {
			n++
		}
	}
	return n
}
