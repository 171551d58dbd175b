package dice_test

import (
	"math"
	"math/big"
	"reflect"
	"slices"
	"testing"

	"shibboleth/agree"
	"shibboleth/api"
	"shibboleth/conf"
	"shibboleth/dice"
	"shibboleth/replay"
	"shibboleth/script"
	"shibboleth/secret"
	"shibboleth/trust"
	"shibboleth/world"
)

// slow is a die with numbers of any length, as the document has it.
type slow struct {
	state *big.Int
}

func newSlow(seed uint64) *slow {
	return &slow{state: new(big.Int).SetUint64(seed)}
}

func (d *slow) roll(n int) int {
	if n < 1 {
		return 0
	}
	factor, _ := new(big.Int).SetString("6364136223846793005", 10)
	summand, _ := new(big.Int).SetString("1442695040888963407", 10)
	power := func(n uint) *big.Int { return new(big.Int).Lsh(big.NewInt(1), n) }
	d.state.Mul(d.state, factor).Add(d.state, summand).Mod(d.state, power(64))
	result := new(big.Int).Div(d.state, power(33))
	return int(result.Mod(result, big.NewInt(int64(n))).Int64())
}

// seeds are some at the edges.
func seeds() []uint64 {
	return []uint64{0, 1, 2, 3, 39, 1 << 31, 1<<32 - 1, 1 << 32, 1 << 33, 1<<63 - 1, 1 << 63, math.MaxUint64 - 1, math.MaxUint64, 1442695040888963407, 6364136223846793005}
}

// 39.1: the first number of a die with the seed 0 is the chapter's example.
func TestExample(t *testing.T) {
	if n := dice.New(0).Roll(1 << 31); n != 1442695040888963407>>33 {
		t.Errorf("%d", n)
	}
}

// 39.1: a die, rolled for many numbers.
func TestRoll(t *testing.T) {
	for _, seed := range seeds() {
		d, due := dice.New(seed), newSlow(seed)
		for i := range 300 {
			for _, n := range []int{1, 2, 3, 4, 12, 16, 7, 1000, 1 << 16, 1<<31 - 1, 1 << 31, 1<<31 + 1, 1 << 32, 1<<62 + 1, math.MaxInt} {
				if got, want := d.Roll(n), due.roll(n); got != want {
					t.Fatalf("seed %d, roll %d for %d: %d, not %d", seed, i, n, got, want)
				}
			}
		}
	}
}

// 39.1: for no number, a die is not rolled.
func TestRollNothing(t *testing.T) {
	d, same := dice.New(5), dice.New(5)
	for range 20 {
		for _, n := range []int{0, -1, -2, -1 << 31, math.MinInt} {
			if got := d.Roll(n); got != 0 {
				t.Errorf("Roll(%d): %d", n, got)
			}
		}
		if got, want := d.Roll(1<<31), same.Roll(1<<31); got != want {
			t.Errorf("then %d, not %d", got, want)
		}
		// For 1 there is only one result, but the die is rolled.
		if d.Roll(1) != 0 || same.Roll(2) > 1 {
			t.Errorf("Roll(1)")
		}
	}
}

// 39.1: a die that there is none of; the zero Die is one with the seed 0.
func TestNil(t *testing.T) {
	var none *dice.Die
	for _, n := range []int{-1, 0, 1, 2, 1 << 31, math.MaxInt} {
		if got := none.Roll(n); got != 0 {
			t.Errorf("Roll(%d): %d", n, got)
		}
	}
	var zero dice.Die
	if got, want := zero.Roll(1<<31), dice.New(0).Roll(1<<31); got != want {
		t.Errorf("%d, not %d", got, want)
	}
}

// 39.1: dice do not share what they are.
func TestDice(t *testing.T) {
	a, b := dice.New(1), dice.New(2)
	x, y := newSlow(1), newSlow(2)
	for range 50 {
		if a.Roll(1000) != x.roll(1000) || b.Roll(100) != y.roll(100) || a.Roll(10) != x.roll(10) {
			t.Fatalf("another die matters")
		}
	}
}

// literal plays a game as the document has it.
func literal(seed uint64, turns int) ([]api.Step, *world.World) {
	d, w := newSlow(seed), world.New()
	var l []api.Step
	do := func(x api.Step) {
		l = append(l, x)
		w.Do(x)
	}
	host := d.roll(4)
	method := d.roll(3) + 1
	guess := d.roll(2)
	spare := d.roll(3)
	do(api.Step{Kind: api.StSpawn, Conf: conf.Plain(true, host)})
	c := conf.Plain(false, host)
	c.Prefs.Kex = []string{[]string{"", "curve25519-sha256", "ecdh-sha2-nistp256", "diffie-hellman-group-exchange-sha256"}[method]}
	c.Guess = guess == 1
	c.Keys = []int{8}
	if spare == 0 {
		c.Keys = []int{9, 8}
	}
	do(api.Step{Kind: api.StSpawn, Conf: c})
	passed := [2][]int{}
	for range max(0, min(turns, 60)) {
		switch rolled := d.roll(12); rolled {
		default:
			to := d.roll(2)
			for unit, x := range w.Sent() {
				if x.Session == 1-to && !slices.Contains(passed[to], unit) {
					passed[to] = append(passed[to], unit)
					do(api.Step{Kind: api.StPass, To: to, Who: unit})
					break
				}
			}
		case 8:
			do(api.Step{Kind: api.StRekey, To: d.roll(2)})
		case 9:
			do(api.Step{Kind: api.StSay, To: d.roll(2), Text: "roll"})
		case 10:
			do(api.Step{Kind: api.StTake, Who: d.roll(16)})
		case 11:
			to := d.roll(2)
			who := d.roll(len(w.Sent()))
			do(api.Step{Kind: api.StPass, To: to, Who: who})
		}
	}
	return l, w
}

// wantGame checks a game, and that no rule is violated and nothing leaks.
func wantGame(t *testing.T, seed uint64, turns int) ([]api.Step, *world.World) {
	t.Helper()
	l, w := literal(seed, turns)
	if got := dice.Play(seed, turns); !reflect.DeepEqual(got, l) {
		t.Fatalf("seed %d, %d turns: %+v, not %+v", seed, turns, got, l)
	}
	events := w.Events()
	if err := dice.Trial(seed, turns); err != nil || agree.Check(events) != nil {
		t.Errorf("seed %d, %d turns: %v", seed, turns, err)
	}
	if n := dice.Leaks(seed, turns); n != 0 || n != leaks(w) {
		t.Errorf("seed %d, %d turns: %d leak", seed, turns, n)
	}
	return l, w
}

// leaks is how much leaks of a world, as the document has it.
func leaks(w *world.World) int {
	n := 0
	m := secret.New(w.Arena(), w.Known(), w.Terms())
	for _, e := range w.Events() {
		if e.Kind != api.EvRunning && e.Kind != api.EvCommit || !trust.Good(w.Events(), e.Session) {
			continue
		}
		for _, x := range []api.ID{e.Done.K, e.Done.Up, e.Done.Down} {
			if m.Can(x) {
				n++
			}
		}
	}
	return n
}

// 39.1: for no turns, and for more than there may be.
func TestTurns(t *testing.T) {
	for _, seed := range seeds() {
		for _, turns := range []int{0, -1, -60, math.MinInt} {
			l, w := wantGame(t, seed, turns)
			if len(l) != 2 || w.Sessions() != 2 || len(w.Events()) != 0 {
				t.Errorf("seed %d, %d turns: %+v", seed, turns, l)
			}
		}
		most, _ := wantGame(t, seed, api.MaxTurns)
		for _, turns := range []int{61, 62, 1 << 31, math.MaxInt} {
			if l, _ := wantGame(t, seed, turns); !reflect.DeepEqual(l, most) {
				t.Errorf("seed %d, %d turns: %d steps, not %d", seed, turns, len(l), len(most))
			}
		}
	}
}

// 39.1: a game of fewer turns is how one of more begins.
func TestPrefix(t *testing.T) {
	for seed := range uint64(20) {
		whole := dice.Play(seed, api.MaxTurns)
		for turns := range api.MaxTurns {
			l := dice.Play(seed, turns)
			if len(l) > 2+turns || len(l) > len(whole) || !reflect.DeepEqual(l, whole[:len(l)]) {
				t.Fatalf("seed %d, %d turns: %+v", seed, turns, l)
			}
		}
	}
}

// tally is what games come to.
type tally struct {
	steps   map[int]int // by kind
	events  map[int]int
	hosts   map[int]int
	kexes   map[string]int
	guesses int
	spares  int
	safe    int
	fewer   int // games in which a turn gives no step
}

func (c *tally) add(l []api.Step, turns int, w *world.World) {
	for _, x := range l {
		c.steps[x.Kind]++
	}
	for _, e := range w.Events() {
		c.events[e.Kind]++
	}
	c.safe += len(trust.Safes(w.Events()))
	client := l[1].Conf
	c.hosts[client.Peer]++
	c.kexes[client.Prefs.Kex[0]]++
	if client.Guess {
		c.guesses++
	}
	if len(client.Keys) == 2 {
		c.spares++
	}
	if len(l) < 2+turns {
		c.fewer++
	}
}

// 39.1, 39.2, 39.3: many games, as the document has them; all that may come does come.
func TestGames(t *testing.T) {
	const games = 1500
	c := tally{steps: map[int]int{}, events: map[int]int{}, hosts: map[int]int{}, kexes: map[string]int{}}
	for seed := range uint64(games) {
		turns := 40 + int(seed%21)
		l, w := wantGame(t, seed*0x9e3779b97f4a7c15, turns)
		c.add(l, turns, w)
	}
	for _, kind := range []int{api.StSpawn, api.StTake, api.StPass, api.StRekey, api.StSay} {
		if c.steps[kind] < games {
			t.Errorf("%d steps of kind %d", c.steps[kind], kind)
		}
	}
	for kind := api.EvRunning; kind <= api.EvTaken; kind++ {
		if c.events[kind] < games/100 {
			t.Errorf("%d events of kind %d", c.events[kind], kind)
		}
	}
	if len(c.steps) != 5 || len(c.hosts) != 4 || len(c.kexes) != 3 || c.safe < games/10 || c.fewer < games/10 {
		t.Errorf("%+v", c)
	}
	if c.guesses < games/3 || c.guesses > games*2/3 || c.spares < games/4 || c.spares > games/2 {
		t.Errorf("%d guess, %d have a spare key", c.guesses, c.spares)
	}
}

// P8: the record of a game is right, and its script is read back.
func TestRecords(t *testing.T) {
	for seed := range uint64(50) {
		l := dice.Play(seed, api.MaxTurns)
		record, err := replay.Record(l)
		if err != nil || replay.Check(record) != nil {
			t.Errorf("seed %d: %v", seed, err)
		}
		text, _, _ := replay.Split(record)
		back, err := script.Parse(text)
		if err != nil || !reflect.DeepEqual(back, l) {
			t.Errorf("seed %d: %+v, %v", seed, back, err)
		}
	}
}

// 39.1: what is answered is new each time.
func TestNew(t *testing.T) {
	l := dice.Play(4, 10)
	for i := range l {
		for _, names := range [][]string{l[i].Conf.Prefs.Kex, l[i].Conf.Prefs.Host, l[i].Conf.Prefs.EncC, l[i].Conf.Prefs.EncS, l[i].Conf.Algs} {
			for j := range names {
				names[j] = "x"
			}
		}
		for j := range l[i].Conf.Keys {
			l[i].Conf.Keys[j] = 1
		}
		for j := range l[i].Conf.Grants {
			l[i].Conf.Grants[j] = api.Grant{}
		}
	}
	wantGame(t, 4, 10)
}
