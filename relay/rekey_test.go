package relay_test

import (
	"testing"

	"shibboleth/api"
	"shibboleth/prefs"
	"shibboleth/relay"
)

// 34.1, 34.3: an exchange is begun only where none is, by a session in PhOpen.
func TestRekey(t *testing.T) {
	x := newRelay(t)
	n := 0
	// Before anything is passed, and during the first exchange, there is nothing to begin.
	for ; x.Look(true).Phase != api.PhOpen || x.Look(false).Phase != api.PhOpen; n++ {
		for _, server := range []bool{false, true} {
			if x.Look(server).Phase != api.PhOpen && x.Rekey(server) {
				t.Fatalf("after %d units: an exchange", n)
			}
		}
		x.Pass(nil)
	}
	x.Drain(nil)
	for _, server := range []bool{false, true} {
		if !x.Rekey(server) || x.Rekey(server) || !x.Rekey(!server) || x.Rekey(!server) {
			t.Errorf("Rekey")
		}
		if n := x.Drain(nil); n != 6 {
			t.Errorf("%d units", n)
		}
		wantOpen(t, "both at once", x)
	}
	if x.Look(true).Over != 3 || x.Outcome() != in(user, 0) {
		t.Errorf("%d exchanges: %+v", x.Look(true).Over, x.Outcome())
	}
}

// 34.3: an exchange that is begun at any time: after each number of units, by either side or both.
func TestRekeyAnyTime(t *testing.T) {
	for method := api.MeCurve; method <= api.MeGex; method++ {
		for _, guess := range []bool{false, true} {
			change := func(c, s *api.Conf) {
				c.Keys, c.Guess = []int{1, user}, guess
				s.Prefs.Kex = []string{prefs.Name(method)}
			}
			whole := newRelay(t, change).Drain(nil)
			for after := range whole + 1 {
				for sides := 1; sides <= 3; sides++ {
					x := newRelay(t, change)
					for range after {
						x.Pass(nil)
					}
					begun := false
					for i, server := range []bool{false, true} {
						if sides>>i&1 == 1 && x.Rekey(server) {
							begun = true
						}
					}
					n := x.Drain(nil)
					wantOpen(t, "any time", x)
					over := 1
					if begun {
						over++
					}
					if x.Look(true).Over != over || x.Outcome() != in(user, 1) {
						t.Fatalf("method %d, after %d units: %d exchanges, %+v", method, after, x.Look(true).Over, x.Outcome())
					}
					if more := after + n - whole; begun && more > 9 || !begun && more != 0 {
						t.Fatalf("method %d, after %d units: %d units more", method, after, more)
					}
				}
			}
		}
	}
}

// 34.3, P5: exchanges at any times, and messages before, between and after them.
func TestRekeyOften(t *testing.T) {
	most := 0
	for seed := range 120 {
		r := roll(seed)
		c, s := r.pair()
		if o, err := relay.Expect(c, s); err != nil || !o.Client {
			continue
		}
		x, err := relay.New(c, s)
		if err != nil {
			t.Fatalf("New: %v", err)
		}
		want, _ := relay.Expect(c, s)
		units, said := 0, 0
		for range 150 {
			server := r.next(2) == 0
			switch r.next(8) {
			case 0:
				x.Rekey(server)
			case 1:
				if x.Say(server, "said") {
					said++
				}
			default:
				if x.Pass(r.cuts()) {
					units++
				}
			}
		}
		units += x.Drain(r.cuts())
		wantOpen(t, "often", x)
		if x.Outcome() != want {
			t.Fatalf("seed %d: %+v, not %+v", seed, x.Outcome(), want)
		}
		over := x.Look(true).Over
		if bound := 16 + 4*len(c.Keys) + 9*(over-1) + said; units > bound {
			t.Fatalf("seed %d: %d units, more than %d", seed, units, bound)
		}
		most = max(most, over)
	}
	if most < 8 {
		t.Errorf("no more than %d exchanges", most)
	}
}

// 34.3: many exchanges in a row.
func TestRekeyMany(t *testing.T) {
	x := newRelay(t, func(c, s *api.Conf) { c.Guess = true })
	x.Drain(nil)
	first := x.Look(true).Session
	for i := range 150 {
		if !x.Rekey(i%3 == 0) || i%5 == 0 && !x.Rekey(i%3 != 0) || i%7 == 0 && !x.Say(i%2 == 0, "x") {
			t.Fatalf("nothing is sent")
		}
		x.Drain([]int{i, 2 * i})
	}
	wantOpen(t, "many", x)
	if look := x.Look(false); look.Over != 151 || look.Session != first || x.Outcome() != in(user, 0) {
		t.Errorf("%d exchanges: %+v", look.Over, x.Outcome())
	}
}
