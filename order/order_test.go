package order_test

import (
	"math"
	"slices"
	"testing"

	"shibboleth/api"
	"shibboleth/order"
	"shibboleth/schema"
)

// phases are all phases, in order.
var phases = []int{api.PhLine, api.PhInit, api.PhKex, api.PhNew, api.PhOpen, api.PhDead}

// noPhases are numbers that are no phase.
var noPhases = []int{-1, 6, 7, 255, 256, 1 << 32, 1<<32 + api.PhOpen, -256 + api.PhOpen, math.MinInt, math.MaxInt}

// noNumbers are numbers that no message has.
var noNumbers = []int{-1, -2, -255, 256, 257, 256 + 20, 1 << 32, 1<<32 + 1, 1<<32 + 20, math.MinInt, math.MinInt + 20, math.MaxInt}

var both = []bool{false, true}

// from returns the numbers from first to last.
func from(first, last int) []int {
	var l []int
	for n := first; n <= last; n++ {
		l = append(l, n)
	}
	return l
}

// want checks the verdicts on all numbers of messages: those that are not listed are to be others.
func want(t *testing.T, phase int, first, server bool, verdicts map[int][]int, others int) {
	t.Helper()
	expected := map[int]int{}
	for v, l := range verdicts {
		for _, num := range l {
			expected[num] = v
		}
	}
	for num := range 256 {
		v, is := expected[num]
		if !is {
			v = others
		}
		if got := order.Judge(phase, first, server, num); got != v {
			t.Errorf("%s, first %v, server %v, %d: %q, not %q", order.Phase(phase), first, server, num, order.Verdict(got), order.Verdict(v))
		}
	}
}

// 23.1, rule 1: nothing may be received where no messages are read.
func TestJudgeNoPhase(t *testing.T) {
	for _, phase := range append([]int{api.PhLine, api.PhDead}, noPhases...) {
		for _, first := range both {
			for _, server := range both {
				want(t, phase, first, server, nil, api.VdWrong)
			}
		}
	}
}

// 23.1, rule 1: numbers that no message has.
func TestJudgeNoNumber(t *testing.T) {
	for _, phase := range append(phases, noPhases...) {
		for _, first := range both {
			for _, server := range both {
				for _, num := range noNumbers {
					if got := order.Judge(phase, first, server, num); got != api.VdWrong {
						t.Errorf("%d, %v, %v, %d: %q", phase, first, server, num, order.Verdict(got))
					}
				}
			}
		}
	}
}

// 23.1, rules 2 and 3: the first exchange is strict, for client and server.
func TestJudgeFirst(t *testing.T) {
	for _, server := range both {
		want(t, api.PhInit, true, server, map[int][]int{api.VdClose: {1}, api.VdTake: {20}}, api.VdWrong)
		want(t, api.PhKex, true, server, map[int][]int{api.VdClose: {1}, api.VdTake: from(30, 49)}, api.VdWrong)
		want(t, api.PhNew, true, server, map[int][]int{api.VdClose: {1}, api.VdTake: {21}}, api.VdWrong)
	}
}

// 23.1, rules 2 and 3, example 1: later exchanges pass over what says nothing.
func TestJudgeLater(t *testing.T) {
	pass := []int{2, 3, 4}
	for _, server := range both {
		want(t, api.PhInit, false, server, map[int][]int{api.VdClose: {1}, api.VdPass: pass, api.VdTake: {20}}, api.VdWrong)
		want(t, api.PhKex, false, server, map[int][]int{api.VdClose: {1}, api.VdPass: pass, api.VdTake: from(30, 49)}, api.VdWrong)
		want(t, api.PhNew, false, server, map[int][]int{api.VdClose: {1}, api.VdPass: pass, api.VdTake: {21}}, api.VdWrong)
	}
}

// 23.1, rules 2 and 4: between exchanges it depends on the receiver, and not on the exchange.
func TestJudgeOpen(t *testing.T) {
	for _, first := range both {
		want(t, api.PhOpen, first, true, map[int][]int{
			api.VdClose: {1},
			api.VdPass:  {2, 3, 4, 7},
			api.VdTake:  {5, 20, 50},
			api.VdWrong: append(from(30, 49), 6, 21, 51, 52, 53, 60),
		}, api.VdStrange)
		want(t, api.PhOpen, first, false, map[int][]int{
			api.VdClose: {1},
			api.VdPass:  {2, 3, 4},
			api.VdTake:  {6, 7, 20, 51, 52, 53, 60},
			api.VdWrong: append(from(30, 49), 5, 21, 50),
		}, api.VdStrange)
	}
}

// 23.1: between exchanges only numbers that layer 6 does not know are strange.
func TestStrangeIsNotKnown(t *testing.T) {
	for num := range 256 {
		for _, server := range both {
			strange := order.Judge(api.PhOpen, false, server, num) == api.VdStrange
			if strange != (!schema.Known(num) && schema.Class(num) != 3) {
				t.Errorf("%d, server %v: %v", num, server, strange)
			}
		}
	}
}

// 23.2: what may be sent during an exchange, and otherwise.
func TestMay(t *testing.T) {
	during := append(from(1, 4), from(20, 49)...)
	otherwise := slices.Concat(from(1, 20), from(22, 29), from(50, 255))
	for _, num := range append(from(0, 255), noNumbers...) {
		if got := order.May(true, num); got != slices.Contains(during, num) {
			t.Errorf("during an exchange, %d: %v", num, got)
		}
		if got := order.May(false, num); got != slices.Contains(otherwise, num) {
			t.Errorf("otherwise, %d: %v", num, got)
		}
	}
}

// 23.3: the names of phases and verdicts, and of numbers that are none.
func TestNames(t *testing.T) {
	for phase, name := range map[int]string{api.PhLine: "line", api.PhInit: "init", api.PhKex: "kex", api.PhNew: "new", api.PhOpen: "open", api.PhDead: "dead"} {
		if got := order.Phase(phase); got != name {
			t.Errorf("phase %d: %q", phase, got)
		}
	}
	for verdict, name := range map[int]string{api.VdWrong: "wrong", api.VdTake: "take", api.VdPass: "pass", api.VdStrange: "strange", api.VdClose: "close"} {
		if got := order.Verdict(verdict); got != name {
			t.Errorf("verdict %d: %q", verdict, got)
		}
	}
	for _, n := range noPhases {
		if got := order.Phase(n); got != "" {
			t.Errorf("phase %d: %q", n, got)
		}
	}
	for _, n := range []int{-1, 5, 6, 255, 1 << 32, math.MinInt, math.MaxInt} {
		if got := order.Verdict(n); got != "" {
			t.Errorf("verdict %d: %q", n, got)
		}
	}
}

// 23.4: during the first exchange nothing is passed over or strange, in no phase of it.
func TestFirstIsStrict(t *testing.T) {
	for _, phase := range []int{api.PhInit, api.PhKex, api.PhNew} {
		for _, server := range both {
			for num := -300; num < 600; num++ {
				if v := order.Judge(phase, true, server, num); v == api.VdPass || v == api.VdStrange {
					t.Errorf("%s, %d: %q", order.Phase(phase), num, order.Verdict(v))
				}
			}
		}
	}
}

// 23.4: what is taken in a phase of an exchange is of one class, and in another phase is not taken.
func TestPhasesTakeOneKind(t *testing.T) {
	taken := map[int]int{}
	for _, phase := range []int{api.PhInit, api.PhKex, api.PhNew} {
		classes := map[int]int{}
		for num := range 256 {
			v := order.Judge(phase, true, false, num)
			if v != order.Judge(phase, true, true, num) {
				t.Errorf("%s, %d: it depends on the receiver", order.Phase(phase), num)
			}
			if v == api.VdTake {
				classes[schema.Class(num)]++
				taken[num]++
			}
		}
		if len(classes) != 1 {
			t.Errorf("%s takes the classes %v", order.Phase(phase), classes)
		}
	}
	for num, n := range taken {
		if n != 1 {
			t.Errorf("%d is taken in %d phases", num, n)
		}
	}
	if len(taken) != 22 {
		t.Errorf("%d numbers are taken", len(taken))
	}
}
