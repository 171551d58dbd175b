package census

import (
	"maps"
	"slices"

	"shibboleth/api"
)

// Sessions returns the sessions of all events except EvTaken, ascending.
func Sessions(l []api.Event) []int {
	return ascending(perSession(l))
}

// Busy returns the session with the most events other than EvTaken, and how many those are.
func Busy(l []api.Event) (int, int) {
	busy, most := 0, 0
	numbers := perSession(l)
	for _, session := range ascending(numbers) {
		if n := numbers[session]; n > most {
			busy, most = session, n
		}
	}
	return busy, most
}

// Lost returns the sessions that have ended without an exchange before the end, ascending.
func Lost(l []api.Event) []int {
	begun := map[int]struct{}{}
	lost := map[int]struct{}{}
	for _, e := range l {
		if isExchange(e) {
			begun[e.Session] = struct{}{}
		}
		if _, is := begun[e.Session]; e.Kind == api.EvEnd && !is {
			lost[e.Session] = struct{}{}
		}
	}
	return ascending(lost)
}

// perSession returns how many events each session has. An EvTaken belongs to none.
func perSession(l []api.Event) map[int]int {
	numbers := map[int]int{}
	for _, e := range l {
		if e.Kind != api.EvTaken {
			numbers[e.Session]++
		}
	}
	return numbers
}

// ascending returns the sessions that a map is about.
func ascending[T any](sessions map[int]T) []int {
	return slices.Sorted(maps.Keys(sessions))
}
