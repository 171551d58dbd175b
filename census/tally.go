package census

import (
	"cmp"
	"slices"

	"shibboleth/api"
	"shibboleth/choose"
	"shibboleth/schema"
)

// What payloads count as whose first byte is no message's number, or that have none.
const (
	unknown = "unknown"
	empty   = "empty"
)

// Names returns how often each name of a list was agreed on.
func Names(l []api.Event, list int) []api.Tally {
	counts := map[string]int{}
	for _, e := range l {
		if e.Kind != api.EvCommit {
			continue
		}
		if names := choose.Lists(e.Done.Choice); list >= 0 && list < len(names) {
			counts[names[list]]++
		}
	}
	return tallies(counts)
}

// Nums returns how often each message's word occurs among payloads.
func Nums(payloads []string) []api.Tally {
	counts := map[string]int{}
	for _, p := range payloads {
		counts[word(p)]++
	}
	return tallies(counts)
}

// word returns the word of the message that a payload begins.
func word(payload string) string {
	if payload == "" {
		return empty
	}
	return cmp.Or(schema.Word(int(payload[0])), unknown)
}

// tallies returns the names that were counted, the most frequent ones first.
func tallies(counts map[string]int) []api.Tally {
	var l []api.Tally
	for name, n := range counts {
		l = append(l, api.Tally{Name: name, N: n})
	}
	slices.SortFunc(l, func(x, y api.Tally) int {
		return cmp.Or(cmp.Compare(y.N, x.N), cmp.Compare(x.Name, y.Name))
	})
	return l
}
