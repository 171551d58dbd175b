package world

import (
	"math"
	"slices"
	"strings"
	"testing"
)

// How input is split makes no difference to what a world tells, so that the pieces are looked at here.

// 30.1: the sizes of the pieces.
func TestPieces(t *testing.T) {
	for _, c := range []struct {
		s    string
		cuts []int
		want []string
	}{
		{"", nil, nil},
		{"", []int{1, 0}, nil},
		{"abcdef", nil, []string{"abcdef"}},
		{"abcdef", []int{}, []string{"abcdef"}},
		{"abcdef", []int{2}, []string{"ab", "cdef"}},
		{"abcdef", []int{2, 3}, []string{"ab", "cde", "f"}},
		{"abcdef", []int{2, 4}, []string{"ab", "cdef"}},
		{"abcdef", []int{6, 1}, []string{"abcdef"}},
		{"abcdef", []int{0, -1, math.MinInt}, []string{"a", "b", "c", "def"}},
		{"abcdef", []int{2, 9, 1}, []string{"ab", "cdef"}},
		{"abcdef", []int{math.MaxInt}, []string{"abcdef"}},
		{"abcdef", []int{7}, []string{"abcdef"}},
		{"abcdef", slices.Repeat([]int{1}, 9), []string{"a", "b", "c", "d", "e", "f"}},
		{"abcdef", slices.Repeat([]int{-4}, 5), []string{"a", "b", "c", "d", "e", "f"}},
		{"\xff", []int{3}, []string{"\xff"}},
	} {
		l := pieces(c.s, c.cuts)
		for range 2 {
			if got := slices.Collect(l); !slices.Equal(got, c.want) {
				t.Errorf("%q, %v: %q, not %q", c.s, c.cuts, got, c.want)
			}
		}
		if got := strings.Join(slices.Collect(l), ""); got != c.s {
			t.Errorf("%q, %v: %q in all", c.s, c.cuts, got)
		}
	}
}

// A reader of pieces may stop early.
func TestSomePieces(t *testing.T) {
	for _, cuts := range [][]int{nil, {1}, {2, 2}, {9}} {
		n := 0
		for range pieces("abc", cuts) {
			n++
			break
		}
		if n != 1 {
			t.Errorf("%v: %d pieces", cuts, n)
		}
	}
}
