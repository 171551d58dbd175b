package schema_test

import (
	"math"
	"slices"
	"testing"

	"shibboleth/schema"
)

// rows are the chapter's table.
var rows = []struct {
	num   int
	word  string
	forms []string
}{
	{1, "disconnect", []string{"uss"}},
	{2, "ignore", []string{"s"}},
	{3, "unimplemented", []string{"u"}},
	{4, "debug", []string{"bss"}},
	{5, "service-request", []string{"s"}},
	{6, "service-accept", []string{"s"}},
	{7, "ext-info", []string{"e"}},
	{20, "kexinit", []string{"cnnnnnnnnnnbu"}},
	{21, "newkeys", []string{""}},
	{30, "ecdh-init", []string{"t"}},
	{31, "reply-or-group", []string{"ttt", "mm"}},
	{32, "gex-init", []string{"t"}},
	{33, "gex-reply", []string{"ttt"}},
	{34, "gex-request", []string{"uuu"}},
	{50, "userauth-request", []string{"sss", "sssbst", "sssbstt"}},
	{51, "userauth-failure", []string{"nb"}},
	{52, "userauth-success", []string{""}},
	{53, "userauth-banner", []string{"ss"}},
	{60, "userauth-pk-ok", []string{"st"}},
}

// strays are numbers far from those of messages.
var strays = []int{math.MinInt, math.MinInt32, -256, -1, 0, 255, 256, 257, 276, 1 << 16, 1<<32 + 1, math.MaxInt}

// others are the numbers near those of messages, and far from them, that have no message.
func others() []int {
	var l []int
	for num := -300; num <= 600; num++ {
		l = append(l, num)
	}
	return slices.DeleteFunc(append(l, strays...), func(num int) bool {
		for _, r := range rows {
			if r.num == num {
				return true
			}
		}
		return false
	})
}

// 6.1: each row of the table.
func TestRows(t *testing.T) {
	for _, r := range rows {
		if got := schema.Forms(r.num); !slices.Equal(got, r.forms) {
			t.Errorf("Forms(%d): %q", r.num, got)
		}
		if !schema.Known(r.num) {
			t.Errorf("Known(%d): false", r.num)
		}
		if got := schema.Word(r.num); got != r.word {
			t.Errorf("Word(%d): %q", r.num, got)
		}
		if got, is := schema.Num(r.word); got != r.num || !is {
			t.Errorf("Num(%q): %d, %v", r.word, got, is)
		}
	}
}

// 6.1: numbers that are in no row.
func TestOtherNumbers(t *testing.T) {
	for _, num := range others() {
		if got := schema.Forms(num); len(got) != 0 {
			t.Errorf("Forms(%d): %q", num, got)
		}
		if schema.Known(num) {
			t.Errorf("Known(%d): true", num)
		}
		if got := schema.Word(num); got != "" {
			t.Errorf("Word(%d): %q", num, got)
		}
	}
}

// 6.1: words that no message has.
func TestOtherWords(t *testing.T) {
	for _, word := range []string{"", " ", "1", "uss", "Disconnect", "disconnect ", " disconnect", "disconnec", "disconnects", "kex-init", "reply", "group", "userauth", "unknown", "ignore\x00", "service-request,service-accept"} {
		if got, is := schema.Num(word); got != 0 || is {
			t.Errorf("Num(%q): %d, %v", word, got, is)
		}
	}
}

// 6.1: what is done to one answer does not show in the next one.
func TestFormsAreNew(t *testing.T) {
	for _, r := range rows {
		schema.Forms(r.num)[0] = "x"
		if got := schema.Forms(r.num); !slices.Equal(got, r.forms) {
			t.Errorf("Forms(%d): %q", r.num, got)
		}
	}
}

// 6.1: the classes of all numbers of messages, and of other ones.
func TestClass(t *testing.T) {
	bounds := []struct{ first, last, class int }{
		{-300, 0, 0}, {1, 19, 1}, {20, 29, 2}, {30, 49, 3}, {50, 79, 4}, {80, 255, 5}, {256, 600, 0},
	}
	for _, b := range bounds {
		for num := b.first; num <= b.last; num++ {
			if got := schema.Class(num); got != b.class {
				t.Errorf("Class(%d): %d, not %d", num, got, b.class)
			}
		}
	}
	for _, num := range []int{math.MinInt, math.MinInt32, 1 << 16, 1<<32 + 1, math.MaxInt} {
		if got := schema.Class(num); got != 0 {
			t.Errorf("Class(%d): %d", num, got)
		}
	}
}

// 6.2: the format for each number of fields, and none for other ones.
func TestFit(t *testing.T) {
	for _, r := range rows {
		want := map[int]string{}
		for _, form := range r.forms {
			want[len(form)] = form
		}
		for many := -2; many <= 20; many++ {
			form, has := want[many]
			if got, is := schema.Fit(r.num, many); got != form || is != has {
				t.Errorf("Fit(%d, %d): %q, %v", r.num, many, got, is)
			}
		}
		for _, many := range []int{math.MinInt, -1 << 32, 1 << 32, 1<<32 + 1, math.MaxInt} {
			if got, is := schema.Fit(r.num, many); got != "" || is {
				t.Errorf("Fit(%d, %d): %q, %v", r.num, many, got, is)
			}
		}
	}
	if got, is := schema.Fit(31, 2); got != "mm" || !is {
		t.Errorf("the chapter's example: %q, %v", got, is)
	}
}

// 6.2: a number without formats has none for any number of fields, 0 included.
func TestFitOfOtherNumbers(t *testing.T) {
	for _, num := range others() {
		for many := -1; many <= 13; many++ {
			if got, is := schema.Fit(num, many); got != "" || is {
				t.Errorf("Fit(%d, %d): %q, %v", num, many, got, is)
			}
		}
	}
}

// 6.3: the formats of a number differ by how many fields they have, so that Fit finds each of them.
func TestFormsDifferInLength(t *testing.T) {
	for num := range 256 {
		lengths := map[int]bool{}
		for _, form := range schema.Forms(num) {
			if lengths[len(form)] {
				t.Errorf("%d: two formats of %d fields", num, len(form))
			}
			lengths[len(form)] = true
			if got, is := schema.Fit(num, len(form)); got != form || !is {
				t.Errorf("Fit(%d, %d): %q, %v", num, len(form), got, is)
			}
		}
	}
}
