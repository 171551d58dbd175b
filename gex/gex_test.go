package gex_test

import (
	"math"
	"slices"
	"strings"
	"testing"

	"shibboleth/api"
	"shibboleth/fault"
	"shibboleth/gex"
)

// known are the table's groups: their bits, and the first and the last two bytes of their moduli,
// worked out by hand.
var known = []struct {
	bits        int
	first, last string
}{
	{1024, "\x90\x17", "\x91\x99"}, // 16 + 128, 23; 145, 152 + 1
	{2048, "\xa0\x27", "\x35\x3d"}, // 32 + 128, 39; 53, 60 + 1
	{3072, "\xb0\x37", "\xd4\xdb"}, // 48 + 128, 55; 212, 219
	{4096, "\xc0\x47", "\x78\x7f"}, // 64 + 128, 71; 120, 127
}

// wantRange asks for ErrRange within gex.
func wantRange(t *testing.T, what any, err error) {
	t.Helper()
	if err == nil || err.Error() != "gex: range" || !fault.Is(err, api.ErrRange) || !slices.Equal(fault.Path(err), []string{"gex"}) {
		t.Errorf("%v: %v", what, err)
	}
}

// ones returns a modulus of n bits, all of them set.
func ones(n int) string {
	if n%8 == 0 {
		return strings.Repeat("\xff", n/8)
	}
	return string([]byte{1<<(n%8) - 1}) + strings.Repeat("\xff", n/8)
}

// lone returns an odd modulus of n bits, of which but the first and the last are not set.
func lone(n int) string {
	p := make([]byte, (n+7)/8)
	p[0] |= 1 << ((n - 1) % 8)
	p[len(p)-1] |= 1
	return string(p)
}

// 18.1: every group of the table, and its bytes at both ends.
func TestTable(t *testing.T) {
	table := gex.Table()
	if len(table) != len(known) {
		t.Fatalf("%d groups", len(table))
	}
	for i, g := range table {
		want := known[i]
		if len(g.P) != want.bits/8 || gex.Bits(g) != want.bits || g.G != "\x02" {
			t.Errorf("group %d: %d bytes, %d bits, generator %q", i, len(g.P), gex.Bits(g), g.G)
		}
		if !strings.HasPrefix(g.P, want.first) || !strings.HasSuffix(g.P, want.last) {
			t.Errorf("group %d: %q .. %q", i, g.P[:2], g.P[len(g.P)-2:])
		}
	}
}

// 18.1: each byte but the first and the last is the one before it and 7, modulo 251.
func TestTableBytes(t *testing.T) {
	for i, g := range gex.Table() {
		n := 16 * (i + 1)
		for j := 1; j < len(g.P)-1; j++ {
			n = (n + 7) % 251
			if int(g.P[j]) != n {
				t.Errorf("group %d: byte %d is %d, not %d", i, j, g.P[j], n)
			}
		}
	}
}

// R4: a caller who changes what Table returned changes nothing.
func TestTableIsNew(t *testing.T) {
	before := gex.Table()
	changed := gex.Table()
	for i := range changed {
		changed[i] = api.Group{P: "other", G: "g"}
	}
	slices.Reverse(gex.Table())
	_ = append(gex.Table()[:1], api.Group{})
	if !slices.Equal(gex.Table(), before) {
		t.Errorf("the table has changed")
	}
	if g, err := gex.Pick(2048, 3072, 8192); err != nil || g != before[2] {
		t.Errorf("Pick: %d bits, %v", gex.Bits(g), err)
	}
	// Pick looks at the table from its other end, too.
	gex.Pick(1024, 8192, 8192)
	if !slices.Equal(gex.Table(), before) {
		t.Errorf("the table has changed by Pick")
	}
}

// 18.1: the bit length of a modulus, whatever the generator is.
func TestBits(t *testing.T) {
	for _, x := range []struct {
		p    string
		want int
	}{
		{"", 0},
		{"\x00", 0},
		{"\x00\x00\x00", 0},
		{"\x01", 1},
		{"\x02", 2},
		{"\x03", 2},
		{"\x7f", 7},
		{"\x80", 8},
		{"\xff", 8},
		{"\x01\x00", 9},
		{"\x00\x01\x00", 9},
		{"\x00\x00\xff", 8},
		{"\x80\x00", 16},
		{ones(1023), 1023},
		{ones(1024), 1024},
		{lone(8192), 8192},
		{lone(8193), 8193},
		{"\x00" + ones(1024), 1024},
		{ones(1 << 20), 1 << 20},
	} {
		for _, g := range []string{"", "\x02", "\xff\xff\xff\xff"} {
			if got := gex.Bits(api.Group{P: x.p, G: g}); got != x.want {
				t.Errorf("%.9q: %d, not %d", x.p, got, x.want)
			}
		}
	}
}

// 18.1: requested sizes within the limits and in order.
func TestRight(t *testing.T) {
	for _, x := range []struct {
		least, like, most uint32
		want              bool
	}{
		{1024, 2048, 8192, true},
		{1024, 1024, 1024, true},
		{8192, 8192, 8192, true},
		{1024, 1024, 8192, true},
		{1024, 8192, 8192, true},
		{1025, 1025, 1025, true},
		{2048, 3072, 4096, true},
		{1023, 2048, 8192, false},
		{1023, 1023, 8192, false},
		{1023, 1023, 1023, false},
		{1024, 1023, 8192, false},
		{1024, 1024, 1023, false},
		{2048, 2047, 8192, false},
		{1024, 2048, 2047, false},
		{4096, 2048, 3072, false},
		{2048, 4096, 3072, false},
		{3072, 2048, 4096, false},
		{4096, 3072, 2048, false},
		{1024, 2048, 8193, false},
		{1024, 8193, 8193, false},
		{8193, 8193, 8193, false},
		{1024, 8193, 8192, false},
		{8193, 8192, 8192, false},
		{8192, 8192, 8191, false},
		{0, 0, 0, false},
		{0, 2048, 8192, false},
		{1024, 0, 8192, false},
		{1024, 2048, 0, false},
		{1024, 2048, math.MaxUint32, false},
		{math.MaxUint32, math.MaxUint32, math.MaxUint32, false},
		{1 << 31, 1 << 31, 1 << 31, false},
	} {
		if got := gex.Right(x.least, x.like, x.most); got != x.want {
			t.Errorf("%d, %d, %d: %v", x.least, x.like, x.most, got)
		}
		_, err := gex.Pick(x.least, x.like, x.most)
		if !x.want {
			wantRange(t, x, err)
		}
	}
}

// 18.1, example 1: the group for each request, 0 for none.
func TestPick(t *testing.T) {
	for _, x := range []struct {
		least, like, most uint32
		bits              int
	}{
		{1024, 2000, 8192, 2048},
		{1024, 1024, 1024, 1024},
		{1024, 1024, 8192, 1024},
		{1024, 1025, 8192, 2048},
		{1024, 2048, 2048, 2048},
		{1024, 2048, 8192, 2048},
		{1024, 2049, 8192, 3072},
		{1024, 3072, 8192, 3072},
		{1024, 3073, 8192, 4096},
		{4096, 4096, 4096, 4096},
		{1024, 4096, 8192, 4096},
		// Only a smaller group than asked for: the largest one of these.
		{1024, 4097, 8192, 4096},
		{4096, 8192, 8192, 4096},
		{1024, 8192, 8192, 4096},
		{1024, 1025, 2047, 1024},
		{1024, 2047, 2047, 1024},
		{1024, 3000, 3000, 2048},
		{1024, 4095, 4095, 3072},
		{2048, 2049, 3071, 2048},
		{3072, 3073, 4095, 3072},
		{1024, 1024, 1500, 1024},
		// None that is neither too small nor too large.
		{1025, 1025, 2047, 0},
		{1025, 2047, 2047, 0},
		{2049, 2050, 3071, 0},
		{3073, 3073, 4095, 0},
		{4097, 4097, 8192, 0},
		{8192, 8192, 8192, 0},
		// Not right.
		{1023, 2048, 8192, 0},
		{1024, 2048, 8193, 0},
		{2048, 1024, 8192, 0},
		{1024, 4096, 2048, 0},
	} {
		wantPick(t, x.least, x.like, x.most, x.bits)
	}
}

// wantPick asks for the group with these bits, 0 for none.
func wantPick(t *testing.T, least, like, most uint32, bits int) {
	t.Helper()
	g, err := gex.Pick(least, like, most)
	if bits == 0 {
		wantRange(t, [3]uint32{least, like, most}, err)
		if g != (api.Group{}) {
			t.Errorf("%d, %d, %d: beside an error %d bits", least, like, most, gex.Bits(g))
		}
		return
	}
	if err != nil || g != gex.Table()[bits/1024-1] {
		t.Errorf("%d, %d, %d: %d bits, %v, not %d bits", least, like, most, gex.Bits(g), err, bits)
	}
}

// expected is the size of the group for a request by 18.1, 0 for none.
func expected(least, like, most uint32) int {
	if least < 1024 || like < least || most < like || most > 8192 {
		return 0
	}
	for _, n := range []uint32{1024, 2048, 3072, 4096} {
		if n >= like && n <= most {
			return int(n)
		}
	}
	for _, n := range []uint32{4096, 3072, 2048, 1024} {
		if n >= least && n <= most {
			return int(n)
		}
	}
	return 0
}

// 18.1, 18.3: requests of all sizes next to those that count. A group that is picked passes the
// requester's Check.
func TestPickAndCheck(t *testing.T) {
	var around []uint32
	for _, n := range []uint32{1024, 2048, 3072, 4096, 8192} {
		around = append(around, n-1, n, n+1)
	}
	around = append(around, 0, 1500, 1<<31, math.MaxUint32)
	for _, least := range around {
		for _, like := range around {
			for _, most := range around {
				wantPick(t, least, like, most, expected(least, like, most))
				if g, err := gex.Pick(least, like, most); err == nil {
					if err := gex.Check(least, most, g); err != nil {
						t.Errorf("%d, %d, %d: %d bits: %v", least, like, most, gex.Bits(g), err)
					}
				}
			}
		}
	}
}

// 18.2: how many bits a modulus may have, by the request and at all.
func TestCheckSize(t *testing.T) {
	for _, x := range []struct {
		least, most uint32
		bits        int
		want        bool
	}{
		{1024, 8192, 1023, false},
		{1024, 8192, 1024, true},
		{1024, 8192, 1025, true},
		{1024, 8192, 8191, true},
		{1024, 8192, 8192, true},
		{1024, 8192, 8193, false},
		{1024, 1024, 1024, true},
		{8192, 8192, 8192, true},
		{2048, 4096, 2047, false},
		{2048, 4096, 2048, true},
		{2048, 4096, 3000, true},
		{2048, 4096, 4096, true},
		{2048, 4096, 4097, false},
		{2048, 2047, 2047, false},
		{2048, 2047, 2048, false},
		{4096, 2048, 3072, false},
		// Whatever was requested, from 1024 to 8192 bits.
		{0, math.MaxUint32, 1023, false},
		{0, math.MaxUint32, 1024, true},
		{0, math.MaxUint32, 8192, true},
		{0, math.MaxUint32, 8193, false},
		{0, 0, 1024, false},
		{0, 1023, 1023, false},
		{8193, 8193, 8193, false},
		{math.MaxUint32, math.MaxUint32, 8192, false},
		{1 << 31, math.MaxUint32, 8192, false},
		{0, 1 << 31, 8192, true},
	} {
		for _, p := range []string{ones(x.bits), lone(x.bits)} {
			wantCheck(t, x.least, x.most, api.Group{P: p, G: "\x02"}, x.want)
		}
	}
}

// wantCheck asks whether a group is accepted.
func wantCheck(t *testing.T, least, most uint32, g api.Group, want bool) {
	t.Helper()
	err := gex.Check(least, most, g)
	if !want {
		wantRange(t, [2]uint32{least, most}, err)
	}
	if want && err != nil {
		t.Errorf("from %d to %d: %d bits, generator %.9q: %v", least, most, gex.Bits(g), g.G, err)
	}
}

// 18.2: the modulus is odd and has no leading zero byte.
func TestCheckModulus(t *testing.T) {
	even := func(p string) string { return p[:len(p)-1] + "\xfe" }
	for _, x := range []struct {
		p    string
		want bool
	}{
		{ones(1024), true},
		{ones(8192), true},
		{ones(1025), true},
		{ones(1024)[1:] + "\x01", true},
		{ones(1024)[1:] + "\x02", false},
		{ones(1024)[1:] + "\x00", false},
		{ones(1024)[1:] + "\x80", false},
		{even(ones(1024)), false},
		{even(ones(1025)), false},
		{even(ones(8192)), false},
		{"\x00" + ones(1024), false},
		{"\x00\x00" + ones(2048), false},
		{"\x00" + ones(8192), false},
		{"\x00" + ones(1016), false},
		{"", false},
		{"\x00", false},
		{"\x07", false},
		{strings.Repeat("\x00", 128), false},
		{ones(1 << 20), false},
	} {
		wantCheck(t, 1024, 8192, api.Group{P: x.p, G: "\x02"}, x.want)
		wantCheck(t, 0, math.MaxUint32, api.Group{P: x.p, G: "\x02"}, x.want)
	}
}

// 18.2: the generator has no leading zero byte, is greater than 1 and has fewer bits than the
// modulus.
func TestCheckGenerator(t *testing.T) {
	for _, n := range []int{1024, 1025, 2047, 8192} {
		for _, x := range []struct {
			g    string
			want bool
		}{
			{"", false},
			{"\x00", false},
			{"\x00\x00", false},
			{"\x01", false},
			{"\x00\x01", false},
			{"\x02", true},
			{"\x03", true},
			{"\x00\x02", false},
			{"\x00\x00\x05", false},
			{"\xff", true},
			{"\x01\x00", true},
			{"\x01\x01", true},
			{"\x02\x00", true},
			{lone(n - 1), true},
			{ones(n - 1), true},
			{lone(n), false}, // less than the modulus, but not by its bits
			{ones(n), false},
			{lone(n + 1), false},
			{ones(n + 8), false},
			{"\x00" + ones(n-1), false},
			{"\x00" + ones(n-16), false},
			{ones(1 << 20), false},
		} {
			wantCheck(t, 1024, 8192, api.Group{P: ones(n), G: x.g}, x.want)
			wantCheck(t, 1024, 8192, api.Group{P: ones(n)[:len(ones(n))-1] + "\xfe", G: x.g}, false)
		}
	}
}

// 18.2: the zero value is no group, and what the table has is one only for who requested it.
func TestCheckTable(t *testing.T) {
	wantCheck(t, 1024, 8192, api.Group{}, false)
	wantCheck(t, 0, math.MaxUint32, api.Group{}, false)
	wantCheck(t, 0, 0, api.Group{}, false)
	for i, g := range gex.Table() {
		n := uint32(known[i].bits)
		wantCheck(t, 1024, 8192, g, true)
		wantCheck(t, n, n, g, true)
		wantCheck(t, n+1, 8192, g, false)
		wantCheck(t, 1024, n-1, g, false)
		wantCheck(t, n, n-1, g, false)
	}
}

// 18.2: a group's name, whether the group may be or not.
func TestName(t *testing.T) {
	for _, x := range []struct{ p, g, want string }{
		{"ab", "c", "gex:\x00\x00\x00\x02abc"},
		{"a", "bc", "gex:\x00\x00\x00\x01abc"},
		{"", "", "gex:\x00\x00\x00\x00"},
		{"", "abc", "gex:\x00\x00\x00\x00abc"},
		{"abc", "", "gex:\x00\x00\x00\x03abc"},
		{"\x00a", "\x00\x02", "gex:\x00\x00\x00\x02\x00a\x00\x02"},
		{"\xff\x80", "\x02", "gex:\x00\x00\x00\x02\xff\x80\x02"},
		{strings.Repeat("p", 256), "\x02", "gex:\x00\x00\x01\x00" + strings.Repeat("p", 256) + "\x02"},
		{strings.Repeat("p", 1025), "\x02", "gex:\x00\x00\x04\x01" + strings.Repeat("p", 1025) + "\x02"},
	} {
		if got, e := gex.Name(api.Group{P: x.p, G: x.g}); e != api.OK || got != x.want {
			t.Errorf("%.9q, %.9q: %q, %v", x.p, x.g, got, e)
		}
	}
	for i, g := range gex.Table() {
		want := "gex:" + []string{"\x00\x00\x00\x80", "\x00\x00\x01\x00", "\x00\x00\x01\x80", "\x00\x00\x02\x00"}[i] + g.P + "\x02"
		if got, e := gex.Name(g); e != api.OK || got != want {
			t.Errorf("group %d: %q, %v", i, got, e)
		}
	}
}

// 18.2: a name has at most MaxGroup bytes, wherever they come from.
func TestNameLength(t *testing.T) {
	for _, x := range []struct {
		p, g int
		want api.Errno
	}{
		{2091, 1, api.OK},
		{2092, 0, api.OK},
		{0, 2092, api.OK},
		{1046, 1046, api.OK},
		{2092, 1, api.ErrLong},
		{2093, 0, api.ErrLong},
		{0, 2093, api.ErrLong},
		{1046, 1047, api.ErrLong},
		{2100, 0, api.ErrLong},
		{1 << 20, 1 << 20, api.ErrLong},
	} {
		p, g := strings.Repeat("p", x.p), strings.Repeat("g", x.g)
		got, e := gex.Name(api.Group{P: p, G: g})
		if e != x.want {
			t.Errorf("%d and %d bytes: %v", x.p, x.g, e)
		}
		if e != api.OK && got != "" {
			t.Errorf("%d and %d bytes: beside %v %.9q", x.p, x.g, e, got)
		}
		if e == api.OK && (len(got) != api.MaxGroup || !strings.HasSuffix(got, p+g)) {
			t.Errorf("%d and %d bytes: a name of %d", x.p, x.g, len(got))
		}
	}
}

// 18.3: different groups have different names.
func TestNamesDiffer(t *testing.T) {
	parts := []string{"", "a", "b", "aa", "ab", "ba", "\x00", "\x00a", "\x00\x00\x00\x01", "\x00\x00\x00\x01a", "gex:"}
	var groups []api.Group
	for _, p := range parts {
		for _, g := range parts {
			groups = append(groups, api.Group{P: p, G: g})
		}
	}
	groups = append(groups, gex.Table()...)
	of := map[string]api.Group{}
	for _, g := range groups {
		s, _ := gex.Name(g)
		if other, is := of[s]; is {
			t.Errorf("%q and %q are both %q", g, other, s)
		}
		of[s] = g
	}
}

// 18.2: the methods whose group nobody asks for, and numbers that are none.
func TestCurve(t *testing.T) {
	for _, x := range []struct {
		method int
		want   string
	}{
		{api.MeCurve, "curve25519"},
		{api.MeEcdh, "nistp256"},
		{api.MeGex, ""},
		{api.MeNone, ""},
		{-1, ""},
		{4, ""},
		{257, ""},
		{1 << 32, ""},
		{1<<32 + 1, ""},
		{math.MaxInt, ""},
		{math.MinInt, ""},
	} {
		if got, is := gex.Curve(x.method); got != x.want || is != (x.want != "") {
			t.Errorf("%d: %q, %v", x.method, got, is)
		}
	}
}
