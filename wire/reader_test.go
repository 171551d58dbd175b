package wire_test

import (
	"math"
	"math/big"
	"strings"
	"testing"

	"shibboleth/api"
	"shibboleth/wire"
)

// calls are all that a reader can be asked to read; each answers whether the value was zero.
var calls = map[string]func(r *wire.Reader) bool{
	"Byte":      func(r *wire.Reader) bool { return r.Byte() == 0 },
	"Bool":      func(r *wire.Reader) bool { return !r.Bool() },
	"U32":       func(r *wire.Reader) bool { return r.U32() == 0 },
	"Text":      func(r *wire.Reader) bool { return r.Text() == "" },
	"Whole":     func(r *wire.Reader) bool { return r.Whole() == "" },
	"Bytes(0)":  func(r *wire.Reader) bool { return r.Bytes(0) == "" },
	"Bytes(1)":  func(r *wire.Reader) bool { return r.Bytes(1) == "" },
	"Bytes(-1)": func(r *wire.Reader) bool { return r.Bytes(-1) == "" },
}

// wantStopped checks that the reader has the error e and left bytes, whatever it is asked to read.
func wantStopped(t *testing.T, name string, r *wire.Reader, left int, e api.Errno) {
	t.Helper()
	for call, zero := range calls {
		if !zero(r) {
			t.Errorf("%s: %s returns something", name, call)
		}
		if r.Left() != left || r.Err() != e || r.End() != e {
			t.Errorf("%s: after %s: %d left, error %v, at the end %v; not %d, %v", name, call, r.Left(), r.Err(), r.End(), left, e)
		}
	}
}

func TestReaderReadsValueByValue(t *testing.T) {
	r := wire.New(wire.Byte(200) + wire.Bool(true) + wire.Text("ab") + wire.Bool(false) + "\xfe\xdc\xba\x98" + wire.Whole("\x80\x01") + wire.Text("") + wire.Whole("") + "xyz")
	for _, step := range []struct {
		name string
		is   func() bool
		left int
	}{
		{"nothing", func() bool { return true }, 31},
		{"Byte", func() bool { return r.Byte() == 200 }, 30},
		{"Bool", func() bool { return r.Bool() }, 29},
		{"Text", func() bool { return r.Text() == "ab" }, 23},
		{"Bool", func() bool { return !r.Bool() }, 22},
		{"U32", func() bool { return r.U32() == 0xfedcba98 }, 18},
		{"Whole", func() bool { return r.Whole() == "\x80\x01" }, 11},
		{"Text", func() bool { return r.Text() == "" }, 7},
		{"Whole", func() bool { return r.Whole() == "" }, 3},
		{"Bytes(0)", func() bool { return r.Bytes(0) == "" }, 3},
		{"Bytes(2)", func() bool { return r.Bytes(2) == "xy" }, 1},
	} {
		if !step.is() || r.Left() != step.left || r.Err() != api.OK || r.End() != api.ErrForm {
			t.Errorf("%s: another value, or %d left, error %v, at the end %v", step.name, r.Left(), r.Err(), r.End())
		}
	}
	if s := r.Bytes(1); s != "z" || r.Left() != 0 || r.Err() != api.OK || r.End() != api.OK {
		t.Errorf("the last byte: %q, %d left, %v, %v", s, r.Left(), r.Err(), r.End())
	}
	if s := r.Bytes(0); s != "" || r.End() != api.OK {
		t.Errorf("no byte of none: %q, %v", s, r.End())
	}
}

func TestReaderFails(t *testing.T) {
	long := strings.Repeat("x", 255)
	for _, c := range []struct {
		s    string
		call string
		e    api.Errno
	}{
		{"", "Byte", api.ErrShort},
		{"", "Bool", api.ErrShort},
		{"\x02", "Bool", api.ErrForm},
		{"\xff\x00", "Bool", api.ErrForm},
		{"", "U32", api.ErrShort},
		{"\x00\x00\x01", "U32", api.ErrShort},
		{"", "Text", api.ErrShort},
		{"\x00\x00\x00", "Text", api.ErrShort},
		{"\x00\x00\x00\x01", "Text", api.ErrShort},
		{"\x00\x00\x00\x03ab", "Text", api.ErrShort},
		{"\x00\x00\x01\x00" + long, "Text", api.ErrShort},
		{"\x7f\xff\xff\xffabc", "Text", api.ErrShort},
		{"\xff\xff\xff\xffabc", "Text", api.ErrShort},
		{"\xff\xff\xff\xfcabcd", "Text", api.ErrShort},
		{"\x00\x00\x00", "Whole", api.ErrShort},
		{"\x00\x00\x00\x02\x01", "Whole", api.ErrShort},
		{"\x00\x00\x00\x02\x80", "Whole", api.ErrShort},
		{"\x80\x00\x00\x01\x01", "Whole", api.ErrShort},
		{"\x00\x00\x00\x01\x00", "Whole", api.ErrForm},
		{"\x00\x00\x00\x01\x80", "Whole", api.ErrForm},
		{"\x00\x00\x00\x01\xffabc", "Whole", api.ErrForm},
		{"\x00\x00\x00\x02\x00\x00", "Whole", api.ErrForm},
		{"\x00\x00\x00\x02\x00\x7f", "Whole", api.ErrForm},
		{"\x00\x00\x00\x03\x00\x00\x80", "Whole", api.ErrForm},
		{"\x00\x00\x00\x03\x80\x00\x00", "Whole", api.ErrForm},
		{"", "Bytes(1)", api.ErrShort},
		{"", "Bytes(-1)", api.ErrShort},
		{"abc", "Bytes(-1)", api.ErrShort},
	} {
		r := wire.New(c.s)
		if !calls[c.call](r) {
			t.Errorf("%s of %q returns something", c.call, c.s)
		}
		if r.Err() != c.e {
			t.Errorf("%s of %q: %v, not %v", c.call, c.s, r.Err(), c.e)
		}
		wantStopped(t, c.call+" of "+c.s, r, len(c.s), c.e)
	}
}

func TestReaderBytesLimits(t *testing.T) {
	for _, n := range []int{math.MinInt, -2, 4, math.MaxInt32, math.MaxInt} {
		r := wire.New("abc")
		if s := r.Bytes(n); s != "" || r.Err() != api.ErrShort || r.Left() != 3 {
			t.Errorf("Bytes(%d): %q, %v, %d left", n, s, r.Err(), r.Left())
		}
	}
	if r := wire.New("abc"); r.Bytes(3) != "abc" || r.End() != api.OK {
		t.Errorf("all bytes: %v", r.End())
	}
}

// TestReaderFailsLater checks that what fails behind other values leaves exactly itself unread.
func TestReaderFailsLater(t *testing.T) {
	r := wire.New(wire.Text("ab") + "\x00\x00\x00\x05cd")
	if r.Text() != "ab" {
		t.Errorf("the first text")
	}
	if s := r.Text(); s != "" {
		t.Errorf("a short text: %q", s)
	}
	wantStopped(t, "a short text behind another", r, 6, api.ErrShort)
	r = wire.New("\x01\x03\x01")
	r.Bool()
	r.Bool()
	wantStopped(t, "a bad truth behind a good one", r, 2, api.ErrForm)
}

func TestReaderReadsEveryWhole(t *testing.T) {
	for n := range 1 << 17 {
		s := string(big.NewInt(int64(n)).Bytes())
		r := wire.New(wire.Whole(s))
		if got := r.Whole(); got != s || r.End() != api.OK {
			t.Fatalf("%d: %q, %v", n, got, r.End())
		}
	}
}

// TestWholeHasOneForm checks that what is read as an integer is exactly what is written for it.
func TestWholeHasOneForm(t *testing.T) {
	edges := []byte{0, 1, 0x7f, 0x80, 0xff}
	var try func(s string)
	try = func(s string) {
		r := wire.New(wire.Text(s))
		got := r.Whole()
		if right := wire.Whole(s) == wire.Text(s); right != (r.End() == api.OK) || right && wire.Whole(got) != wire.Text(s) {
			t.Errorf("%q is read as %q: %v", s, got, r.End())
		}
		if len(s) < 4 {
			for _, b := range edges {
				try(s + string([]byte{b}))
			}
		}
	}
	try("")
}

func TestReaderWithoutBytes(t *testing.T) {
	var none *wire.Reader
	wantStopped(t, "a nil reader", none, 0, api.ErrArg)
	for name, r := range map[string]*wire.Reader{"a zero reader": {}, "a reader of nothing": wire.New("")} {
		if r.Left() != 0 || r.Err() != api.OK || r.End() != api.OK {
			t.Errorf("%s: %d left, %v, %v", name, r.Left(), r.Err(), r.End())
		}
	}
}

func TestReadersAreIndependent(t *testing.T) {
	a, b := wire.New("ab"), wire.New("ab")
	a.Bytes(-1)
	if b.Bytes(2) != "ab" || b.End() != api.OK || a.End() != api.ErrShort {
		t.Errorf("a reader depends on another one")
	}
}

func FuzzReader(f *testing.F) {
	f.Add("\x00\x00\x00\x01a\x01", "TB")
	f.Fuzz(func(t *testing.T, s, order string) {
		r := wire.New(s)
		reads := []func() string{
			func() string { return wire.Byte(r.Byte()) },
			func() string { return wire.Bool(r.Bool()) },
			func() string { return wire.Text(r.Text()) },
			func() string { return wire.Whole(r.Whole()) },
			func() string { return r.Bytes(3) },
		}
		for _, c := range []byte(order) {
			left := r.Left()
			form := reads[int(c)%len(reads)]()
			if r.Err() == api.OK && form != s[len(s)-left:len(s)-r.Left()] || r.Err() != api.OK && r.Left() != left {
				t.Fatalf("%q: %q", s, form)
			}
		}
	})
}
