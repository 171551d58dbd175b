package wire_test

import (
	"math/big"
	"strings"
	"testing"

	"shibboleth/wire"
)

func TestByteAndBool(t *testing.T) {
	for n := range 256 {
		if got, want := wire.Byte(byte(n)), string([]byte{byte(n)}); got != want {
			t.Errorf("Byte(%d) = %q", n, got)
		}
	}
	if got := wire.Bool(true); got != "\x01" {
		t.Errorf("Bool(true) = %q", got)
	}
	if got := wire.Bool(false); got != "\x00" {
		t.Errorf("Bool(false) = %q", got)
	}
}

func TestText(t *testing.T) {
	for s, want := range map[string]string{
		"":                         "\x00\x00\x00\x00",
		"a":                        "\x00\x00\x00\x01a",
		"\x00\xff":                 "\x00\x00\x00\x02\x00\xff",
		strings.Repeat("x", 256):   "\x00\x00\x01\x00" + strings.Repeat("x", 256),
		strings.Repeat("y", 1<<16): "\x00\x01\x00\x00" + strings.Repeat("y", 1<<16),
	} {
		if got := wire.Text(s); got != want {
			t.Errorf("Text of %d bytes: %d bytes, not %d", len(s), len(got), len(want))
		}
	}
}

// wholes are integers' bytes, their wire forms, and how many bits they have.
var wholes = []struct {
	s, form string
	bits    int
}{
	{"", "\x00\x00\x00\x00", 0},
	{"\x00", "\x00\x00\x00\x00", 0},
	{"\x00\x00\x00", "\x00\x00\x00\x00", 0},
	{"\x01", "\x00\x00\x00\x01\x01", 1},
	{"\x00\x02", "\x00\x00\x00\x01\x02", 2},
	{"\x7f", "\x00\x00\x00\x01\x7f", 7},
	{"\x00\x7f", "\x00\x00\x00\x01\x7f", 7},
	{"\x80", "\x00\x00\x00\x02\x00\x80", 8},
	{"\x00\x80", "\x00\x00\x00\x02\x00\x80", 8},
	{"\x00\x00\xff", "\x00\x00\x00\x02\x00\xff", 8},
	{"\x01\x00", "\x00\x00\x00\x02\x01\x00", 9},
	{"\x7f\xff", "\x00\x00\x00\x02\x7f\xff", 15},
	{"\x80\x00", "\x00\x00\x00\x03\x00\x80\x00", 16},
	{"\x00\x00\x80\x00\x00", "\x00\x00\x00\x04\x00\x80\x00\x00", 24},
	{"\x01" + strings.Repeat("\x00", 255), "\x00\x00\x01\x00\x01" + strings.Repeat("\x00", 255), 2041},
}

func TestWholeAndBits(t *testing.T) {
	for _, w := range wholes {
		if got := wire.Whole(w.s); got != w.form {
			t.Errorf("Whole(%q) = %q, not %q", w.s, got, w.form)
		}
		if got := wire.Bits(w.s); got != w.bits {
			t.Errorf("Bits(%q) = %d, not %d", w.s, got, w.bits)
		}
	}
}

func TestBitsOfSmallIntegers(t *testing.T) {
	for n := range 1 << 17 {
		b := big.NewInt(int64(n))
		if got := wire.Bits(string(b.Bytes())); got != b.BitLen() {
			t.Fatalf("Bits of %d: %d", n, got)
		}
	}
}
