package script_test

import (
	"fmt"
	"strings"
	"testing"

	"shibboleth/script"
)

// every is a string of every byte.
func every() string {
	var b strings.Builder
	for c := range 256 {
		b.WriteByte(byte(c))
	}
	return b.String()
}

// stays reports whether a byte is not escaped.
func stays(c byte) bool {
	return c >= 33 && c <= 126 && c != '%' && c != ',' && c != ':' && c != '=' && c != ';'
}

// 35.1: every byte, alone and among others.
func TestEscape(t *testing.T) {
	var all strings.Builder
	for i := range 256 {
		c := string([]byte{byte(i)})
		want := c
		if !stays(byte(i)) {
			want = fmt.Sprintf("%%%02x", i)
		}
		all.WriteString(want)
		for in, out := range map[string]string{c: want, "a" + c: "a" + want, c + "a": want + "a", c + c: want + want} {
			if got := script.Escape(in); got != out {
				t.Errorf("Escape(%q): %q, not %q", in, got, out)
			}
			if got, is := script.Unescape(out); !is || got != in {
				t.Errorf("Unescape(%q): %q, %v", out, got, is)
			}
		}
	}
	if got := script.Escape(every()); got != all.String() {
		t.Errorf("Escape: %q", got)
	}
	if got, is := script.Unescape(all.String()); !is || got != every() {
		t.Errorf("Unescape: %q, %v", got, is)
	}
	if got := script.Escape(""); got != "" {
		t.Errorf("Escape of nothing: %q", got)
	}
	if got, is := script.Unescape(""); !is || got != "" {
		t.Errorf("Unescape of nothing: %q, %v", got, is)
	}
}

// 35.1: no byte may be written in another way: as it is, or by other digits.
func TestUnescape(t *testing.T) {
	refuse := func(s string) {
		t.Helper()
		if got, is := script.Unescape(s); is || got != "" {
			t.Errorf("Unescape(%q): %q, %v", s, got, is)
		}
	}
	const lower = "0123456789abcdef"
	for i := range 256 {
		c := byte(i)
		if !stays(c) {
			for _, s := range []string{string([]byte{c}), string([]byte{'a', c}), string([]byte{c, 'a'})} {
				refuse(s)
			}
		}
		for k := range 256 {
			d := byte(k)
			s := string([]byte{'%', c, d})
			high, low := strings.IndexByte(lower, c), strings.IndexByte(lower, d)
			if high < 0 || low < 0 || stays(byte(16*high+low)) {
				refuse(s)
				refuse("x" + s + "x")
				continue
			}
			if got, is := script.Unescape(s); !is || got != string([]byte{byte(16*high + low)}) {
				t.Errorf("Unescape(%q): %q, %v", s, got, is)
			}
		}
	}
	for _, s := range []string{"%", "%2", "%%", "%%25", "a%", "a%2", "%20%", "%20%2", "%2C", "%3B", "%41", "% 20", "%2 0", "%0x", "%-1", "%+1"} {
		refuse(s)
	}
}

// 35.1, 35.4: a string has one escaped form.
func FuzzEscape(f *testing.F) {
	for _, s := range []string{"", "a%,\x00~", "%4", "%41", "%2c", "a b", every()} {
		f.Add(s)
	}
	f.Fuzz(func(t *testing.T, s string) {
		if got, is := script.Unescape(script.Escape(s)); !is || got != s {
			t.Errorf("%q: %q, %v", s, got, is)
		}
		if got, is := script.Unescape(s); is && script.Escape(got) != s || !is && got != "" {
			t.Errorf("Unescape(%q): %q", s, got)
		}
	})
}
