package script

import "strings"

const (
	escape = '%'                // what an escaped byte is written with, and two digits
	digits = "0123456789abcdef" // of an escaped byte
	forms  = "%,:=;"            // what has a meaning of its own in a line
)

// The bytes that can be seen are in this range.
const (
	firstSeen = 33
	lastSeen  = 126
)

// escapedLen is how many bytes an escaped byte takes up.
const escapedLen = 3

// Escape returns an escaped string.
func Escape(s string) string {
	var text strings.Builder
	for _, c := range []byte(s) {
		if stays(c) {
			text.WriteByte(c)
			continue
		}
		text.WriteByte(escape)
		text.WriteByte(digits[c>>4])
		text.WriteByte(digits[c&15])
	}
	return text.String()
}

// Unescape returns the string whose escaped form is s, and whether there is one.
func Unescape(s string) (string, bool) {
	var text strings.Builder
	for s != "" {
		c, n := first(s)
		if n == 0 {
			return "", false
		}
		text.WriteByte(c)
		s = s[n:]
	}
	return text.String(), true
}

// first returns the first byte of an escaped string and how many bytes it takes up there, 0 if
// the string does not begin as an escaped one does.
func first(s string) (byte, int) {
	switch {
	case stays(s[0]):
		return s[0], 1
	case s[0] != escape || len(s) < escapedLen:
		return 0, 0
	}
	high, low := strings.IndexByte(digits, s[1]), strings.IndexByte(digits, s[2])
	c := byte(high<<4 | low)
	// A byte that stays is written in one way only, too.
	if high < 0 || low < 0 || stays(c) {
		return 0, 0
	}
	return c, escapedLen
}

// stays reports whether a byte is written as it is.
func stays(c byte) bool {
	return c >= firstSeen && c <= lastSeen && strings.IndexByte(forms, c) < 0
}
