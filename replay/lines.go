package replay

import (
	"iter"
	"strings"
)

const newline = "\n" // the end of a line

// lines yields the lines of a text, each with its end.
func lines(text string) iter.Seq[string] {
	return func(yield func(string) bool) {
		for rest := text; rest != ""; {
			var line string
			line, rest = cut(rest)
			if !yield(line) {
				return
			}
		}
	}
}

// pairs yields the lines of two texts that have the same number. For a missing line it yields the
// empty string, which is no line.
func pairs(a, b string) iter.Seq2[string, string] {
	return func(yield func(string, string) bool) {
		for a != "" || b != "" {
			var one, other string
			one, a = cut(a)
			other, b = cut(b)
			if !yield(one, other) {
				return
			}
		}
	}
}

// cut returns the first line of a text, and what follows it.
func cut(text string) (line, rest string) {
	end := strings.Index(text, newline) + len(newline)
	if end < len(newline) {
		end = len(text)
	}
	return text[:end], text[end:]
}
