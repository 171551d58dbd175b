package script

import (
	"slices"
	"strconv"
	"strings"

	"shibboleth/api"
)

const (
	colon  = ":" // between what a recipe step, a grant or a wish consists of
	noName = ";" // an empty name as an element of a list
	set    = "1" // true
)

const (
	opNumbers = 3 // how many numbers a recipe step has
	sizes     = 3 // how many sizes a wish has
)

// stepWords returns the words of the kinds of steps, in the order of the kinds.
func stepWords() []string {
	return []string{"spawn", "take", "line", "plain", "sealed", "bad", "pass", "rekey", "say"}
}

// opWords returns the words of the kinds of recipe steps, in the order of the kinds.
func opWords() []string {
	return []string{"data", "nonce", "know", "sent", "base", "exp", "pub", "sign", "hash", "derive", "seal", "open", "empty", "add", "at"}
}

// wordOf returns the word of a kind, the empty string for what is none.
func wordOf(kind int, words []string) string {
	if kind < 0 || kind >= len(words) {
		return ""
	}
	return words[kind]
}

// kindOf returns the kind with a word, and whether there is one.
func kindOf(word string, words []string) (int, bool) {
	kind := slices.Index(words, word)
	if kind < 0 {
		return 0, false
	}
	return kind, true
}

// hasNoWord reports whether a recipe step is of a kind that can't be written.
func hasNoWord(x api.Op) bool {
	return wordOf(x.Kind, opWords()) == ""
}

// readNumber accepts only what would be written for the number.
func readNumber(text string) (int, bool) {
	n, err := strconv.Atoi(text)
	if err != nil || strconv.Itoa(n) != text {
		return 0, false
	}
	return n, true
}

// writeFlag writes what is true: what is not is omitted.
func writeFlag(bool) string {
	return set
}

func readFlag(text string) (bool, bool) {
	return text == set, text == set
}

func writeName(s string) string {
	if s == "" {
		return noName
	}
	return Escape(s)
}

func readName(text string) (string, bool) {
	switch text {
	case noName:
		return "", true
	case "":
		return "", false
	}
	return Unescape(text)
}

func writeGrant(x api.Grant) string {
	return Escape(x.User) + colon + strconv.Itoa(x.Who)
}

func readGrant(text string) (api.Grant, bool) {
	name, number, _ := strings.Cut(text, colon)
	user, isText := Unescape(name)
	who, isNumber := readNumber(number)
	return api.Grant{User: user, Who: who}, isText && isNumber
}

func writeOp(x api.Op) string {
	numbers := join([]int{x.A, x.B, x.C}, colon, strconv.Itoa)
	return wordOf(x.Kind, opWords()) + colon + numbers + colon + Escape(x.S)
}

func readOp(text string) (api.Op, bool) {
	word, rest, _ := strings.Cut(text, colon)
	last := strings.LastIndex(rest, colon)
	if last < 0 {
		return api.Op{}, false
	}
	kind, isKind := kindOf(word, opWords())
	n, areNumbers := split(rest[:last], colon, readNumber)
	s, isText := Unescape(rest[last+len(colon):])
	if !isKind || !areNumbers || len(n) != opNumbers || !isText {
		return api.Op{}, false
	}
	return api.Op{Kind: kind, A: n[0], B: n[1], C: n[2], S: s}, true
}

func writeWish(x [sizes]uint32) string {
	return join(x[:], colon, writeSize)
}

func readWish(text string) ([sizes]uint32, bool) {
	l, is := split(text, colon, readSize)
	if !is || len(l) != sizes {
		return [sizes]uint32{}, false
	}
	return [sizes]uint32(l), true
}

func writeSize(n uint32) string {
	return strconv.FormatUint(uint64(n), 10)
}

// readSize is like readNumber, for a size.
func readSize(text string) (uint32, bool) {
	wide, err := strconv.ParseUint(text, 10, 32)
	n := uint32(wide)
	if err != nil || writeSize(n) != text {
		return 0, false
	}
	return n, true
}
