package report

import (
	"strconv"
	"strings"

	"shibboleth/api"
	"shibboleth/choose"
	"shibboleth/script"
)

const (
	space  = " " // between the words of a line
	equals = "=" // between a key and its value
	noText = ";" // instead of an empty string
)

// line returns the line of these words.
func line(words ...string) string {
	return strings.Join(words, space)
}

// pair returns the word of a key and its value.
func pair(key, value string) string {
	return key + equals + value
}

// number returns the word of a key whose value is a number.
func number[T int | uint32](key string, n T) string {
	return pair(key, strconv.FormatInt(int64(n), 10))
}

// text returns the word of a key whose value is a string.
func text(key, s string) string {
	return pair(key, escaped(s))
}

// choice returns the words of the names that were agreed on.
func choice(c api.Choice) string {
	var words []string
	keys := [...]string{"kex", "host", "encc", "encs", "macc", "macs", "compc", "comps"}
	for i, name := range choose.Lists(c) {
		words = append(words, text(keys[i], name))
	}
	return line(words...)
}

// escaped returns a string as it is written in a line.
func escaped(s string) string {
	if s == "" {
		return noText
	}
	return script.Escape(s)
}

// role returns what a session is.
func role(server bool) string {
	if server {
		return "server"
	}
	return "client"
}

// truth returns the number that stands for what is true, or false.
func truth(is bool) int {
	if is {
		return 1
	}
	return 0
}
