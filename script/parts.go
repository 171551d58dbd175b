package script

import (
	"strconv"
	"strings"

	"shibboleth/api"
)

// opsKey is the key of recipes. It is also where a recipe step without a word is wrong.
const opsKey = "ops"

// comma separates the elements of a list.
const comma = ","

// part is a key, and what writes and reads the value of its field. Write returns the empty string
// for the value zero, and read accepts no text of it: such a part is omitted.
type part struct {
	key   string
	write func() string
	read  func(text string) bool
}

// parts returns the parts of a step, in their order.
func parts(x *api.Step) []part {
	c, p := &x.Conf, &x.Conf.Prefs
	return []part{
		single("to", &x.To, strconv.Itoa, readNumber),
		single("who", &x.Who, strconv.Itoa, readNumber),
		single("text", &x.Text, Escape, Unescape),
		list(opsKey, &x.Ops, writeOp, readOp),
		list("cuts", &x.Cuts, strconv.Itoa, readNumber),
		single("server", &c.Server, writeFlag, readFlag),
		single("software", &c.Software, Escape, Unescape),
		single("comment", &c.Comment, Escape, Unescape),
		list("kex", &p.Kex, writeName, readName),
		list("host", &p.Host, writeName, readName),
		list("encc", &p.EncC, writeName, readName),
		list("encs", &p.EncS, writeName, readName),
		list("macc", &p.MacC, writeName, readName),
		list("macs", &p.MacS, writeName, readName),
		list("compc", &p.CompC, writeName, readName),
		list("comps", &p.CompS, writeName, readName),
		list("algs", &c.Algs, writeName, readName),
		single("own", &c.Own, strconv.Itoa, readNumber),
		list("grants", &c.Grants, writeGrant, readGrant),
		single("limit", &c.Limit, strconv.Itoa, readNumber),
		single("peer", &c.Peer, strconv.Itoa, readNumber),
		single("user", &c.User, Escape, Unescape),
		list("keys", &c.Keys, strconv.Itoa, readNumber),
		single("ext", &c.Ext, writeFlag, readFlag),
		single("guess", &c.Guess, writeFlag, readFlag),
		single("wish", &c.Wish, writeWish, readWish),
	}
}

// single returns the part of a field that is no list.
func single[T comparable](key string, field *T, write func(T) string, read func(string) (T, bool)) part {
	var zero T
	return part{
		key: key,
		write: func() string {
			if *field == zero {
				return ""
			}
			return write(*field)
		},
		read: func(text string) bool {
			value, is := read(text)
			*field = value
			return is && value != zero
		},
	}
}

// list returns the part of a field that is a list. No element of it has an empty text.
func list[T any](key string, field *[]T, write func(T) string, read func(string) (T, bool)) part {
	return part{
		key:   key,
		write: func() string { return join(*field, comma, write) },
		read: func(text string) bool {
			l, is := split(text, comma, read)
			*field = l
			return is
		},
	}
}

// join returns the texts of the elements of a list, and what stands between them.
func join[T any](l []T, between string, write func(T) string) string {
	var texts []string
	for _, x := range l {
		texts = append(texts, write(x))
	}
	return strings.Join(texts, between)
}

// split returns the list that join writes like that, which has an element, and whether there is one.
func split[T any](text, between string, read func(string) (T, bool)) ([]T, bool) {
	var l []T
	for s := range strings.SplitSeq(text, between) {
		x, is := read(s)
		if !is {
			return nil, false
		}
		l = append(l, x)
	}
	return l, true
}
