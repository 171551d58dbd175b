package msg

import (
	"cmp"
	"math"
	"strings"

	"shibboleth/api"
	"shibboleth/code"
	"shibboleth/names"
	"shibboleth/wire"
)

// A component is what a value consists of: one of the components of a Field besides its Kind.
type component int

const (
	noComponent component = iota // of what is no letter
	numberN
	bytesS
	listL
)

// cookieSize is the number of bytes of a value that has no length on the wire.
const cookieSize = 16

// used returns the component that the values of a letter use.
func used(letter rune) component {
	switch letter {
	case 'b', 'u':
		return numberN
	case 's', 'm', 'c', 't':
		return bytesS
	case 'n', 'e':
		return listL
	}
	return noComponent
}

// onlyUses reports whether the components of x that a letter does not use are empty.
func onlyUses(letter rune, x api.Field) bool {
	c := used(letter)
	return (c == numberN || x.N == 0) && (c == bytesS || x.S == "") && (c == listL || len(x.L) == 0)
}

// write returns the wire form of x as a value of a letter, or what is wrong with it.
func write(letter rune, x api.Field) (string, api.Errno) {
	if rune(x.Kind) != letter || !onlyUses(letter, x) {
		return "", api.ErrForm
	}
	switch used(letter) {
	case numberN:
		return writeNumber(letter, x.N)
	case bytesS:
		return writeBytes(letter, x.S)
	case listL:
		return writeList(letter, x.L)
	}
	return "", api.ErrForm
}

func writeNumber(letter rune, n int) (string, api.Errno) {
	switch {
	case letter == 'b' && (n == 0 || n == 1):
		return wire.Bool(n == 1), api.OK
	case letter == 'u' && uint64(n) <= math.MaxUint32: // a negative n is above that, too
		return code.U32(uint32(n)), api.OK
	}
	return "", api.ErrRange
}

func writeBytes(letter rune, s string) (string, api.Errno) {
	switch {
	case letter == 's' || letter == 't':
		return wire.Text(s), api.OK
	case letter == 'm' && !strings.HasPrefix(s, "\x00"):
		return wire.Whole(s), api.OK
	case letter == 'c' && len(s) == cookieSize:
		return s, api.OK
	}
	return "", api.ErrForm
}

func writeList(letter rune, l []string) (string, api.Errno) {
	if letter == 'e' {
		return writeExtensions(l)
	}
	text, e := names.Join(l)
	if e != api.OK {
		return "", e
	}
	return wire.Text(text), api.OK
}

// writeExtensions returns the wire form of the strings of extensions, two for each.
func writeExtensions(l []string) (string, api.Errno) {
	switch {
	case len(l)%2 != 0:
		return "", api.ErrForm
	case len(l) > 2*api.MaxExts:
		return "", api.ErrLong
	}
	form := []byte(code.U32(uint32(len(l) / 2)))
	for _, s := range l {
		form = append(form, wire.Text(s)...)
	}
	return string(form), api.OK
}

// read reads a value of a letter, or returns why there is none.
func read(letter rune, r *wire.Reader) (api.Field, api.Errno) {
	x := api.Field{Kind: byte(letter)}
	e := api.OK
	switch letter {
	case 'b':
		if r.Bool() {
			x.N = 1
		}
	case 'u':
		x.N = int(r.U32())
	case 's', 't':
		x.S = r.Text()
	case 'm':
		x.S = r.Whole()
	case 'c':
		x.S = r.Bytes(cookieSize)
	case 'n':
		x.L, e = names.Split(r.Text())
	case 'e':
		x.L, e = readExtensions(r)
	}
	// Once the reader has failed, what was made of its zero values has no meaning.
	if e = cmp.Or(r.Err(), e); e != api.OK {
		return api.Field{}, e
	}
	return x, api.OK
}

// readExtensions reads the strings of extensions, two for each.
func readExtensions(r *wire.Reader) ([]string, api.Errno) {
	count := r.U32()
	if count > api.MaxExts {
		return nil, api.ErrLong
	}
	var l []string
	for range 2 * count {
		l = append(l, r.Text())
	}
	return l, api.OK
}
