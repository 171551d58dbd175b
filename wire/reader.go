package wire

import (
	"shibboleth/api"
)

// Reader reads values one by one. After the first error it reads nothing any more.
type Reader struct {
	rest string
	err  api.Errno
}

// New returns a reader of s.
func New(s string) *Reader {
	return &Reader{rest: s}
}

// Byte reads a byte.
func (r *Reader) Byte() byte {
	return first(r.fixed(1, anything))
}

// Bool reads a truth value.
func (r *Reader) Bool() bool {
	return first(r.fixed(1, func(s string) bool { return s[0] <= 1 })) == 1
}

// U32 reads a four-byte number.
func (r *Reader) U32() uint32 {
	var n uint32
	for _, b := range []byte(r.fixed(4, anything)) {
		n = n<<8 | uint32(b)
	}
	return n
}

// Text reads a string.
func (r *Reader) Text() string {
	return r.counted(anything)
}

// Whole reads an integer and returns its bytes without leading zero bytes.
func (r *Reader) Whole() string {
	return unpadded(r.counted(func(s string) bool {
		switch {
		case s == "":
			return true
		case s[0] != 0:
			return s[0] < sign
		}
		return len(s) > 1 && s[1] >= sign
	}))
}

// Bytes reads n bytes.
func (r *Reader) Bytes(n int) string {
	return r.fixed(n, anything)
}

// Left returns the number of bytes that were not read.
func (r *Reader) Left() int {
	if r == nil {
		return 0
	}
	return len(r.rest)
}

// Err returns the first error.
func (r *Reader) Err() api.Errno {
	if r == nil {
		return api.ErrArg
	}
	return r.err
}

// End returns the first error, or that there are bytes left.
func (r *Reader) End() api.Errno {
	if e := r.Err(); e != api.OK || r.Left() == 0 {
		return e
	}
	return api.ErrForm
}

// fixed reads n bytes that must be right.
func (r *Reader) fixed(n int, right func(s string) bool) string {
	switch {
	case r.Err() != api.OK:
		return ""
	case n < 0 || n > len(r.rest):
		r.err = api.ErrShort
		return ""
	case !right(r.rest[:n]):
		r.err = api.ErrForm
		return ""
	}
	s := r.rest[:n]
	r.rest = r.rest[n:]
	return s
}

// counted reads a string that must be right. Where it fails, its length is unread again, too.
func (r *Reader) counted(right func(s string) bool) string {
	if r == nil {
		return ""
	}
	begin := r.rest
	// Where an int has 32 bits only, a length beyond it is negative, and so fails as it has to.
	n := int(r.U32())
	s := r.fixed(n, right)
	if r.err != api.OK {
		r.rest = begin
	}
	return s
}

func anything(string) bool {
	return true
}

func first(s string) byte {
	if s == "" {
		return 0
	}
	return s[0]
}
