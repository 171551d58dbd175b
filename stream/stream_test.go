package stream_test

import (
	"slices"
	"strings"
	"testing"

	"shibboleth/api"
	"shibboleth/code"
	"shibboleth/frame"
	"shibboleth/stream"
)

// longest is the text of the longest line.
var longest = strings.Repeat("~ ", api.MaxLine/2) + "~"

// sized returns n bytes, of which none equals its neighbours.
func sized(n int) string {
	b := make([]byte, n)
	for i := range b {
		b[i] = byte(i*7 + i>>8 + 1)
	}
	return string(b)
}

// unit is a unit as chapter 11 defines it, whatever its length.
func unit(body string) string {
	return code.U32(uint32(len(body))) + body
}

// plain is a plain packet.
func plain(t *testing.T, payload string) string {
	t.Helper()
	s, e := frame.Pack(payload)
	if e != api.OK {
		t.Fatalf("Pack of %d bytes: %v", len(payload), e)
	}
	return s
}

func head(s string) string {
	return s[:min(len(s), 40)]
}

// fed returns a stream to which the pieces came.
func fed(pieces ...string) *stream.Stream {
	x := stream.New()
	for _, s := range pieces {
		x.Feed(s)
	}
	return x
}

// taker is Line or Unit of a stream.
type taker func(x *stream.Stream) (string, bool, api.Errno)

func takeLine(x *stream.Stream) (string, bool, api.Errno) { return x.Line() }
func takeUnit(x *stream.Stream) (string, bool, api.Errno) { return x.Unit() }

// takers are both.
var takers = []taker{takeLine, takeUnit}

// wantItem checks that an item is consumed, and how many bytes stay.
func wantItem(t *testing.T, x *stream.Stream, take taker, want string, left int) {
	t.Helper()
	if got, is, e := take(x); got != want || !is || e != api.OK {
		t.Errorf("%q, %d bytes, %v, %v, not %q, %d bytes", head(got), len(got), is, e, head(want), len(want))
	}
	wantState(t, x, left, api.OK)
}

// wantWait checks that nothing is consumed, since something is to come yet.
func wantWait(t *testing.T, x *stream.Stream, take taker, left int) {
	t.Helper()
	if got, is, e := take(x); got != "" || is || e != api.OK {
		t.Errorf("%q, %d bytes, %v, %v, not nothing", head(got), len(got), is, e)
	}
	wantState(t, x, left, api.OK)
}

// wantBreak checks that the stream is broken, whatever is asked of it afterwards.
func wantBreak(t *testing.T, x *stream.Stream, take taker, err api.Errno) {
	t.Helper()
	if got, is, e := take(x); got != "" || is || e != err {
		t.Errorf("%q, %d bytes, %v, %v, not %v", head(got), len(got), is, e, err)
	}
	wantBroken(t, x, err)
}

// wantBroken checks that a stream accepts and returns nothing any more.
func wantBroken(t *testing.T, x *stream.Stream, err api.Errno) {
	t.Helper()
	for _, s := range []string{"", "ok\r\n", unit("ok"), "\xff"} {
		wantState(t, x, 0, err)
		for _, take := range takers {
			if got, is, e := take(x); got != "" || is || e != err {
				t.Errorf("broken by %v: %q, %v, %v", err, got, is, e)
			}
		}
		x.Feed(s)
		wantState(t, x, 0, err)
	}
	x.Close()
	wantState(t, x, 0, err)
}

// wantState checks what a stream says of itself.
func wantState(t *testing.T, x *stream.Stream, left int, err api.Errno) {
	t.Helper()
	if x.Left() != left || x.Broken() != err {
		t.Errorf("Left %d, Broken %v, not %d, %v", x.Left(), x.Broken(), left, err)
	}
}

// 13.2: the chapter's example.
func TestExample(t *testing.T) {
	x := fed("SSH-2.0-x\r")
	wantWait(t, x, takeLine, 10)
	x.Feed("\n")
	wantItem(t, x, takeLine, "SSH-2.0-x", 0)
}

// 13.1: what comes is appended, and counted until it is consumed.
func TestFeed(t *testing.T) {
	x := stream.New()
	wantState(t, x, 0, api.OK)
	n := 0
	for _, s := range []string{"", "a", "\x00\xff", "", "\r\n", sized(1000), sized(100000), ""} {
		x.Feed(s)
		n += len(s)
		wantState(t, x, n, api.OK)
	}
	var zero stream.Stream
	zero.Feed("a\r\nb")
	wantItem(t, &zero, takeLine, "a", 1)
	wantWait(t, &zero, takeLine, 1)
}

// 13.1: streams have nothing in common.
func TestStreamsApart(t *testing.T) {
	x, y := stream.New(), stream.New()
	x.Feed("x\r\nmore")
	y.Feed("y\r\n")
	wantItem(t, y, takeLine, "y", 0)
	y.Close()
	wantItem(t, x, takeLine, "x", 4)
	wantBroken(t, y, api.ErrArg)
	wantState(t, x, 4, api.OK)
}

// 13.1: Close breaks a stream once, whatever it has.
func TestClose(t *testing.T) {
	for _, s := range []string{"", "SSH-2.0-", "ok\r\n", unit("ok"), unit("ok")[:5], "\xff", "\x00", longest + longest} {
		x := fed(s)
		x.Close()
		wantBroken(t, x, api.ErrArg)
		x.Close()
		wantBroken(t, x, api.ErrArg)
	}
}

// 13.1: what broke a stream stays, whether it is closed afterwards or not.
func TestCloseBroken(t *testing.T) {
	x := fed("\x00\x00\x00\x00")
	x.Unit()
	x.Close()
	wantBroken(t, x, api.ErrForm)
	x = fed("\xff")
	x.Line()
	x.Close()
	wantBroken(t, x, api.ErrLine)
}

// 13.2: lines, complete, and followed by further bytes, of which none is looked at.
func TestLine(t *testing.T) {
	for _, s := range []string{"", " ", "x", "SSH-2.0-x", "SSH-1.5-y z", "S", "SSH-", "hello, world", longest[1:], longest} {
		x := fed(s + "\r\n")
		wantItem(t, x, takeLine, s, 0)
		wantWait(t, x, takeLine, 0)
		for _, more := range []string{"\r", "\n", "\r\n", "y", "\xff", "\x00", longest, longest + "\r\n", sized(1000)} {
			x = fed(s+"\r\n", more)
			wantItem(t, x, takeLine, s, len(more))
		}
	}
}

// 13.2: lines that are not complete yet stay, and are completed.
func TestLineWaits(t *testing.T) {
	for _, s := range []string{"", " ", "x", "SSH-2.0-x", longest[1:], longest} {
		whole := s + "\r\n"
		for n := range len(whole) {
			x := fed(whole[:n])
			wantWait(t, x, takeLine, n)
			wantWait(t, x, takeLine, n)
			x.Feed(whole[n:])
			wantItem(t, x, takeLine, s, 0)
		}
	}
}

// 13.2: input with which no line begins.
func TestLineInvalid(t *testing.T) {
	for _, s := range []string{"\n", "\x00", "\x1f", "\x7f", "\x80", "\xff", "\t", "é", "\rx", "\r\r\n", "x\n", "x\rx", "x\x00\r\n", longest + "x", longest + "\n", longest + "\rx", longest + "\x00", longest + longest, sized(1000), unit("ok")} {
		for _, more := range []string{"", "\r\n", "ok\r\n", longest, sized(1000)} {
			wantBreak(t, fed(s+more), takeLine, api.ErrLine)
			wantBreak(t, fed(s, more), takeLine, api.ErrLine)
		}
		x := fed("ok\r\n" + s)
		wantItem(t, x, takeLine, "ok", len(s))
		wantBreak(t, x, takeLine, api.ErrLine)
	}
}

// 13.2: units, complete, and followed by further bytes, of which none is looked at.
func TestUnit(t *testing.T) {
	units := []string{unit("x"), unit("\x00"), unit("\xff\xff"), unit("ok\r\n"), unit(sized(255)), unit(sized(256)), unit(sized(70000)), unit(sized(api.MaxPacket - 1)), unit(sized(api.MaxPacket)), plain(t, "\x15"), plain(t, sized(api.MaxPayload))}
	for _, s := range units {
		x := fed(s)
		wantItem(t, x, takeUnit, s, 0)
		wantWait(t, x, takeUnit, 0)
		for _, more := range []string{"\x00", "\xff", "\x00\x00\x00\x00", "\r\n", s[:len(s)-1], s, sized(1000)} {
			x = fed(s, more)
			wantItem(t, x, takeUnit, s, len(more))
		}
	}
}

// 13.2: units that are not complete yet stay, and are completed.
func TestUnitWaits(t *testing.T) {
	for _, s := range []string{unit("x"), unit(sized(300)), plain(t, "\x15"), unit(sized(api.MaxPacket))} {
		for _, n := range []int{0, 1, 2, 3, 4, len(s) / 2, len(s) - 2, len(s) - 1} {
			x := fed(s[:n])
			wantWait(t, x, takeUnit, n)
			wantWait(t, x, takeUnit, n)
			x.Feed(s[n:])
			wantItem(t, x, takeUnit, s, 0)
		}
	}
	// What it may be, a length of more than MaxPacket among it, is known with the last of its bytes only.
	for _, s := range []string{"\x00", "\x00\xff", "\x00\xff\xff", "\x00\x00\x00", "\x00\x04\x00", "\x00\x04\x00\x00"} {
		wantWait(t, fed(s), takeUnit, len(s))
	}
}

// 13.2: input with which no unit begins.
func TestUnitInvalid(t *testing.T) {
	for s, err := range map[string]api.Errno{
		"\x00\x00\x00\x00": api.ErrForm,
		"\x00\x04\x00\x01": api.ErrLong,
		"\x00\xff\xff\xff": api.ErrLong,
		"\x00\x05\x00\x00": api.ErrLong,
		"\x01":             api.ErrLong,
		"\x80":             api.ErrLong,
		"\xff":             api.ErrLong,
		"\x01\x00\x00\x00": api.ErrLong,
		"SSH-2.0-x\r\n":    api.ErrLong,
		"\r\n":             api.ErrLong,
	} {
		for _, more := range []string{"", "\x00", unit("ok"), sized(1000), sized(api.MaxPacket)} {
			wantBreak(t, fed(s+more), takeUnit, err)
			wantBreak(t, fed(s, more), takeUnit, err)
		}
		x := fed(unit("ok") + s)
		wantItem(t, x, takeUnit, unit("ok"), len(s))
		wantBreak(t, x, takeUnit, err)
	}
}

// 13.2: what is asked for decides how the same input is taken.
func TestLineOrUnit(t *testing.T) {
	x := fed("\x00\x00\x00\x02\r\n")
	wantItem(t, x, takeUnit, "\x00\x00\x00\x02\r\n", 0)
	x.Feed("a\r\n" + unit("\r\n") + "b\r\n")
	wantItem(t, x, takeLine, "a", 9)
	wantItem(t, x, takeUnit, unit("\r\n"), 3)
	wantItem(t, x, takeLine, "b", 0)
	wantBreak(t, fed("\x00\x00\x00\x02\r\n"), takeLine, api.ErrLine)
	wantBreak(t, fed("ok\r\n"), takeUnit, api.ErrLong)
}

// talk is what comes, and what is consumed of it: lines, then units, then what breaks it, if anything does.
type talk struct {
	name  string
	input string
	lines []string
	units []string
	err   api.Errno
	left  int
}

// talks are talks of each end.
func talks(t *testing.T) []talk {
	one, two, big := plain(t, "one"), plain(t, sized(200)), unit(sized(3000))
	version := "hello\r\n\r\n" + longest + "\r\nSSH-2.0-x y\r\n"
	lines := []string{"hello", "", longest, "SSH-2.0-x y"}
	return []talk{
		{"all", version + one + two + big + one, lines, []string{one, two, big, one}, api.OK, 0},
		{"part of a unit", version + one + two + big[:2000], lines, []string{one, two}, api.OK, 2000},
		{"part of a length", version + one + big[:3], lines, []string{one}, api.OK, 3},
		{"part of a line", version[:20], lines[:2], nil, api.OK, 11},
		{"part of a terminator", version[:len(version)-1], lines[:3], nil, api.OK, 12},
		{"no line", version[:9] + "a\nb\r\n" + one, lines[:2], nil, api.ErrLine, 0},
		{"a long line", version[:9] + longest + "x\r\n" + one, lines[:2], nil, api.ErrLine, 0},
		{"a return alone", version[:9] + longest + "\rx" + one, lines[:2], nil, api.ErrLine, 0},
		{"an empty unit", version + one + "\x00\x00\x00\x00" + two, lines, []string{one}, api.ErrForm, 0},
		{"a long unit", version + one + "\x00\x04\x00\x01" + two, lines, []string{one}, api.ErrLong, 0},
		{"a far too long unit", version + one + "\x01\x00\x00\x00" + two, lines, []string{one}, api.ErrLong, 0},
		{"a line behind the last one", version + "more\r\n" + two, lines, nil, api.ErrLong, 0},
		{"nothing", "", nil, nil, api.OK, 0},
	}
}

// pieces splits s into pieces of the sizes, one after the other, over and over again.
func pieces(s string, sizes ...int) []string {
	var l []string
	for i := 0; s != ""; i++ {
		n := min(sizes[i%len(sizes)], len(s))
		l = append(l, s[:n])
		s = s[n:]
	}
	return l
}

// consumer takes four lines, and units afterwards.
type consumer struct {
	lines []string
	units []string
}

// drain consumes what can be consumed, and tells whether the stream is whole.
func (c *consumer) drain(x *stream.Stream) api.Errno {
	for {
		take, l := takeLine, &c.lines
		if len(c.lines) == 4 {
			take, l = takeUnit, &c.units
		}
		s, is, e := take(x)
		if !is {
			return e
		}
		*l = append(*l, s)
	}
}

// wantTalk checks a talk whose input comes in pieces. Whether what has come is consumed after each
// piece or at the end only must make no difference.
func wantTalk(t *testing.T, k talk, l []string, always bool) {
	t.Helper()
	x := stream.New()
	var c consumer
	for _, s := range l {
		x.Feed(s)
		if always {
			c.drain(x)
		}
	}
	if e := c.drain(x); e != k.err || !slices.Equal(c.lines, k.lines) || !slices.Equal(c.units, k.units) {
		t.Errorf("%s, %d pieces: %q, %d units, %v", k.name, len(l), c.lines, len(c.units), e)
	}
	wantState(t, x, k.left, k.err)
	if k.err != api.OK {
		wantBroken(t, x, k.err)
	}
}

// 13.3: a byte at a time, all at once, and pieces of several sizes, equal and different ones.
func TestPieces(t *testing.T) {
	for _, k := range talks(t) {
		for _, sizes := range [][]int{{1}, {2}, {3}, {4}, {5}, {7}, {8}, {13}, {64}, {255}, {256}, {1000}, {1 << 20}, {1, 2, 3}, {3, 1, 200}, {1000, 1}, {5, 4, 3, 2, 1}} {
			l := pieces(k.input, sizes...)
			wantTalk(t, k, l, true)
			wantTalk(t, k, l, false)
			wantTalk(t, k, slices.Concat([]string{""}, l, []string{"", ""}), true)
		}
	}
}

// 13.3: two pieces, split at each place.
func TestTwoPieces(t *testing.T) {
	for _, k := range talks(t) {
		for n := range len(k.input) + 1 {
			wantTalk(t, k, []string{k.input[:n], k.input[n:]}, true)
		}
	}
}

// 13.3: the longest unit, a byte at a time, each of which is followed by a question.
func TestLongestUnit(t *testing.T) {
	s := unit(sized(api.MaxPacket))
	x := stream.New()
	for i := range len(s) - 1 {
		x.Feed(s[i : i+1])
		if got, is, e := x.Unit(); got != "" || is || e != api.OK {
			t.Fatalf("%d bytes: %q, %v, %v", i+1, head(got), is, e)
		}
	}
	wantState(t, x, len(s)-1, api.OK)
	x.Feed(s[len(s)-1:])
	wantItem(t, x, takeUnit, s, 0)
}

// 13.3: what was consumed does not change by what comes afterwards.
func TestConsumedStays(t *testing.T) {
	x := stream.New()
	var got, want []string
	for i := range 500 {
		body := sized(i%97 + 1)
		x.Feed(unit(body) + "\x00\x00")
		s, _, _ := x.Unit()
		got, want = append(got, s), append(want, unit(body))
		x.Feed("\x00\x01z")
		wantItem(t, x, takeUnit, unit("z"), 0)
	}
	if !slices.Equal(got, want) {
		t.Errorf("units changed")
	}
}

// 13.1, 13.2: no stream at all.
func TestNil(t *testing.T) {
	var x *stream.Stream
	for range 2 {
		wantState(t, x, 0, api.ErrArg)
		for _, take := range takers {
			if s, is, e := take(x); s != "" || is || e != api.ErrArg {
				t.Errorf("%q, %v, %v", s, is, e)
			}
		}
		x.Feed("ok\r\n")
		x.Close()
	}
}
