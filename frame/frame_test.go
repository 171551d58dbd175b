package frame_test

import (
	"math"
	"strings"
	"testing"

	"shibboleth/api"
	"shibboleth/code"
	"shibboleth/frame"
)

// shortest is the length of the shortest padding by the payload's number of bytes, modulo 8.
var shortest = [8]int{11, 10, 9, 8, 7, 6, 5, 4}

// sized returns n bytes, of which none equals its neighbours.
func sized(n int) string {
	b := make([]byte, n)
	for i := range b {
		b[i] = byte(i*7 + i>>8 + 1)
	}
	return string(b)
}

func zeros(n int) string {
	return strings.Repeat("\x00", n)
}

// unit is a unit as the chapter defines it, whatever its length.
func unit(body string) string {
	return code.U32(uint32(len(body))) + body
}

// plain is a unit that tells to have that padding.
func plain(payload, padding string) string {
	return unit(string([]byte{byte(len(padding))}) + payload + padding)
}

// wantPack checks what Pack answers.
func wantPack(t *testing.T, payload, want string, err api.Errno) {
	t.Helper()
	if got, e := frame.Pack(payload); got != want || e != err {
		t.Errorf("Pack of %d bytes: %q, %v", len(payload), head(got), e)
	}
}

// wantUnit checks what Unit answers.
func wantUnit(t *testing.T, body, want string, err api.Errno) {
	t.Helper()
	if got, e := frame.Unit(body); got != want || e != err {
		t.Errorf("Unit of %d bytes: %q, %v", len(body), head(got), e)
	}
}

// wantNeed checks what Need answers.
func wantNeed(t *testing.T, buf string, want int, err api.Errno) {
	t.Helper()
	if got, e := frame.Need(buf); got != want || e != err {
		t.Errorf("Need(%q), %d bytes: %d, %v, not %d, %v", head(buf), len(buf), got, e, want, err)
	}
}

// wantBody checks what Body answers.
func wantBody(t *testing.T, s, want string, err api.Errno) {
	t.Helper()
	if got, e := frame.Body(s); got != want || e != err {
		t.Errorf("Body(%q), %d bytes: %q, %v, not %v", head(s), len(s), head(got), e, err)
	}
}

// wantUnpack checks what Unpack answers.
func wantUnpack(t *testing.T, s, want string, err api.Errno) {
	t.Helper()
	if got, e := frame.Unpack(s); got != want || e != err {
		t.Errorf("Unpack(%q), %d bytes: %q, %v, not %v", head(s), len(s), head(got), e, err)
	}
}

// wantNothing checks that neither a body nor a payload is told of s.
func wantNothing(t *testing.T, s string, err api.Errno) {
	t.Helper()
	wantBody(t, s, "", err)
	wantUnpack(t, s, "", err)
}

func head(s string) string {
	return s[:min(len(s), 30)]
}

// 11.1: the chapter's example.
func TestExample(t *testing.T) {
	wantPack(t, "\x15", "\x00\x00\x00\x0c\x0a\x15"+zeros(10), api.OK)
}

// 11.1, 11.4: payloads of each length modulo 8, the longest ones among them.
func TestPack(t *testing.T) {
	var sizes []int
	for i := range 64 {
		sizes = append(sizes, 1+i, 200+i, 32000+i, api.MaxPayload-i)
	}
	for _, n := range sizes {
		for _, s := range []string{sized(n), zeros(n), strings.Repeat("\xff", n)} {
			want := plain(s, zeros(shortest[n%8]))
			if len(want)%8 != 0 {
				t.Fatalf("%d bytes", len(want))
			}
			wantPack(t, s, want, api.OK)
			wantUnpack(t, want, s, api.OK)
			wantNeed(t, want, len(want), api.OK)
		}
	}
}

// 11.1: payloads that are not packed.
func TestPackErrors(t *testing.T) {
	wantPack(t, "", "", api.ErrShort)
	for _, n := range []int{api.MaxPayload + 1, api.MaxPayload + 8, api.MaxPacket, api.MaxPacket + 1, 1 << 20} {
		wantPack(t, sized(n), "", api.ErrLong)
	}
}

// 11.1, 11.2: bodies of any length up to the longest one.
func TestUnit(t *testing.T) {
	for _, n := range []int{1, 2, 3, 4, 5, 7, 8, 12, 255, 256, 257, 65535, 65536, api.MaxPayload + 1, api.MaxPacket - 1, api.MaxPacket} {
		for _, body := range []string{sized(n), zeros(n), strings.Repeat("\xff", n)} {
			wantUnit(t, body, unit(body), api.OK)
			wantBody(t, unit(body), body, api.OK)
			wantNeed(t, unit(body), 4+n, api.OK)
		}
	}
	if s, _ := frame.Unit("ab"); s != "\x00\x00\x00\x02ab" {
		t.Errorf("Unit: %q", s)
	}
}

// 11.1: bodies of which there is no unit.
func TestUnitErrors(t *testing.T) {
	wantUnit(t, "", "", api.ErrShort)
	for _, n := range []int{api.MaxPacket + 1, api.MaxPacket + 4, 1 << 20} {
		wantUnit(t, sized(n), "", api.ErrLong)
	}
}

// 11.2: the length counts, whatever follows it, or is still to come.
func TestNeed(t *testing.T) {
	for _, n := range []int{1, 2, 12, 127, 128, 255, 256, 65535, 65536, 1<<17 + 3, api.MaxPacket - 1, api.MaxPacket} {
		for _, rest := range []string{"", "\x00", "\xff", "rest", sized(n), sized(n + 1)} {
			wantNeed(t, code.U32(uint32(n))+rest, 4+n, api.OK)
		}
	}
	for _, rest := range []string{"", "\x00", "x", sized(100)} {
		wantNeed(t, zeros(4)+rest, 0, api.ErrForm)
	}
	for _, n := range []uint32{api.MaxPacket + 1, api.MaxPacket + 256, 1<<24 - 1, 1 << 24, math.MaxInt32, 1 << 31, math.MaxUint32} {
		for _, rest := range []string{"", "\x00", "rest"} {
			wantNeed(t, code.U32(n)+rest, 0, api.ErrLong)
		}
	}
}

// 11.2: fewer than four bytes: of these the first one alone tells that the length is too great.
func TestNeedOfShort(t *testing.T) {
	for _, s := range []string{"", "\x00", "\x00\x00", "\x00\x01", "\x00\x04", "\x00\x05", "\x00\xff", "\x00\x00\x00", "\x00\x04\x00", "\x00\x04\x01", "\x00\xff\xff"} {
		wantNeed(t, s, 0, api.ErrShort)
		wantNothing(t, s, api.ErrShort)
	}
	for b := 1; b < 256; b++ {
		first := string([]byte{byte(b)})
		for _, rest := range []string{"", "\x00", "\x00\x00", "\x00\x00\x00", "\x00\x00\x01", "\xff\xff\xff", sized(20)} {
			wantNeed(t, first+rest, 0, api.ErrLong)
			wantNothing(t, first+rest, api.ErrLong)
		}
	}
}

// 11.2, 11.3: units cut at each place, and units with bytes behind them.
func TestCut(t *testing.T) {
	packed, _ := frame.Pack("payload")
	for _, s := range []string{packed, plain("payload!", zeros(64-13)), unit("a"), unit("abc"), unit(sized(300)), unit(zeros(12))} {
		for i := range len(s) {
			wantNothing(t, s[:i], api.ErrShort)
		}
		for _, rest := range []string{"\x00", "x", zeros(8), s, s[:3], sized(1000)} {
			wantNothing(t, s+rest, api.ErrForm)
		}
	}
}

// 11.2, 11.3: Need's error counts more than what is missing, or too much.
func TestBodyOrder(t *testing.T) {
	for _, rest := range []string{"", "x", zeros(12), sized(api.MaxPacket + 1)} {
		wantNothing(t, zeros(4)+rest, api.ErrForm)
		wantNothing(t, code.U32(api.MaxPacket+1)+rest, api.ErrLong)
		wantNothing(t, "\x01"+rest, api.ErrLong)
	}
	long := sized(api.MaxPacket)
	wantNothing(t, unit(long)[:api.MaxPacket+3], api.ErrShort)
	wantNothing(t, unit(long)+"x", api.ErrForm)
}

// 11.3: each byte as the padding's length, in bodies of many lengths.
func TestUnpackOfEachPadding(t *testing.T) {
	taken := map[int]bool{}
	for n := 1; n <= 150; n++ {
		for pad := range 256 {
			body := string([]byte{byte(pad)}) + sized(n-1)
			size := n - 1 - pad
			if (4+n)%8 != 0 || pad < 4 || pad > 64 || size < 1 {
				wantUnpack(t, unit(body), "", api.ErrForm)
				continue
			}
			taken[pad] = true
			wantUnpack(t, unit(body), body[1:1+size], api.OK)
		}
	}
	for pad := range 256 {
		if taken[pad] != (pad >= 4 && pad <= 64) {
			t.Errorf("padding of %d bytes: %v", pad, taken[pad])
		}
	}
}

// 11.3: padding of 3, 4, MaxPad and more bytes, each in a unit of which all else is right.
func TestUnpackLimits(t *testing.T) {
	for _, c := range []struct {
		pad int
		err api.Errno
	}{{0, api.ErrForm}, {3, api.ErrForm}, {4, api.OK}, {5, api.OK}, {api.MaxPad - 1, api.OK}, {api.MaxPad, api.OK}, {api.MaxPad + 1, api.ErrForm}, {255, api.ErrForm}} {
		for n := 1; n <= 16; n++ {
			s, want, err := sized(n), "", api.ErrForm
			if (5+n+c.pad)%8 == 0 && c.err == api.OK {
				want, err = s, api.OK
			}
			for _, fill := range []string{"\x00", "\x01", "\xff"} {
				wantUnpack(t, plain(s, strings.Repeat(fill, c.pad)), want, err)
			}
		}
	}
}

// 11.3: whatever the padding's bytes are, they do not count.
func TestUnpackIgnoresPadding(t *testing.T) {
	for b := range 256 {
		fill := string([]byte{byte(b)})
		wantUnpack(t, plain("\x15", strings.Repeat(fill, 10)), "\x15", api.OK)
		wantUnpack(t, plain("\x15", zeros(9)+fill), "\x15", api.OK)
		wantUnpack(t, plain("\x15", fill+zeros(9)), "\x15", api.OK)
	}
}

// 11.3: units that are no plain packets: without a payload, or with padding that reaches beyond them.
func TestUnpackOfOthers(t *testing.T) {
	for _, s := range []string{
		plain("", zeros(11)), plain("", zeros(3)), plain("", zeros(59)),
		unit("\x04" + zeros(3)), unit("\x0b" + zeros(11)), unit("\x0c" + zeros(11)), unit("\x0d" + zeros(11)), unit("\xff" + zeros(11)),
		unit("\x04"), unit("\x00"), unit("\xff"), unit("\x00abc"), unit("\x00" + sized(11)),
	} {
		wantUnpack(t, s, "", api.ErrForm)
	}
	wantUnpack(t, unit("\x0a"+zeros(11)), "\x00", api.OK)
}

// 11.3: a payload of MaxPayload bytes, and one byte above, with padding of each length.
func TestUnpackOfLongPayloads(t *testing.T) {
	for pad := range 80 {
		for above := -9; above <= 9; above++ {
			s := sized(api.MaxPayload + above)
			packet := plain(s, zeros(pad))
			switch {
			case len(packet)%8 != 0 || pad < 4 || pad > 64:
				wantUnpack(t, packet, "", api.ErrForm)
			case above > 0:
				wantUnpack(t, packet, "", api.ErrLong)
			default:
				wantUnpack(t, packet, s, api.OK)
			}
		}
	}
}

// 11.3: packets of MaxPacket bytes, with the length and without it, and the longest unit.
func TestUnpackOfLongPackets(t *testing.T) {
	wantUnpack(t, unit("\x04"+zeros(api.MaxPacket-5)), "", api.ErrLong)
	wantUnpack(t, unit("\x03"+zeros(api.MaxPacket-5)), "", api.ErrForm)
	wantUnpack(t, unit("\x41"+zeros(api.MaxPacket-5)), "", api.ErrForm)
	wantUnpack(t, unit("\x04"+zeros(api.MaxPacket-1)), "", api.ErrForm)
	wantUnpack(t, unit("\x04"+zeros(api.MaxPacket+3)), "", api.ErrLong)
}

// FuzzPack checks that what is packed is unpacked again, and is the shortest packet that is.
func FuzzPack(f *testing.F) {
	for _, s := range []string{"", "\x15", "payload", "payload!", sized(100)} {
		f.Add(s)
	}
	f.Fuzz(func(t *testing.T, s string) {
		packed, e := frame.Pack(s)
		if (e == api.OK) != (len(s) >= 1 && len(s) <= api.MaxPayload) {
			t.Fatalf("Pack of %d bytes: %v", len(s), e)
		}
		if e == api.OK {
			wantUnpack(t, packed, s, api.OK)
			wantPack(t, s, plain(s, zeros(shortest[len(s)%8])), api.OK)
		}
	})
}

// FuzzUnpack checks that Need, Body and Unpack agree on any bytes.
func FuzzUnpack(f *testing.F) {
	for _, s := range []string{"", "\x00", "\x00\x00\x00\x00", unit("a"), plain("\x15", zeros(10)), plain("\x15", zeros(2))} {
		f.Add(s)
	}
	f.Fuzz(func(t *testing.T, s string) {
		need, eNeed := frame.Need(s)
		body, eBody := frame.Body(s)
		got, eUnpack := frame.Unpack(s)
		switch {
		case eNeed != api.OK:
			if need != 0 || eBody != eNeed || eUnpack != eNeed {
				t.Errorf("%q: %d, %v, %v, %v", s, need, eNeed, eBody, eUnpack)
			}
		case eBody != api.OK:
			if need == len(s) || eUnpack != eBody {
				t.Errorf("%q: %d, %v, %v", s, need, eBody, eUnpack)
			}
		case unit(body) != s || need != len(s):
			t.Errorf("%q: %d, %q", s, need, body)
		case eUnpack == api.OK && plain(got, s[5+len(got):]) != s:
			t.Errorf("%q: %q", s, got)
		}
		if eBody != api.OK && body != "" || eUnpack != api.OK && got != "" {
			t.Errorf("%q: %q, %q", s, body, got)
		}
	})
}
