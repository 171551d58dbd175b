package peer_test

import (
	"slices"
	"strconv"
	"strings"
	"testing"

	"shibboleth/api"
	"shibboleth/conf"
	"shibboleth/frame"
	"shibboleth/order"
	"shibboleth/payload"
	"shibboleth/peer"
	"shibboleth/schema"
	"shibboleth/seal"
	"shibboleth/term"
)

// 29.2: lines that a server, and a client, accept, skip and refuse.
func TestLines(t *testing.T) {
	long := "SSH-2.0-" + strings.Repeat("x", api.MaxLine-8)
	ahead := strings.Repeat("y", api.MaxLine)
	const wrong, waits, taken = "peer: line: line", "waits", ""
	for _, c := range []struct{ in, server, client string }{
		{"", waits, waits},
		{"SSH-2.0-x", waits, waits},
		{"SSH-2.0-x\r", waits, waits},
		{"SSH-2.0-x\r\n", taken, taken},
		{"SSH-2.0-x y z\r\n", taken, taken},
		{long, waits, waits},
		{long + "\r\n", taken, taken},
		{long + "x", wrong, wrong},
		{ahead + "\r\n", wrong, waits},
		{ahead + "y", wrong, wrong},
		{"\r\n", wrong, waits},
		{"hello\r\n", wrong, waits},
		{"hello\r\nSSH-2.0-x\r\n", wrong, taken},
		{"hello\r\nSSH-2.0-x", wrong, waits},
		{"hello\r\nhello", wrong, waits},
		{"SSH\r\n", wrong, waits},
		{"ssh-2.0-x\r\n", wrong, waits},
		{"SSH-2.0-\r\n", wrong, wrong},
		{"SSH-1.5-x\r\n", wrong, wrong},
		{"SSH-1.99-x\r\n", wrong, wrong},
		{"SSH-\r\n", wrong, wrong},
		{"SSH-2.0-x\n", wrong, wrong},
		{"SSH-2.0-x\rx", wrong, wrong},
		{"SSH-2.0-x\x7f", wrong, wrong},
		{"SSH-2.0-\xc3\xa4", wrong, wrong},
		{"\x00", wrong, wrong},
		{"\xff", wrong, wrong},
		{strings.Repeat("\r\n", api.MaxPre) + "SSH-2.0-x\r\n", wrong, taken},
		{strings.Repeat("\r\n", api.MaxPre) + "SSH-2.0-", wrong, waits},
		{strings.Repeat("\r\n", api.MaxPre+1), wrong, wrong},
		{strings.Repeat("\r\n", api.MaxPre+1) + "SSH-2.0-x\r\n", wrong, wrong},
	} {
		for server, want := range map[bool]string{false: c.client, true: c.server} {
			what := strconv.Quote(c.in[:min(30, len(c.in))]) + strconv.FormatBool(server)
			for _, size := range []int{len(c.in), 1} {
				f := plain(t, server)
				for piece := range slices.Chunk([]byte(c.in), max(size, 1)) {
					f.feed(string(piece))
				}
				switch want {
				case waits:
					f.wantGoing(what, api.PhLine, 0)
				case taken:
					f.wantGoing(what, api.PhInit, 0)
				default:
					f.wantEnd(what, want)
				}
				f.wantCounts(what)
			}
		}
	}
}

// 29.2, 29.5: what a session does does not depend on how its input is split.
func TestPieces(t *testing.T) {
	for _, server := range []bool{false, true} {
		for _, last := range []string{"\x01", "\x02", "", letIn, "\x02\x00\x00\x00\x00", "\xc8"} {
			f := plain(t, server).to(api.PhOpen)
			f.authenticate()
			f.to(api.PhOpen)
			f.say("\x02\x00\x00\x00\x01x", "\xc0")
			if last != "" {
				f.say(last)
			} else {
				f.feed("\x00\x00\x00\x08\x04\x02\x00")
			}
			whole := strings.Join(f.pieces, "")
			for _, size := range []int{1, 2, 3, 7, 64, 1000, 4096, len(whole)} {
				f.replay(whole, size)
			}
		}
	}
}

// replay feeds to a session like the one that was tested all that this was fed, in pieces.
func (f *far) replay(whole string, size int) {
	f.t.Helper()
	p, err := peer.New(f.a, f.near, number)
	if err != nil {
		f.t.Fatalf("New: %v", err)
	}
	m := p.Start()
	for piece := range slices.Chunk([]byte(whole), size) {
		n := p.Feed(string(piece))
		m.Out, m.Events = append(m.Out, n.Out...), append(m.Events, n.Events...)
	}
	out, in := p.Numbers()
	wantOut, wantIn := f.p.Numbers()
	if out != wantOut || in != wantIn || p.Phase() != f.p.Phase() || p.Over() != f.p.Over() || p.Session() != f.p.Session() || p.In() != f.p.In() || !slices.Equal(p.Sent(), f.p.Sent()) || !slices.Equal(p.Got(), f.p.Got()) {
		f.t.Errorf("in pieces of %d: phase %d, not %d, %d and %d packets", size, p.Phase(), f.p.Phase(), out, in)
	}
	if !slices.Equal(m.Events, f.events) || len(m.Out) != len(f.lines)+len(f.heard) {
		f.t.Errorf("in pieces of %d: %d units, %+v, not %+v", size, len(m.Out), m.Events, f.events)
	}
	text := ""
	if f.p.Err() != nil {
		text = f.p.Err().Error()
	}
	wantText(f.t, "in pieces", p.Err(), text)
}

// 29.2: what is no unit, and no plain packet.
func TestPlainPackets(t *testing.T) {
	pack := func(s string) string {
		u, _ := frame.Pack(s)
		return u
	}
	body := func(s string) string {
		u, _ := frame.Unit(s)
		return u
	}
	zeros := func(n int) string { return strings.Repeat("\x00", n) }
	for _, c := range []struct{ name, in, text string }{
		{"a length of 0", zeros(4), "peer: unit: form"},
		{"a first byte", "\x01", "peer: unit: long"},
		{"the byte 255", "\xff", "peer: unit: long"},
		{"a length that is one too great", "\x00\x04\x00\x01", "peer: unit: long"},
		{"the greatest length", "\x00\x04\x00\x00", ""},
		{"no whole unit", "\x00\x00\x00\x0c\x0a\x14" + zeros(9), ""},
		{"the longest unit", body("\x04" + zeros(api.MaxPacket-1)), "peer: packet: form"},
		{"the longest payload", pack("\x02" + zeros(api.MaxPayload-1)), "peer: order: order"},
		{"a longer payload", body("\x06\x02" + zeros(api.MaxPayload) + zeros(6)), "peer: packet: form"},
		{"a longer payload, well padded", body("\x0a\x02" + zeros(api.MaxPayload) + zeros(10)), "peer: packet: long"},
		{"an empty payload", body("\x0b" + zeros(11)), "peer: packet: form"},
		{"three bytes of padding", body("\x03\x14" + zeros(10)), "peer: packet: form"},
		{"more padding than there may be", body("\x41\x14" + zeros(66)), "peer: packet: form"},
		{"more padding than there is", body("\x0c\x14" + zeros(10)), "peer: packet: form"},
		{"not a multiple of eight", body("\x0a\x14" + zeros(11)), "peer: packet: form"},
		{"other padding", body("\x12\x15" + strings.Repeat("x", 18)), "peer: order: order"},
	} {
		for _, server := range []bool{false, true} {
			f := plain(t, server).to(api.PhInit)
			f.feed(c.in)
			if c.text == "" {
				f.wantGoing(c.name, api.PhInit, 0)
				continue
			}
			if c.text == "peer: order: order" {
				f.out.n++
			}
			f.wantEnd(c.name, c.text)
			f.wantCounts(c.name)
		}
	}
}

// 29.2: what is sealed ahead of the other side's message 21 is no packet, and what is plain behind it.
func TestSealedPackets(t *testing.T) {
	for _, server := range []bool{false, true} {
		const nothing = "\x02\x00\x00\x00\x00"
		f := plain(t, server).to(api.PhNew)
		u, _ := seal.Pack(f.a, f.keys()[1], f.out.n, newkeys)
		f.feed(u)
		f.wantEnd("sealed ahead of message 21", "peer: packet: form")
		f.wantCounts("sealed ahead of message 21")

		for name, c := range map[string]struct {
			unit func(f *far) string
			text string
		}{
			"plain":                      {func(f *far) string { u, _ := frame.Pack(nothing); return u }, "peer: packet: seal"},
			"the other direction's key":  {func(f *far) string { return f.sealUnit(f.in.key, f.out.n, nothing) }, "peer: packet: seal"},
			"a number again":             {func(f *far) string { return f.sealUnit(f.out.key, f.out.n-1, nothing) }, "peer: packet: seal"},
			"a number too great":         {func(f *far) string { return f.sealUnit(f.out.key, f.out.n+1, nothing) }, "peer: packet: seal"},
			"the number 0":               {func(f *far) string { return f.sealUnit(f.out.key, 0, nothing) }, "peer: packet: seal"},
			"no term":                    {func(f *far) string { u, _ := frame.Unit("x"); return u }, "peer: packet: seal"},
			"the key itself":             {func(f *far) string { u, _ := seal.Unit(f.a, f.out.key); return u }, "peer: packet: seal"},
			"sealed, and more":           {func(f *far) string { u, _ := frame.Unit(f.sealUnit(f.out.key, f.out.n, nothing)[4:] + "x"); return u }, "peer: packet: seal"},
			"no payload":                 {func(f *far) string { u, _ := seal.Unit(f.a, f.a.Seal(f.out.key, f.out.n, f.out.key)); return u }, "peer: packet: form"},
			"an empty payload":           {func(f *far) string { u, _ := seal.Unit(f.a, f.a.Seal(f.out.key, f.out.n, f.a.Data(""))); return u }, "peer: packet: form"},
			"too long to be data":        {func(f *far) string { u, _ := frame.Unit(strings.Repeat("x", api.MaxPacket)); return u }, "peer: packet: long"},
			"too long":                   {func(f *far) string { return "\x00\x04\x00\x01" }, "peer: unit: long"},
			"without bytes":              {func(f *far) string { return "\x00\x00\x00\x00" }, "peer: unit: form"},
			"right":                      {func(f *far) string { return f.unit(nothing) }, ""},
			"right, without a whole one": {func(f *far) string { return f.sealUnit(f.out.key, f.out.n, nothing)[:20] }, ""},
		} {
			for _, over := range []int{1, 2} {
				f := plain(t, server)
				for range over {
					f.to(api.PhOpen)
				}
				what := name + " " + strconv.Itoa(over)
				f.feed(c.unit(f))
				if c.text == "" {
					f.wantGoing(what, api.PhOpen, over)
					continue
				}
				f.wantEnd(what, c.text)
				f.wantCounts(what)
			}
		}
	}
}

// sealUnit returns a unit that is sealed in any way.
func (f *far) sealUnit(key api.ID, n uint32, s string) string {
	f.t.Helper()
	u, e := seal.Pack(f.a, key, n, s)
	if e != api.OK {
		f.t.Fatalf("seal: %v", e)
	}
	return u
}

// 29.2: until the other side's message 21 of a later exchange its packets are sealed with the key of
// the one before, and from then on with the new one.
func TestKeysOfLaterExchanges(t *testing.T) {
	for _, server := range []bool{false, true} {
		for _, early := range []bool{false, true} {
			f := plain(t, server).to(api.PhOpen).to(api.PhNew)
			old, next := f.out.key, f.keys()[1]
			if old == next {
				t.Fatalf("no new key")
			}
			if early {
				f.feed(f.sealUnit(next, f.out.n, newkeys))
			} else {
				f.renew()
				f.wantGoing("renewed", api.PhOpen, 2)
				f.feed(f.sealUnit(old, f.out.n, "\x02\x00\x00\x00\x00"))
			}
			f.wantEnd("the other exchange's key", "peer: packet: seal")
		}
	}
}

// inPhase brings a new session to a phase of its first exchange, or of its third one.
func inPhase(t *testing.T, server bool, phase int, first bool) *far {
	f := plain(t, server)
	if !first {
		f.to(api.PhOpen).to(api.PhOpen)
	}
	if phase != api.PhOpen || first {
		f.to(phase)
	}
	return f
}

// 29.2, 29.5: each number in each phase of the first exchange and of later ones, and what the
// verdict on it brings about.
func TestVerdicts(t *testing.T) {
	for _, server := range []bool{false, true} {
		for _, first := range []bool{false, true} {
			for _, phase := range []int{api.PhInit, api.PhKex, api.PhNew, api.PhOpen} {
				if phase == api.PhInit && !first {
					continue
				}
				for num := range 256 {
					f := inPhase(t, server, phase, first)
					over := f.p.Over()
					what := strconv.Itoa(num) + " in " + order.Phase(phase) + " " + strconv.Itoa(over) + " " + strconv.FormatBool(server)
					f.judge(what, num, order.Judge(phase, over == 0, server, num), phase, over)
				}
			}
		}
	}
}

// judge checks what comes of a message that is nothing but its number.
func (f *far) judge(what string, num, verdict, phase, over int) {
	f.t.Helper()
	n := f.out.n
	got := f.say(string([]byte{byte(num)}))
	empty := schema.Word(num) + ": 0: short"
	switch verdict {
	case api.VdWrong:
		f.wantEnd(what, "peer: order: order")
	case api.VdClose:
		f.wantHeard(what, got)
		f.wantEnd(what, "")
	case api.VdStrange:
		f.wantHeard(what, got, strange(n))
		f.wantGoing(what, phase, over)
	case api.VdPass:
		f.wantEnd(what, "peer: "+empty)
	case api.VdTake:
		f.judgeTaken(what, num, over, empty)
	}
	f.wantCounts(what)
}

func (f *far) judgeTaken(what string, num, over int, empty string) {
	f.t.Helper()
	layer := "authc: "
	if f.near.Server {
		layer = "auths: "
	}
	switch {
	case num == 20:
		f.wantEnd(what, "peer: kex: kexinit: "+empty)
	case num == 21:
		f.session = f.p.Session()
		f.wantGoing(what, api.PhOpen, over+1)
	case schema.Class(num) == 3 && !schema.Known(num):
		f.wantEnd(what, "peer: kex: message: none")
	case schema.Class(num) == 3:
		f.wantEnd(what, "peer: kex: "+empty)
	case num == 52:
		f.wantEnd(what, "peer: authc: order")
	default:
		f.wantEnd(what, "peer: "+layer+empty)
	}
}

// 29.2: messages 2, 3 and 4, which say nothing: never in the first exchange, and otherwise always;
// a malformed one ends the session.
func TestIgnored(t *testing.T) {
	forms := func(t *testing.T) map[string]string {
		return map[string]string{
			message(t, 2, text("")):                      "",
			message(t, 2, text("x")):                     "",
			message(t, 3, u32(7)):                        "",
			message(t, 4, flag(1), text("a"), text("b")): "",
			"\x02":                     "peer: ignore: 0: short",
			"\x02\x00\x00\x00\x02x":    "peer: ignore: 0: short",
			"\x02\x00\x00\x00\x00x":    "peer: ignore: end: form",
			"\x03\x00":                 "peer: unimplemented: 0: short",
			"\x04\x02":                 "peer: debug: 0: form",
			"\x04\x01\x00\x00\x00\x00": "peer: debug: 2: short",
		}
	}
	for _, server := range []bool{false, true} {
		for _, phase := range []int{api.PhInit, api.PhKex, api.PhNew, api.PhOpen} {
			for _, first := range []bool{false, true} {
				for s, wrong := range forms(t) {
					if phase == api.PhInit && !first {
						continue
					}
					f := inPhase(t, server, phase, first)
					over := f.p.Over()
					what := strconv.Quote(s) + " in " + order.Phase(phase)
					got := f.say(s)
					switch {
					case first && phase != api.PhOpen:
						f.wantEnd(what, "peer: order: order")
					case wrong != "":
						f.wantEnd(what, wrong)
					default:
						f.wantHeard(what, got)
						f.wantGoing(what, phase, over)
						f.to(api.PhOpen).wantGoing(what, api.PhOpen, f.over)
					}
				}
			}
		}
	}
}

// 29.2: a server passes over message 7, a client takes it, and neither does within an exchange.
func TestExtInfo(t *testing.T) {
	for _, server := range []bool{false, true} {
		f := plain(t, server).to(api.PhOpen)
		told := message(t, 7, api.Field{Kind: 'e', L: []string{"server-sig-algs", "other"}})
		f.wantHeard("message 7", f.say(told))
		f.wantGoing("message 7", api.PhOpen, 1)
		if server {
			f.wantHeard("message 5", f.say(wanted(t)), granted(t))
			f.say("\x07")
			f.wantEnd("a malformed message 7", "peer: ext-info: 0: short")
			continue
		}
		f.say(granted(t))
		f.wantEnd("no algorithm is left", "peer: authc: ways: auth")
	}
}

// 29.2: message 1 closes the session at any time, also a malformed one.
func TestClose(t *testing.T) {
	for _, server := range []bool{false, true} {
		for _, first := range []bool{false, true} {
			for _, phase := range []int{api.PhInit, api.PhKex, api.PhNew, api.PhOpen} {
				if phase == api.PhInit && !first {
					continue
				}
				for _, s := range []string{"\x01", message(t, 1, u32(11), text("bye"), text(""))} {
					f := inPhase(t, server, phase, first)
					// What follows in the same piece is not consumed.
					one, two := f.unit(s), f.unit("\xc8")
					f.out.n--
					if f.out.key != api.None {
						f.opened = f.opened[:len(f.opened)-1]
					}
					f.wantHeard("closed", f.feed(one+two+"\xff"))
					f.wantEnd("closed", "")
					f.wantCounts("closed")
				}
			}
		}
	}
}

// 29.2: messages of authentication within an exchange and ahead of the first one's end.
func TestAuthenticationOutOfOrder(t *testing.T) {
	for _, server := range []bool{false, true} {
		for _, first := range []bool{false, true} {
			for _, phase := range []int{api.PhInit, api.PhKex, api.PhNew} {
				if phase == api.PhInit && !first {
					continue
				}
				for _, num := range []int{5, 6, 7, 50, 51, 52, 53, 60} {
					f := inPhase(t, server, phase, first)
					s := map[int]string{5: wanted(t), 6: granted(t), 7: message(t, 7, api.Field{Kind: 'e'}), 50: f.query(8), 51: refused(t), 52: letIn, 53: message(t, 53, text(""), text("")), 60: f.invited(8)}[num]
					f.say(s)
					f.wantEnd(strconv.Itoa(num)+" in "+order.Phase(phase), "peer: order: order")
				}
			}
		}
	}
}

// 29.2: the number of message 3 is that of the packet, also when several come at once.
func TestStrange(t *testing.T) {
	for _, server := range []bool{false, true} {
		f := plain(t, server).to(api.PhOpen)
		n := f.out.n
		s := f.unit("\xc8") + f.unit("\x02\x00\x00\x00\x00") + f.unit("\x00") + f.unit("\x08x")
		f.wantHeard("strange ones", f.feed(s), strange(n), strange(n+2), strange(n+3))
		f.wantGoing("strange ones", api.PhOpen, 1)
	}
}

// 29.2: a payload whose term is data is opened like any other, and a long one, too.
func TestLongSealed(t *testing.T) {
	for _, server := range []bool{false, true} {
		f := plain(t, server).to(api.PhOpen)
		n := f.out.n
		f.wantHeard("long ones", f.say("\xc8"+strings.Repeat("x", api.MaxPayload-1), "\x02\x00\x00\x7f\xfb"+strings.Repeat("x", api.MaxPayload-5)), strange(n))
		f.wantGoing("long ones", api.PhOpen, 1)
		long := payload.Term(f.a, "\x02"+strings.Repeat("x", api.MaxPayload))
		u, e := seal.Unit(f.a, f.a.Seal(f.out.key, f.out.n, long))
		if e != api.OK {
			t.Fatalf("Unit: %v", e)
		}
		f.feed(u)
		f.wantEnd("too long", "peer: packet: form")
	}
}

// R5: sessions in one arena do not affect one another.
func TestTwoSessions(t *testing.T) {
	a := term.New()
	f := meet(t, a, conf.Plain(true, host), conf.Plain(false, host))
	g := meet(t, a, conf.Plain(true, host), conf.Plain(false, host))
	f.hear(f.p.Start())
	g.hear(g.p.Start())
	f.to(api.PhOpen)
	g.to(api.PhKex)
	f.say("\x05")
	f.wantEnd("one", "peer: auths: service-request: 0: short")
	g.to(api.PhOpen)
	g.authenticate()
	g.wantGoing("the other", api.PhOpen, 1)
}
