package line_test

import (
	"strings"
	"testing"

	"shibboleth/api"
	"shibboleth/line"
)

const version = "SSH-2.0-"

// fill is the longest software.
var fill = strings.Repeat("x", api.MaxLine-len(version))

func plain(b byte) bool {
	return 32 <= b && b <= 126
}

// octet is the string of one byte.
func octet(b int) string {
	return string([]byte{byte(b)})
}

// made are versions, and what they are made of.
var made = []struct{ software, comment, line string }{
	{"x", "", "SSH-2.0-x"},
	{"x", "y", "SSH-2.0-x y"},
	{"Open_1", "a b", "SSH-2.0-Open_1 a b"},
	{"x", " ", "SSH-2.0-x  "},
	{"x", "   ", "SSH-2.0-x    "},
	{"x", " y", "SSH-2.0-x  y"},
	{"x", "y ", "SSH-2.0-x y "},
	{"x", "y  z", "SSH-2.0-x y  z"},
	{"SSH-2.0-x", "SSH-2.0-y", "SSH-2.0-SSH-2.0-x SSH-2.0-y"},
	{"-", "~", "SSH-2.0-- ~"},
	{"!~", "\"#", "SSH-2.0-!~ \"#"},
	{fill, "", version + fill},
	{fill[2:], "y", version + fill[2:] + " y"},
	{"x", fill[2:], version + "x " + fill[2:]},
	{"x", strings.Repeat(" ", len(fill)-2), version + "x" + strings.Repeat(" ", len(fill)-1)},
}

// neither are lines that are neither versions nor may stand ahead of one.
var neither = []string{
	"SSH-", "SSH-2.0", "SSH-2.0-", "SSH-1.99-x", "SSH-1.5-x", "SSH-2.1-x", "SSH-2.0_x", "SSH-2.0 x", "SSH-2,0-x", "SSH--2.0-x", "SSH-9", "SSH- ", "SSH-ssh", "SSH-2.0-\t", "SSH-2.0-x\t", "SSH-2.0-x\r", "SSH-2.0-x\n", "SSH-2.0-x\r\n",
	"SSH-2.0-x\x00", "SSH-2.0-\x80", "SSH-2.0-x \x7f", "SSH-2.0-é", "\n", "\r", "\r\n", "\x00", "\x7f", "a\x00", "a\r", "a\n", "a\nb", "a\r\nb", "\tSSH-", "\x00SSH-2.0-x", version + fill + "x", version + fill + " ", version + fill + fill,
}

// ahead are lines that may stand ahead of a version.
var ahead = []string{
	"", " ", "hello", "a b  c ", "S", "SS", "SSH", "SSH ", "SSH2.0-x", "SSHx", "ssh-2.0-x", "Ssh-", "sSH-", " SSH-2.0-x", "-SSH-2.0-x", "xSSH-", "x SSH-2.0-y", "2.0-x", "~", version[1:] + fill + "x", strings.Repeat(" ", api.MaxLine), strings.Repeat("~", api.MaxLine),
}

// wantLine checks what a line is.
func wantLine(t *testing.T, s string, right, may bool) {
	t.Helper()
	if line.Right(s) != right {
		t.Errorf("Right(%q): %v", s, !right)
	}
	if line.Ahead(s) != may {
		t.Errorf("Ahead(%q): %v", s, !may)
	}
	if software, comment, ok := line.Split(s); ok != right || !ok && (software != "" || comment != "") {
		t.Errorf("Split(%q): %q, %q, %v", s, software, comment, ok)
	}
}

// wantArg checks that nothing is made.
func wantArg(t *testing.T, software, comment string) {
	t.Helper()
	if s, e := line.Make(software, comment); s != "" || e != api.ErrArg {
		t.Errorf("Make(%q, %q): %q, %v", software, comment, s, e)
	}
}

// wantScan checks what bytes begin with.
func wantScan(t *testing.T, buf, want string, used int, e api.Errno) {
	t.Helper()
	if got, n, err := line.Scan(buf); got != want || n != used || err != e {
		t.Errorf("Scan(%q): %q, %d, %v, not %q, %d, %v", buf, got, n, err, want, used, e)
	}
}

// 10.1: what is made is a version, and is split into what it was made of (10.3).
func TestMade(t *testing.T) {
	for _, m := range made {
		if s, e := line.Make(m.software, m.comment); s != m.line || e != api.OK {
			t.Errorf("Make(%q, %q): %q, %v", m.software, m.comment, s, e)
		}
		if software, comment, ok := line.Split(m.line); software != m.software || comment != m.comment || !ok {
			t.Errorf("Split(%q): %q, %q, %v", m.line, software, comment, ok)
		}
		wantLine(t, m.line, true, false)
	}
}

// 10.1: versions that cannot be made: with a space that no comment is behind, or that no software is ahead of.
func TestVersionsNotMade(t *testing.T) {
	for s, want := range map[string][2]string{
		"SSH-2.0- ":              {"", ""},
		"SSH-2.0-  ":             {"", " "},
		"SSH-2.0- y":             {"", "y"},
		"SSH-2.0- y z":           {"", "y z"},
		"SSH-2.0-x ":             {"x", ""},
		version + fill[1:] + " ": {fill[1:], ""},
		"SSH-2.0- " + fill[1:]:   {"", fill[1:]},
	} {
		wantLine(t, s, true, false)
		if software, comment, ok := line.Split(s); software != want[0] || comment != want[1] || !ok {
			t.Errorf("Split(%q): %q, %q, %v", s, software, comment, ok)
		}
	}
}

// 10.1: lines ahead of a version, and lines that are neither.
func TestOtherLines(t *testing.T) {
	for _, s := range ahead {
		wantLine(t, s, false, true)
	}
	for _, s := range neither {
		wantLine(t, s, false, false)
	}
}

// 10.1: each beginning of a version's first bytes, and each of these bytes changed.
func TestVersionPrefix(t *testing.T) {
	for i := range version {
		wantLine(t, version[:i], false, i < len("SSH-"))
		for b := range 256 {
			s := version[:i] + octet(b) + version[i+1:] + "x"
			wantLine(t, s, byte(b) == version[i], plain(byte(b)) && byte(b) != version[i] && i < len("SSH-"))
		}
	}
}

// 10.1: each byte in each place of a line.
func TestEachByte(t *testing.T) {
	for b := range 256 {
		is, s := plain(byte(b)), octet(b)
		for _, text := range []string{s, s + "x", "x" + s, "x" + s + "y", "x y" + s, "x " + s + "y"} {
			wantLine(t, version+text, is, false)
		}
		for _, text := range []string{s, s + "hello", "hel" + s + "lo", "hello" + s} {
			wantLine(t, text, false, is)
		}
	}
}

// 10.1: each byte in a software and in a comment.
func TestMakeOfEachByte(t *testing.T) {
	for b := range 256 {
		s := octet(b)
		for _, text := range []string{s, s + "x", "x" + s, "x" + s + "y"} {
			if !plain(byte(b)) || b == ' ' {
				wantArg(t, text, "")
				wantArg(t, text, "c")
			} else if got, e := line.Make(text, ""); got != version+text || e != api.OK {
				t.Errorf("Make(%q): %q, %v", text, got, e)
			}
			if !plain(byte(b)) {
				wantArg(t, "x", text)
			} else if got, e := line.Make("x", text); got != version+"x "+text || e != api.OK {
				t.Errorf("Make of the comment %q: %q, %v", text, got, e)
			}
		}
	}
}

// 10.1: arguments of which no version can be made.
func TestMakeOfWrongArguments(t *testing.T) {
	for _, m := range [][2]string{
		{"", ""}, {"", "c"}, {"", " "}, {"", "\x00"}, {" ", ""}, {" x", ""}, {"x ", ""}, {"a b", "c"}, {"a\r", ""}, {"a\n", ""}, {"a", "\r\n"}, {"a\x00", "\x00"}, {"é", ""}, {"a", "é"},
		{fill + "x", ""}, {fill, "y"}, {fill, " "}, {fill[1:], "y"}, {fill[1:], " "}, {fill[2:], "yz"}, {"x", fill[1:]}, {"x", fill}, {fill + fill, fill}, {strings.Repeat("x", 1<<20), ""}, {"x", strings.Repeat(" ", 1<<20)},
	} {
		wantArg(t, m[0], m[1])
	}
}

// complete are lines that end, whatever they are.
func complete() []string {
	l := append([]string{"SSH-1.99-x", "SSH-", "SSH-2.0- ", strings.Repeat("SSH-", 20)}, ahead...)
	for _, m := range made {
		l = append(l, m.line)
	}
	return l
}

// 10.2: a complete line, and what follows it, which is not looked at.
func TestScan(t *testing.T) {
	for _, s := range complete() {
		for _, rest := range []string{"", "rest", "\r\n", "\n", "\r", "\x00", "\xff", s, s + "\r\n", strings.Repeat("y", 1000)} {
			wantScan(t, s+"\r\n"+rest, s, len(s)+2, api.OK)
		}
	}
}

// 10.2, 10.3: a line cut at each place, its end included.
func TestScanOfCutLines(t *testing.T) {
	for _, s := range complete() {
		for i := range len(s) + 2 {
			wantScan(t, (s + "\r\n")[:i], "", 0, api.ErrShort)
		}
	}
}

// 10.2: each byte behind the beginning of a line.
func TestScanOfEachByte(t *testing.T) {
	for _, s := range []string{"", "x", version, "SSH-2.0-x y", fill, version + fill[1:]} {
		for b := range 256 {
			switch {
			case plain(byte(b)) || b == '\r':
				wantScan(t, s+octet(b), "", 0, api.ErrShort)
			default:
				wantBad(t, s+octet(b))
			}
			if b != '\n' {
				wantBad(t, s+"\r"+octet(b))
			}
		}
	}
}

// wantBad checks that bytes begin with no line, and that they stay so whatever follows (10.3).
func wantBad(t *testing.T, s string) {
	t.Helper()
	for _, rest := range []string{"", "x", "\r", "\n", "\r\n", "\n\r\n", "x\r\n", "\x00", strings.Repeat("y", api.MaxLine)} {
		wantScan(t, s+rest, "", 0, api.ErrLine)
	}
}

// 10.2: a line that ends with one byte of the two, the same one twice, or both in the other order.
func TestScanOfOtherEnds(t *testing.T) {
	for _, s := range []string{"", "a", version + "x", version + fill} {
		for _, end := range []string{"\n", "\n\n", "\n\r", "\r\r", "\rx", "\r ", "\r\x00"} {
			wantBad(t, s+end)
		}
		wantScan(t, s+"\r", "", 0, api.ErrShort)
	}
}

// 10.2: a line of MaxLine bytes, and of one byte more.
func TestScanOfLongLines(t *testing.T) {
	for _, b := range []string{" ", "x", "~"} {
		long := strings.Repeat(b, api.MaxLine)
		wantScan(t, long[1:], "", 0, api.ErrShort)
		wantScan(t, long, "", 0, api.ErrShort)
		wantScan(t, long+"\r", "", 0, api.ErrShort)
		wantScan(t, long+"\r\n", long, api.MaxLine+2, api.OK)
		wantScan(t, long+"\r\n"+long+b, long, api.MaxLine+2, api.OK)
		for _, more := range []string{b, " ", "\n", "\x00", "\x7f", "\xff"} {
			wantBad(t, long+more)
		}
		wantScan(t, strings.Repeat(long, 1000), "", 0, api.ErrLine)
	}
}

// 10.2: what comes first counts: neither a line nor its end is looked for behind a wrong byte.
func TestScanStopsAtFirstFault(t *testing.T) {
	for _, s := range []string{"a\x00b\r\n", "\tSSH-2.0-x\r\n", "\nSSH-2.0-x\r\n", "a\rb\r\n", "\x80\r\n", "é\r\n"} {
		wantBad(t, s)
	}
}

// FuzzScan checks that the beginnings of a line are short, that what is bad stays so, and that a line is what is ahead of its end.
func FuzzScan(f *testing.F) {
	for _, s := range append(complete(), neither...) {
		f.Add(s+"\r\n", "rest")
		f.Add(s, "\n")
	}
	f.Fuzz(func(t *testing.T, s, rest string) {
		got, used, e := line.Scan(s)
		switch e {
		case api.OK:
			if used != len(got)+2 || s[:used] != got+"\r\n" || !line.Right(got) && !line.Ahead(got) && !strings.HasPrefix(got, "SSH-") {
				t.Errorf("Scan(%q): %q, %d", s, got, used)
			}
			wantScan(t, s+rest, got, used, api.OK)
			for i := range used {
				wantScan(t, s[:i], "", 0, api.ErrShort)
			}
		case api.ErrLine:
			wantScan(t, s, "", 0, api.ErrLine)
			wantScan(t, s+rest, "", 0, api.ErrLine)
		default:
			// Some end has to be left for it: the terminator, or what it lacks of it.
			wantScan(t, s, "", 0, api.ErrShort)
			whole := strings.TrimSuffix(s, "\r")
			wantScan(t, whole+"\r\n"+rest, whole, len(whole)+2, api.OK)
		}
	})
}

// FuzzMake checks that what is made is split into its parts again, and that only versions are.
func FuzzMake(f *testing.F) {
	for _, m := range made {
		f.Add(m.software, m.comment)
	}
	f.Add("", "")
	f.Add("a b", "c")
	f.Fuzz(func(t *testing.T, software, comment string) {
		s, e := line.Make(software, comment)
		if (e == api.OK) != line.Right(s) || e != api.OK && (s != "" || e != api.ErrArg) {
			t.Fatalf("Make(%q, %q): %q, %v", software, comment, s, e)
		}
		if a, b, ok := line.Split(s); e == api.OK && (a != software || b != comment || !ok) {
			t.Errorf("Split(%q): %q, %q, %v", s, a, b, ok)
		}
	})
}
