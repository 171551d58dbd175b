package names_test

import (
	"slices"
	"strconv"
	"strings"
	"testing"

	"shibboleth/api"
	"shibboleth/names"
)

// many returns n names.
func many(n int) []string {
	var l []string
	for i := range n {
		l = append(l, "n"+strconv.Itoa(i))
	}
	return l
}

func TestRight(t *testing.T) {
	for name, want := range map[string]bool{
		"":                                 false,
		"a":                                true,
		"!":                                true,
		"~":                                true,
		"+-":                               true,
		",":                                false,
		" ":                                false,
		"a,b":                              false,
		"a b":                              false,
		"a ":                               false,
		" a":                               false,
		"a\n":                              false,
		"a\x7f":                            false,
		"a\x00":                            false,
		"é":                                false,
		"curve25519-sha256@libssh.org":     true,
		strings.Repeat("x", api.MaxText):   true,
		strings.Repeat("x", api.MaxText+1): false,
		strings.Repeat(",", api.MaxText):   false,
	} {
		if got := names.Right(name); got != want {
			t.Errorf("Right(%q) = %v", name, got)
		}
	}
}

func TestRightOfEachByte(t *testing.T) {
	for b := range 256 {
		want := b >= 33 && b <= 126 && b != ','
		for _, name := range []string{"", "a", "ab"} {
			if got := names.Right(name + string([]byte{byte(b)})); got != want {
				t.Errorf("Right with the byte %d at %d: %v", b, len(name), got)
			}
		}
	}
}

func TestSplit(t *testing.T) {
	for s, want := range map[string][]string{
		"":                                nil,
		"a":                               {"a"},
		"a,b":                             {"a", "b"},
		"b,a,b":                           {"b", "a", "b"},
		"ssh-ed25519,rsa-sha2-256,x@y":    {"ssh-ed25519", "rsa-sha2-256", "x@y"},
		strings.Repeat("x", 64) + ",~":    {strings.Repeat("x", 64), "~"},
		strings.Join(many(16), ","):       many(16),
		strings.Repeat("!,", 15) + "\x22": append(slices.Repeat([]string{"!"}, 15), "\""),
	} {
		l, e := names.Split(s)
		if e != api.OK || !slices.Equal(l, want) {
			t.Errorf("Split(%q) = %q, %v", s, l, e)
		}
	}
}

func TestSplitFails(t *testing.T) {
	for s, want := range map[string]api.Errno{
		",":                             api.ErrForm,
		"a,":                            api.ErrForm,
		",a":                            api.ErrForm,
		"a,,b":                          api.ErrForm,
		"a, b":                          api.ErrForm,
		" ":                             api.ErrForm,
		"a\x1f":                         api.ErrForm,
		"b,a\x80":                       api.ErrForm,
		strings.Repeat("x", 65):         api.ErrForm,
		strings.Repeat(",", 15):         api.ErrForm,
		strings.Repeat(",", 16):         api.ErrLong,
		strings.Join(many(17), ","):     api.ErrLong,
		" ," + strings.Repeat("x,", 16): api.ErrLong,
		strings.Repeat("a,", 1<<20):     api.ErrLong,
	} {
		if l, e := names.Split(s); e != want || l != nil {
			t.Errorf("Split of %d bytes, %.20q: %q, %v, not %v", len(s), s, l, e, want)
		}
	}
}

func TestJoin(t *testing.T) {
	for _, c := range []struct {
		l    []string
		want string
		e    api.Errno
	}{
		{nil, "", api.OK},
		{[]string{}, "", api.OK},
		{[]string{"a"}, "a", api.OK},
		{[]string{"b", "a", "b"}, "b,a,b", api.OK},
		{many(16), strings.Join(many(16), ","), api.OK},
		{[]string{strings.Repeat("x", 64)}, strings.Repeat("x", 64), api.OK},
		{[]string{strings.Repeat("x", 65)}, "", api.ErrForm},
		{[]string{""}, "", api.ErrForm},
		{[]string{"a", ""}, "", api.ErrForm},
		{[]string{"a,b"}, "", api.ErrForm},
		{[]string{"a", "b c"}, "", api.ErrForm},
		{[]string{"\x7f", "a"}, "", api.ErrForm},
		{many(17), "", api.ErrLong},
		{append(many(16), ""), "", api.ErrLong},
		{append([]string{","}, many(16)...), "", api.ErrLong},
	} {
		if s, e := names.Join(c.l); s != c.want || e != c.e {
			t.Errorf("Join(%q) = %q, %v", c.l, s, e)
		}
	}
}

// TestSplitAndJoinInvertEachOther goes through all short texts of a few bytes, valid or not.
func TestSplitAndJoinInvertEachOther(t *testing.T) {
	var try func(s string)
	try = func(s string) {
		if l, e := names.Split(s); e == api.OK {
			if back, e := names.Join(l); back != s || e != api.OK {
				t.Errorf("Join of Split of %q: %q, %v", s, back, e)
			}
		}
		if len(s) < 6 {
			for _, c := range []string{"a", "~", ",", " "} {
				try(s + c)
			}
		}
	}
	try("")
	for n := range api.MaxNames + 1 {
		s, e := names.Join(many(n))
		if l, f := names.Split(s); e != api.OK || f != api.OK || !slices.Equal(l, many(n)) {
			t.Errorf("Split of Join of %d names: %q, %v, %v", n, l, e, f)
		}
	}
}

func TestHas(t *testing.T) {
	l := []string{"b", "", "a,c", "b"}
	for name, want := range map[string]bool{"b": true, "": true, "a,c": true, "a": false, "B": false, "bb": false} {
		if got := names.Has(l, name); got != want {
			t.Errorf("Has(%q) = %v", name, got)
		}
	}
	if names.Has(nil, "") || names.Has([]string{}, "a") || names.Has([]string{"a"}, "") {
		t.Errorf("Has of what is not there")
	}
}

func TestFirst(t *testing.T) {
	for _, c := range []struct {
		l, others []string
		want      string
		is        bool
	}{
		{[]string{"a", "b"}, []string{"b", "c", "a"}, "a", true},
		{[]string{"c", "b", "a"}, []string{"a", "b"}, "b", true},
		{[]string{"a"}, []string{"b"}, "", false},
		{[]string{"a"}, nil, "", false},
		{nil, []string{"a"}, "", false},
		{nil, nil, "", false},
		{[]string{"x", ""}, []string{""}, "", true},
		{[]string{"a", "a"}, []string{"a"}, "a", true},
		{many(1000), []string{"n999"}, "n999", true},
	} {
		if got, is := names.First(c.l, c.others); got != c.want || is != c.is {
			t.Errorf("First of %.40q and %q: %q, %v", c.l, c.others, got, is)
		}
	}
}

func TestWithout(t *testing.T) {
	for _, c := range []struct{ l, others, want []string }{
		{[]string{"a", "b", "a", "c"}, []string{"a", "d"}, []string{"b", "c"}},
		{[]string{"c", "b", "b"}, nil, []string{"c", "b", "b"}},
		{[]string{"b", "c", "b"}, []string{"c", "c"}, []string{"b", "b"}},
		{[]string{"a", "b"}, []string{"b", "a"}, nil},
		{[]string{"", "a"}, []string{""}, []string{"a"}},
		{nil, []string{"a"}, nil},
		{nil, nil, nil},
	} {
		if got := names.Without(c.l, c.others...); !slices.Equal(got, c.want) {
			t.Errorf("%q without %q: %q", c.l, c.others, got)
		}
	}
}

func TestOnce(t *testing.T) {
	for _, c := range []struct {
		l    []string
		want bool
	}{
		{nil, true},
		{[]string{}, true},
		{[]string{""}, true},
		{[]string{"", ""}, false},
		{[]string{"a", "b", "c"}, true},
		{[]string{"a", "b", "a"}, false},
		{[]string{"a", "b", "b"}, false},
		{[]string{"a", "A"}, true},
		{many(1000), true},
		{append(many(1000), "n0"), false},
	} {
		if got := names.Once(c.l); got != c.want {
			t.Errorf("Once(%.40q) = %v", c.l, got)
		}
	}
}

// TestArgumentsStay checks that no call changes its arguments, and that no answer shares their memory.
func TestArgumentsStay(t *testing.T) {
	back := []string{"a", "b", "c", "d"}
	l, others := back[:3], []string{"x"}
	got := names.Without(l, others...)
	got[0] = "z"
	_ = append(got, "y")
	names.Join(l)
	names.Has(l, "a")
	names.First(l, others)
	names.Once(l)
	if !slices.Equal(back, []string{"a", "b", "c", "d"}) || !slices.Equal(others, []string{"x"}) {
		t.Errorf("changed: %q, %q", back, others)
	}
}

// TestManyNames would not end in time if long lists were searched once for each name.
func TestManyNames(t *testing.T) {
	l, others := many(1<<18), many(1 << 19)[1<<18:]
	if _, is := names.First(l, others); is {
		t.Errorf("First")
	}
	if got := names.Without(l, others...); len(got) != len(l) {
		t.Errorf("Without: %d", len(got))
	}
	if !names.Once(l) {
		t.Errorf("Once")
	}
}
