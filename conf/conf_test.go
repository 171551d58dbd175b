package conf_test

import (
	"math"
	"reflect"
	"slices"
	"strconv"
	"strings"
	"testing"

	"shibboleth/api"
	"shibboleth/conf"
	"shibboleth/fault"
	"shibboleth/kexinit"
	"shibboleth/prefs"
)

// wrongPeople are no principals.
var wrongPeople = []int{-1, -2, math.MinInt32, math.MinInt, api.MaxPeople, api.MaxPeople + 1, 1 << 32, math.MaxInt}

// many returns n names of that length, of which each is there once.
func many(n, length int) []string {
	var l []string
	for i := range n {
		tail := strconv.Itoa(i)
		l = append(l, strings.Repeat("n", length-len(tail))+tail)
	}
	return l
}

// wantText checks an error by its text; the empty one is that of no error.
func wantText(t *testing.T, err error, text, what string) {
	t.Helper()
	if err == nil && text == "" {
		return
	}
	if err == nil || err.Error() != text {
		t.Errorf("%s: %v, not %q", what, err, text)
	}
}

// A flaw is what makes a configuration wrong, and the error for it.
type flaw struct {
	text string
	make func(c *api.Conf)
}

// flaws returns flaws in the order in which they are told. No later one repairs an earlier one.
func flaws(server bool) []flaw {
	both := []flaw{
		{"conf: version: arg", func(c *api.Conf) { c.Software = "a b" }},
		{"conf: prefs: kex: none", func(c *api.Conf) { c.Prefs.Kex = nil }},
		{"conf: prefs: host: form", func(c *api.Conf) { c.Prefs.Host = []string{"a", "a"} }},
		{"conf: prefs: comp-s: long", func(c *api.Conf) { c.Prefs.CompS = many(api.MaxNames, 3) }},
	}
	if server {
		return append(both,
			flaw{"conf: own: range", func(c *api.Conf) { c.Own = api.MaxPeople }},
			flaw{"conf: deny: grants: form", func(c *api.Conf) { c.Grants = append(c.Grants, api.Grant{User: "a b"}) }},
			flaw{"conf: deny: grants: range", func(c *api.Conf) { c.Grants = append(c.Grants, api.Grant{User: "a", Who: -1}) }},
			flaw{"conf: deny: algs: form", func(c *api.Conf) { c.Algs = []string{"a", "a,b"} }},
			flaw{"conf: deny: limit: range", func(c *api.Conf) { c.Limit = api.MaxTries + 1 }},
		)
	}
	return append(both,
		flaw{"conf: peer: range", func(c *api.Conf) { c.Peer = -1 }},
		flaw{"conf: user: form", func(c *api.Conf) { c.User = "a b" }},
		flaw{"conf: keys: long", func(c *api.Conf) { c.Keys = make([]int, api.MaxKeys+1) }},
		flaw{"conf: keys: range", func(c *api.Conf) { c.Keys = append(c.Keys, api.MaxPeople) }},
		flaw{"conf: deny: algs: none", func(c *api.Conf) { c.Algs = nil }},
		flaw{"conf: wish: range", func(c *api.Conf) { c.Wish = [3]uint32{1023, 2048, 8192} }},
	)
}

// 25.1: each error alone, each two at once, and each with all that follow: the first one is told.
func TestCheckOrder(t *testing.T) {
	for _, server := range []bool{false, true} {
		wantText(t, conf.Check(conf.Plain(server, 1)), "", "the default one")
		l := flaws(server)
		for i, first := range l {
			all := conf.Plain(server, 1)
			for _, second := range l[i:] {
				c := conf.Plain(server, 1)
				first.make(&c)
				second.make(&c)
				second.make(&all)
				wantText(t, conf.Check(c), first.text, "with "+second.text)
				wantText(t, conf.Check(all), first.text, "with all up to "+second.text)
			}
		}
	}
}

// 25.1: the error's number and its locations.
func TestCheckFault(t *testing.T) {
	c := conf.Plain(true, api.MaxPeople)
	if err := conf.Check(c); fault.Code(err) != api.ErrRange || fault.Reason(err) != 3 || !slices.Equal(fault.Path(err), []string{"conf", "own"}) {
		t.Errorf("%v: %v, %d, %q", err, fault.Code(err), fault.Reason(err), fault.Path(err))
	}
	c = conf.Plain(false, 1)
	c.Algs = many(api.MaxNames, 3)
	if err := conf.Check(c); fault.Code(err) != api.ErrLong || !slices.Equal(fault.Path(err), []string{"conf", "deny", "algs"}) {
		t.Errorf("%v: %v, %q", err, fault.Code(err), fault.Path(err))
	}
	wantText(t, conf.Check(api.Conf{}), "conf: version: arg", "the zero one")
	wantText(t, conf.Check(api.Conf{Server: true, Software: "x"}), "conf: prefs: kex: none", "nearly the zero one")
}

// 25.1, 25.2: software and comment form a version line, or not.
func TestVersion(t *testing.T) {
	for _, v := range []struct{ software, comment, want string }{
		{"x", "", "SSH-2.0-x"},
		{"x", "y", "SSH-2.0-x y"},
		{"x", "y  z ", "SSH-2.0-x y  z "},
		{"x-1,2", " ", "SSH-2.0-x-1,2  "},
		{strings.Repeat("x", 245), "", "SSH-2.0-" + strings.Repeat("x", 245)},
		{"x", strings.Repeat("y", 243), "SSH-2.0-x " + strings.Repeat("y", 243)},
		{strings.Repeat("x", 246), "", ""},
		{"x", strings.Repeat("y", 244), ""},
		{"", "", ""},
		{"", "y", ""},
		{" ", "", ""},
		{"a b", "", ""},
		{"x\n", "", ""},
		{"x\x7f", "", ""},
		{"x", "y\r\n", ""},
		{"x", "\x1f", ""},
		{"x", "é", ""},
	} {
		for _, server := range []bool{false, true} {
			c := conf.Plain(server, 1)
			c.Software, c.Comment = v.software, v.comment
			text := ""
			if v.want == "" {
				text = "conf: version: arg"
			}
			wantText(t, conf.Check(c), text, v.software+" "+v.comment)
			if got := conf.Version(c); got != v.want {
				t.Errorf("Version of %.20q and %.20q: %q", v.software, v.comment, got)
			}
			c.Prefs, c.Algs, c.Own, c.Peer = api.Prefs{}, nil, -1, -1
			if got := conf.Version(c); got != v.want {
				t.Errorf("Version of a wrong configuration with %.20q and %.20q: %q", v.software, v.comment, got)
			}
		}
	}
}

// 25.1: principals are numbers from 0 to MaxPeople - 1.
func TestCheckPeople(t *testing.T) {
	check := func(who int, wrong bool) {
		t.Helper()
		for server, part := range map[bool]string{false: "peer", true: "own"} {
			text := ""
			if wrong {
				text = "conf: " + part + ": range"
			}
			wantText(t, conf.Check(conf.Plain(server, who)), text, part+" "+strconv.Itoa(who))
		}
		text := ""
		if wrong {
			text = "conf: keys: range"
		}
		for _, keys := range [][]int{{who}, {0, who}, {who, 15}, {1, 2, 3, 4, 5, 6, 7, who}} {
			c := conf.Plain(false, 1)
			c.Keys = keys
			wantText(t, conf.Check(c), text, "keys")
		}
		c := conf.Plain(true, 1)
		c.Grants = []api.Grant{{User: "a", Who: who}}
		if wrong {
			text = "conf: deny: grants: range"
		}
		wantText(t, conf.Check(c), text, "a grant")
	}
	for who := range api.MaxPeople {
		check(who, false)
	}
	for _, who := range wrongPeople {
		check(who, true)
	}
}

// 25.1: from no keys to MaxKeys of them, the same one twice too.
func TestCheckKeys(t *testing.T) {
	for n := range api.MaxKeys + 3 {
		c := conf.Plain(false, 1)
		c.Keys = make([]int, n)
		text := ""
		if n > api.MaxKeys {
			text = "conf: keys: long"
		}
		wantText(t, conf.Check(c), text, strconv.Itoa(n))
	}
	c := conf.Plain(false, 1)
	for _, who := range wrongPeople {
		c.Keys = slices.Repeat([]int{who}, api.MaxKeys+1)
		wantText(t, conf.Check(c), "conf: keys: long", "too many, of nobody")
	}
}

// 25.1: user names are those of layer 24, not those of lists.
func TestCheckUser(t *testing.T) {
	longest := strings.Repeat("u", api.MaxText)
	for user, right := range map[string]bool{
		"a": true, "a,b": true, "!": true, "~": true, longest: true, "": false, " ": false, "a b": false, "a\x7f": false, "é": false, longest + "u": false,
	} {
		c := conf.Plain(false, 1)
		c.User = user
		text := ""
		if !right {
			text = "conf: user: form"
		}
		wantText(t, conf.Check(c), text, user)
	}
}

// 25.1: the wish is 1024 <= least <= like <= most <= 8192.
func TestCheckWish(t *testing.T) {
	for wish, right := range map[[3]uint32]bool{
		{1024, 1024, 1024}: true, {8192, 8192, 8192}: true, {1024, 2000, 8192}: true, {1024, 1024, 8192}: true,
		{0, 0, 0}: false, {1023, 2048, 8192}: false, {2048, 2047, 8192}: false, {1024, 2048, 2047}: false, {1024, 2048, 8193}: false, {2048, 1024, 4096}: false, {math.MaxUint32, math.MaxUint32, math.MaxUint32}: false,
	} {
		c := conf.Plain(false, 1)
		c.Wish = wish
		text := ""
		if !right {
			text = "conf: wish: range"
		}
		wantText(t, conf.Check(c), text, "a wish")
	}
}

// 25.1: the algorithms of both roles, and a server's limit and grants, are those of a gate.
func TestCheckGate(t *testing.T) {
	for _, server := range []bool{false, true} {
		c := conf.Plain(server, 1)
		for n := range api.MaxNames + 2 {
			c.Algs = many(n, 5)
			text := ""
			switch {
			case n == 0:
				text = "conf: deny: algs: none"
			case n >= api.MaxNames:
				text = "conf: deny: algs: long"
			}
			wantText(t, conf.Check(c), text, strconv.Itoa(n))
		}
		for _, l := range [][]string{{""}, {"a", "a"}, {"a b"}, {"a,b"}, {"a", strings.Repeat("x", api.MaxText+1)}} {
			c.Algs = l
			wantText(t, conf.Check(c), "conf: deny: algs: form", "algorithms")
		}
	}
	c := conf.Plain(true, 1)
	for limit := 1; limit <= api.MaxTries; limit++ {
		c.Limit = limit
		wantText(t, conf.Check(c), "", "a limit")
	}
	for _, limit := range []int{0, -1, math.MinInt, api.MaxTries + 1, math.MaxInt} {
		c.Limit = limit
		wantText(t, conf.Check(c), "conf: deny: limit: range", "a limit")
	}
	c = conf.Plain(true, 1)
	for n, text := range map[int]string{0: "", api.MaxGrants: "", api.MaxGrants + 1: "conf: deny: grants: long"} {
		c.Grants = slices.Repeat([]api.Grant{{User: "a", Who: 15}}, n)
		wantText(t, conf.Check(c), text, "grants")
	}
}

// 25.1: the fields of the other role are ignored.
func TestOtherRole(t *testing.T) {
	server := conf.Plain(true, 1)
	server.Peer, server.User, server.Keys, server.Ext, server.Guess, server.Wish = -1, "a b", make([]int, 100), true, true, [3]uint32{9, 1, 0}
	client := conf.Plain(false, 1)
	client.Own, client.Limit, client.Grants = math.MaxInt, -1, slices.Repeat([]api.Grant{{User: "a b", Who: -1}}, 100)
	for _, c := range []api.Conf{server, client} {
		wantText(t, conf.Check(c), "", "fields of the other role")
		c.Keys = []int{-1}
		text := "conf: keys: range"
		if c.Server {
			text = ""
		}
		wantText(t, conf.Check(c), text, "a strange key")
	}
	if x := conf.Init(server, 1, 0); x.ExtC || x.StrictC || x.Follows || !x.StrictS {
		t.Errorf("a server's Ext and Guess: %+v", x)
	}
}

// 25.2: the initialization is made of the configuration and the two numbers.
func TestInit(t *testing.T) {
	numbers := []int{0, 1, -1, 2, math.MinInt, math.MaxInt, api.MaxNumber, 1073741822}
	for bits := range 16 {
		c := conf.Plain(bits&1 != 0, 1)
		c.Ext, c.Guess = bits&2 != 0, bits&4 != 0
		if bits&8 != 0 {
			c.Prefs, c.Software, c.Algs = api.Prefs{Host: []string{"", "a b"}, CompS: many(40, 70)}, "", nil
		}
		for _, session := range numbers {
			for _, number := range numbers {
				want := api.Init{Cookie: kexinit.Cookie(session, number), Prefs: c.Prefs}
				want.ExtC = !c.Server && c.Ext && number == 0
				want.StrictC = !c.Server && number == 0
				want.StrictS = c.Server && number == 0
				want.Follows = !c.Server && c.Guess
				if got := conf.Init(c, session, number); !kexinit.Same(got, want) {
					t.Errorf("Init of %+v, %d, %d: %+v", c, session, number, got)
				}
			}
		}
	}
	if x := conf.Init(api.Conf{}, 0, 0); !x.StrictC || x.Cookie != kexinit.Cookie(0, 0) || len(x.Prefs.Kex) != 0 {
		t.Errorf("Init of the zero configuration: %+v", x)
	}
}

// R4: an initialization shares no memory with the configuration, nor its lists with one another.
func TestInitMemory(t *testing.T) {
	l := append(make([]string, 0, 9), "a", "b")
	c := api.Conf{Prefs: api.Prefs{Kex: l, Host: l, EncC: l, EncS: l, MacC: l, MacS: l, CompC: l, CompS: l}}
	x := conf.Init(c, 1, 0)
	l[0] = "changed"
	for i, list := range lists(&x.Prefs) {
		if !slices.Equal(*list, []string{"a", "b"}) {
			t.Errorf("list %d: %q", i, *list)
		}
		(*list)[0] = "changed, too"
		*list = append(*list, "more")
		(*list)[1] = "changed as well"
	}
	if l[0] != "changed" || l[1] != "b" || l[:3][2] != "" {
		t.Errorf("the configuration's list: %q", l[:3])
	}
}

// lists returns the eight lists.
func lists(p *api.Prefs) []*[]string {
	return []*[]string{&p.Kex, &p.Host, &p.EncC, &p.EncS, &p.MacC, &p.MacS, &p.CompC, &p.CompS}
}

// full returns a configuration of which no field is zero.
func full(server bool) api.Conf {
	return api.Conf{
		Server: server, Software: "s", Comment: "c", Prefs: prefs.Plain(), Algs: []string{"a", "b"},
		Own: 3, Grants: []api.Grant{{User: "u", Who: 1}, {User: "v", Who: 2}}, Limit: 7,
		Peer: 4, User: "w", Keys: []int{5, 6}, Ext: true, Guess: true, Wish: [3]uint32{1024, 2048, 4096},
	}
}

// 25.2: a copy is equal, for any configuration.
func TestCopy(t *testing.T) {
	for _, c := range []api.Conf{
		full(false), full(true), conf.Plain(false, 1), conf.Plain(true, 1), {},
		{Algs: many(100, 3), Keys: make([]int, 100), Grants: make([]api.Grant, 100), Prefs: api.Prefs{MacC: many(100, 90)}},
	} {
		if got := conf.Copy(c); !reflect.DeepEqual(got, c) {
			t.Errorf("Copy of %+v: %+v", c, got)
		}
	}
}

// 25.2: what is changed in the one is not changed in the other.
func TestCopyMemory(t *testing.T) {
	spoil := func(c *api.Conf) {
		for _, l := range lists(&c.Prefs) {
			(*l)[0] = "changed"
			_ = append((*l)[:1], "changed")
		}
		c.Algs[0], c.Algs[1] = "changed", "changed"
		c.Grants[0].User, c.Grants[1].Who = "changed", 15
		c.Keys[0], c.Keys[1] = 15, 15
	}
	for _, server := range []bool{false, true} {
		c := full(server)
		d := conf.Copy(c)
		spoil(&c)
		if !reflect.DeepEqual(d, full(server)) {
			t.Errorf("the copy has changed: %+v", d)
		}
		c = full(server)
		d = conf.Copy(c)
		spoil(&d)
		if !reflect.DeepEqual(c, full(server)) {
			t.Errorf("the original has changed: %+v", c)
		}
	}
	// What is appended to one list of the copy does not turn up in another one, nor in the original.
	l := append(make([]string, 0, 9), "a")
	c := api.Conf{Algs: l, Prefs: api.Prefs{Kex: l, Host: l}}
	d := conf.Copy(c)
	d.Algs[0], d.Prefs.Kex[0] = "b", "c"
	_ = append(d.Algs, "d")
	if c.Algs[0] != "a" || d.Prefs.Host[0] != "a" || d.Prefs.Kex[0] != "c" || l[:2][1] != "" {
		t.Errorf("%q, %+v", l[:2], d)
	}
}

// 25.3: the default configurations, whoever the host is.
func TestPlain(t *testing.T) {
	for _, host := range append(wrongPeople, 0, 1, 15) {
		server := api.Conf{Server: true, Software: "plain", Prefs: prefs.Plain(), Algs: []string{"ssh-ed25519"}, Own: host, Grants: []api.Grant{{User: "ann", Who: 8}}, Limit: 3}
		if got := conf.Plain(true, host); !reflect.DeepEqual(got, server) {
			t.Errorf("a server: %+v", got)
		}
		client := api.Conf{Software: "plain", Prefs: prefs.Plain(), Algs: []string{"ssh-ed25519"}, Peer: host, User: "ann", Keys: []int{8}, Ext: true, Wish: [3]uint32{2048, 3072, 8192}}
		if got := conf.Plain(false, host); !reflect.DeepEqual(got, client) {
			t.Errorf("a client: %+v", got)
		}
	}
	c, d := conf.Plain(true, 1), conf.Plain(true, 1)
	c.Algs[0], c.Grants[0].User, c.Prefs.Kex[0] = "x", "x", "x"
	if !reflect.DeepEqual(d, conf.Plain(true, 1)) {
		t.Errorf("two of them share memory")
	}
}

// 25.4: what a valid configuration announces can be built and is parsed back, the longest one too.
func TestInitIsBuilt(t *testing.T) {
	long := func() []string { return many(api.MaxNames-1, api.MaxText) }
	widest := api.Prefs{Kex: prefs.Plain().Kex, Host: long(), EncC: long(), EncS: long(), MacC: long(), MacS: long(), CompC: long(), CompS: long()}
	marks := []string{"ext-info-c", "ext-info-s", "kex-strict-c-v00", "kex-strict-s-v00"}
	odd := api.Prefs{Kex: []string{"ecdh-sha2-nistp256"}, Host: marks, EncC: marks, EncS: marks, MacC: marks, MacS: marks, CompC: marks, CompS: marks}
	for _, p := range []api.Prefs{prefs.Plain(), widest, odd} {
		for bits := range 8 {
			c := conf.Plain(bits&1 != 0, 1)
			c.Prefs, c.Ext, c.Guess = p, bits&2 != 0, bits&4 != 0
			wantText(t, conf.Check(c), "", "valid")
			for _, number := range []int{0, 1, 1073741822} {
				x := conf.Init(c, api.MaxNumber-1, number)
				payload, err := kexinit.Build(x)
				wantText(t, err, "", "Build")
				back, err := kexinit.Parse(payload)
				wantText(t, err, "", "Parse")
				if !kexinit.Same(back, x) {
					t.Errorf("%+v is parsed as %+v", x, back)
				}
			}
		}
	}
}
