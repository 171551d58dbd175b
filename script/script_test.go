package script_test

import (
	"reflect"
	"slices"
	"strconv"
	"strings"
	"testing"

	"shibboleth/api"
	"shibboleth/conf"
	"shibboleth/fault"
	"shibboleth/script"
)

// The words of the document.
var (
	words   = []string{"spawn", "take", "line", "plain", "sealed", "bad", "pass", "rekey", "say"}
	opWords = []string{"data", "nonce", "know", "sent", "base", "exp", "pub", "sign", "hash", "derive", "seal", "open", "empty", "add", "at"}
)

// numbers that are or are no kinds, and much else.
var numbers = []int{0, 1, 7, 8, 9, 10, 14, 15, 99, -1, -2, 1<<31 - 1, 1 << 31, -1 << 31, 1<<63 - 1, -1 << 63}

// wantError checks what is wrong, and that nothing comes with it.
func wantError(t *testing.T, what string, err error, want string, e api.Errno, empty bool) {
	t.Helper()
	if err == nil || err.Error() != want || fault.Code(err) != e || !empty {
		t.Errorf("%s: %v, not %s; empty: %v", what, err, want, empty)
	}
}

func line(t *testing.T, x api.Step) string {
	t.Helper()
	s, err := script.Line(x)
	if err != nil {
		t.Fatalf("Line(%+v): %v", x, err)
	}
	return s
}

// wantStep checks that a line is that of a step.
func wantStep(t *testing.T, s string, x api.Step) {
	t.Helper()
	if got, err := script.Line(x); err != nil || got != s {
		t.Errorf("Line(%+v): %q, %v, not %q", x, got, err, s)
	}
	if got, err := script.Read(s); err != nil || !reflect.DeepEqual(got, x) {
		t.Errorf("Read(%q): %+v, %v, not %+v", s, got, err, x)
	}
}

// wantNone checks that a line is that of no step.
func wantNone(t *testing.T, s, where string) {
	t.Helper()
	x, err := script.Read(s)
	wantError(t, strconv.Quote(s), err, where+": form", api.ErrForm, reflect.DeepEqual(x, api.Step{}))
}

// 35.1: the words of kinds, and the kinds of words.
func TestWords(t *testing.T) {
	for _, n := range append(numbers, 2, 3, 4, 5, 6) {
		want := ""
		if n >= 0 && n < len(words) {
			want = words[n]
		}
		if got := script.Word(n); got != want {
			t.Errorf("Word(%d): %q", n, got)
		}
	}
	for i, w := range words {
		if n, is := script.Kind(w); !is || n != i {
			t.Errorf("Kind(%q): %d, %v", w, n, is)
		}
	}
	for _, w := range slices.Concat(opWords, []string{"", " ", "Spawn", "SPAWN", "spawn ", " spawn", "spaw", "spawns", "0", "?", "take\n", "\x00"}) {
		if n, is := script.Kind(w); is || n != 0 {
			t.Errorf("Kind(%q): %d, %v", w, n, is)
		}
	}
}

// 35.2: the examples of the chapter and of the whole, and what else is simple.
func TestLine(t *testing.T) {
	wantStep(t, "take who=3", api.Step{Kind: api.StTake, Who: 3})
	wantStep(t, "spawn", api.Step{})
	wantStep(t, "pass to=1 who=12 cuts=0,7,-1", api.Step{Kind: api.StPass, To: 1, Who: 12, Cuts: []int{0, 7, -1}})
	wantStep(t, "say to=1 text=%20%3b", api.Step{Kind: api.StSay, To: 1, Text: " ;"})
	c := conf.Plain(true, 1)
	wantStep(t, "spawn server=1 software=plain kex=curve25519-sha256,ecdh-sha2-nistp256,diffie-hellman-group-exchange-sha256 host=ssh-ed25519,rsa-sha2-256 encc=aes256-gcm,aes128-ctr encs=aes256-gcm,aes128-ctr macc=hmac-sha2-256,hmac-sha2-512 macs=hmac-sha2-256,hmac-sha2-512 compc=none comps=none algs=ssh-ed25519 own=1 grants=ann:8 limit=3", api.Step{Conf: c})
	for i, w := range words {
		wantStep(t, w, api.Step{Kind: i})
	}
}

// 35.2: a step that has no line.
func TestLineNone(t *testing.T) {
	strange := []api.Op{{}, {Kind: len(opWords)}}
	for _, n := range numbers {
		if script.Word(n) == "" {
			for _, l := range [][]api.Op{nil, {{}}, strange} {
				s, err := script.Line(api.Step{Kind: n, Ops: l})
				wantError(t, "kind", err, "word: none", api.ErrNone, s == "")
			}
		}
		if n >= 0 && n < len(opWords) {
			continue
		}
		for i := range words {
			for _, l := range [][]api.Op{{{Kind: n}}, {{}, {Kind: n}, {}}, {{}, {Kind: 3}, {Kind: n, S: "x"}}} {
				s, err := script.Line(api.Step{Kind: i, Ops: l, Who: 3})
				wantError(t, "recipe", err, "ops: none", api.ErrNone, s == "")
			}
		}
	}
}

// full is a step all of whose fields are not zero, each of which is another one.
func full() api.Step {
	return api.Step{
		Kind: api.StSay,
		To:   1,
		Who:  -2,
		Text: "three",
		Ops:  []api.Op{{Kind: 4, A: 5, B: -6, C: 7, S: "eight"}, {}},
		Cuts: []int{9, 0},
		Conf: api.Conf{
			Server:   true,
			Software: "ten",
			Comment:  "a b",
			Prefs: api.Prefs{
				Kex: []string{"k"}, Host: []string{"h", ""},
				EncC: []string{"", "e"}, EncS: []string{""},
				MacC: []string{"", ""}, MacS: []string{"m", "n", "o"},
				CompC: []string{";"}, CompS: []string{"%"},
			},
			Algs:   []string{"a,b"},
			Own:    11,
			Grants: []api.Grant{{User: "u:v", Who: -12}, {}},
			Limit:  13,
			Peer:   -14,
			User:   "\xff",
			Keys:   []int{15, 16},
			Ext:    true,
			Guess:  true,
			Wish:   [3]uint32{0, 17, 1<<32 - 1},
		},
	}
}

// fullParts are the parts of that step's line.
var fullParts = []string{"to=1", "who=-2", "text=three", "ops=base:5:-6:7:eight,data:0:0:0:", "cuts=9,0", "server=1", "software=ten", "comment=a%20b", "kex=k", "host=h,;", "encc=;,e", "encs=;", "macc=;,;", "macs=m,n,o", "compc=%3b", "comps=%25", "algs=a%2cb", "own=11", "grants=u%3av:-12,:0", "limit=13", "peer=-14", "user=%ff", "keys=15,16", "ext=1", "guess=1", "wish=0:17:4294967295"}

// some returns the step that has only these fields of the full one, and a kind.
func some(kind int, has func(key string) bool) api.Step {
	x, c := full(), api.Conf{}
	y := api.Step{Kind: kind}
	from, to := reflect.ValueOf(&x).Elem(), reflect.ValueOf(&y).Elem()
	for key, name := range map[string]string{"to": "To", "who": "Who", "text": "Text", "ops": "Ops", "cuts": "Cuts"} {
		if has(key) {
			to.FieldByName(name).Set(from.FieldByName(name))
		}
	}
	from, to = reflect.ValueOf(&x.Conf).Elem(), reflect.ValueOf(&c).Elem()
	for key, name := range map[string]string{"server": "Server", "software": "Software", "comment": "Comment", "algs": "Algs", "own": "Own", "grants": "Grants", "limit": "Limit", "peer": "Peer", "user": "User", "keys": "Keys", "ext": "Ext", "guess": "Guess", "wish": "Wish"} {
		if has(key) {
			to.FieldByName(name).Set(from.FieldByName(name))
		}
	}
	from, to = reflect.ValueOf(&x.Conf.Prefs).Elem(), reflect.ValueOf(&c.Prefs).Elem()
	for key, name := range map[string]string{"kex": "Kex", "host": "Host", "encc": "EncC", "encs": "EncS", "macc": "MacC", "macs": "MacS", "compc": "CompC", "comps": "CompS"} {
		if has(key) {
			to.FieldByName(name).Set(from.FieldByName(name))
		}
	}
	y.Conf = c
	return y
}

func keyOf(part string) string {
	key, _, _ := strings.Cut(part, "=")
	return key
}

// 35.2: all parts, each part alone, and all but one; whatever the kind looks at.
func TestParts(t *testing.T) {
	wantStep(t, "say "+strings.Join(fullParts, " "), full())
	for i, p := range fullParts {
		key := keyOf(p)
		for kind, w := range words {
			wantStep(t, w+" "+p, some(kind, func(k string) bool { return k == key }))
			others := slices.Delete(slices.Clone(fullParts), i, i+1)
			wantStep(t, w+" "+strings.Join(others, " "), some(kind, func(k string) bool { return k != key }))
		}
	}
}

// 35.2: any two parts have one order, and no part is there twice.
func TestOrder(t *testing.T) {
	for i, p := range fullParts {
		for k, q := range fullParts {
			s := "bad " + p + " " + q
			if i < k {
				wantStep(t, s, some(api.StBad, func(key string) bool { return key == keyOf(p) || key == keyOf(q) }))
			} else {
				wantNone(t, s, "key")
			}
		}
	}
	// What is wrong is told of the first part that is.
	wantNone(t, "bad who=1 to=0 who=0", "key")
	wantNone(t, "bad to=0 who=0 x", "to")
	wantNone(t, "bad to=1 who=0 x", "who")
	wantNone(t, "bad to=1 x who=0", "key")
	wantNone(t, "bad to=1 cuts=x ops=y", "cuts")
	wantNone(t, "worse to=0", "word")
}

// 35.2: words that there are none of, spaces, and parts that are none.
func TestReadNone(t *testing.T) {
	for _, s := range []string{"", " ", "  ", " bad", "\tbad", "Bad", "bad\t", "bad\n", "bad,", "worse", "data", "to=1", "=", "?", "\x00", "takewho=3", "take=3", "0", "5"} {
		wantNone(t, s, "word")
	}
	for _, s := range []string{"bad ", "bad  ", "take  who=3", "take who=3 ", "take who=3  ", "take who=3  cuts=1", "take who", "take =", "take =3", "take ==", "take Who=3", "take who =3", "take whom=3", "take wh=3", "take 3", "take kind=1", "take word=1", "take key=1", "take conf=1", "take enc-c=a", "take \t", "take who=3 \n", "take t\xc3\xb6=1"} {
		wantNone(t, s, "key")
	}
	for _, s := range []string{"take who= 3", "take who=", "take who==3", "take who=3\n", "take who=3\r", "take who=3\t"} {
		wantNone(t, s, "who")
	}
}

// badNumbers are no numbers as they are written.
var badNumbers = []string{"", "-", "+", "-0", "00", "03", "-03", "+3", " 3", "3 ", "3.", "3.0", "0x3", "1_000", "1e3", "x", "--3", "3-", "\xd9\xa3", "\x00", "9223372036854775808", "-9223372036854775809", "18446744073709551616", strings.Repeat("9", 100), "3,", ",3", "3,4", "3:4", ";", "%33", "3="}

// 35.2: numbers.
func TestNumbers(t *testing.T) {
	keys := map[string]func(x *api.Step) *int{
		"to":    func(x *api.Step) *int { return &x.To },
		"who":   func(x *api.Step) *int { return &x.Who },
		"own":   func(x *api.Step) *int { return &x.Conf.Own },
		"limit": func(x *api.Step) *int { return &x.Conf.Limit },
		"peer":  func(x *api.Step) *int { return &x.Conf.Peer },
	}
	for key, at := range keys {
		for _, n := range numbers {
			x := api.Step{Kind: 3}
			*at(&x) = n
			want := "plain " + key + "=" + strconv.Itoa(n)
			if n == 0 {
				wantNone(t, want, key)
				want = "plain"
			}
			wantStep(t, want, x)
		}
		for _, s := range badNumbers {
			// What follows a space is a part of its own.
			if !strings.Contains(s, " ") {
				wantNone(t, "plain "+key+"="+s, key)
			}
		}
	}
	wantStep(t, "take who=-9223372036854775808", api.Step{Kind: 1, Who: -1 << 63})
	wantStep(t, "take who=9223372036854775807", api.Step{Kind: 1, Who: 1<<63 - 1})
}

// 35.2: lists of numbers: one that is not empty is written, even if all of its numbers are 0.
func TestNumberLists(t *testing.T) {
	for key, at := range map[string]func(x *api.Step) *[]int{
		"cuts": func(x *api.Step) *[]int { return &x.Cuts },
		"keys": func(x *api.Step) *[]int { return &x.Conf.Keys },
	} {
		for text, l := range map[string][]int{"0": {0}, "0,0": {0, 0}, "-1": {-1}, "3,3,3": {3, 3, 3}, "1,0,-9223372036854775808": {1, 0, -1 << 63}, strings.Repeat("7,", 999) + "7": slices.Repeat([]int{7}, 1000)} {
			x := api.Step{}
			*at(&x) = l
			wantStep(t, "spawn "+key+"="+text, x)
		}
		for _, s := range append(badNumbers, ",", "1,,2", "1,2,", ",1,2", "1;2", "1,02", "1,-0", "1,x", "1,9223372036854775808", "1,+1") {
			if !strings.Contains(s, " ") && s != "3,4" {
				wantNone(t, "spawn "+key+"="+s, key)
			}
		}
		empty := api.Step{}
		*at(&empty) = []int{}
		if s := line(t, empty); s != "spawn" {
			t.Errorf("%s: %q", key, s)
		}
	}
}

// 35.2: what is true.
func TestFlags(t *testing.T) {
	for _, key := range []string{"server", "ext", "guess"} {
		for _, s := range []string{"", "0", "2", "-1", "01", "11", "1,1", "true", "x", "%31", ";", "1="} {
			wantNone(t, "spawn "+key+"="+s, key)
		}
	}
	wantStep(t, "spawn server=1", api.Step{Conf: api.Conf{Server: true}})
	wantStep(t, "spawn ext=1", api.Step{Conf: api.Conf{Ext: true}})
	wantStep(t, "spawn guess=1", api.Step{Conf: api.Conf{Guess: true}})
}

// 35.2: strings.
func TestTexts(t *testing.T) {
	for key, at := range map[string]func(x *api.Step) *string{
		"text":     func(x *api.Step) *string { return &x.Text },
		"software": func(x *api.Step) *string { return &x.Conf.Software },
		"comment":  func(x *api.Step) *string { return &x.Conf.Comment },
		"user":     func(x *api.Step) *string { return &x.Conf.User },
	} {
		for _, s := range []string{"a", ";", "=", "%", ",:=;% ", "\n", "\x00", every(), "0", "a=b who=3", strings.Repeat("\xff", 5000)} {
			x := api.Step{Kind: 8}
			*at(&x) = s
			wantStep(t, "say "+key+"="+script.Escape(s), x)
		}
		for _, s := range []string{"", ";", "%", "%4", "%41", "%2C", "%zz", "a%", "a%2", ":", ",", "a,b", "a=b", "=", "\x00", "\n", "\x7f", "\x80", "a;"} {
			wantNone(t, "say "+key+"="+s, key)
		}
	}
}

// 35.2: lists of strings, in which an empty string is a ; of its own.
func TestNames(t *testing.T) {
	for key, at := range map[string]func(c *api.Conf) *[]string{
		"kex":   func(c *api.Conf) *[]string { return &c.Prefs.Kex },
		"host":  func(c *api.Conf) *[]string { return &c.Prefs.Host },
		"encc":  func(c *api.Conf) *[]string { return &c.Prefs.EncC },
		"encs":  func(c *api.Conf) *[]string { return &c.Prefs.EncS },
		"macc":  func(c *api.Conf) *[]string { return &c.Prefs.MacC },
		"macs":  func(c *api.Conf) *[]string { return &c.Prefs.MacS },
		"compc": func(c *api.Conf) *[]string { return &c.Prefs.CompC },
		"comps": func(c *api.Conf) *[]string { return &c.Prefs.CompS },
		"algs":  func(c *api.Conf) *[]string { return &c.Algs },
	} {
		for text, l := range map[string][]string{"a": {"a"}, ";": {""}, ";,;": {"", ""}, ";,;,;": {"", "", ""}, "a,;": {"a", ""}, ";,a": {"", "a"}, "a,;,b": {"a", "", "b"}, "a,a": {"a", "a"}, "%3b": {";"}, "%3b,;": {";", ""}, "a%2cb,c": {"a,b", "c"}, script.Escape(every()) + ",x": {every(), "x"}} {
			x := api.Step{}
			*at(&x.Conf) = l
			wantStep(t, "spawn "+key+"="+text, x)
		}
		for _, s := range []string{"", ",", "a,", ",a", "a,,b", ";,", ",;", ";;", "a;", ";a", "a,b;", "%", "a,%4", "a,%41", "a,%2C", "a:b", "a=b", "a,b,"} {
			wantNone(t, "spawn "+key+"="+s, key)
		}
		empty := api.Step{}
		*at(&empty.Conf) = []string{}
		if s := line(t, empty); s != "spawn" {
			t.Errorf("%s: %q", key, s)
		}
	}
}

// 35.2: grants.
func TestGrants(t *testing.T) {
	for text, l := range map[string][]api.Grant{
		"ann:8":             {{User: "ann", Who: 8}},
		":0":                {{}},
		":0,:0":             {{}, {}},
		":-1":               {{Who: -1}},
		"a:0":               {{User: "a"}},
		"%3b:1,%3a:2,%2c:3": {{User: ";", Who: 1}, {User: ":", Who: 2}, {User: ",", Who: 3}},
	} {
		wantStep(t, "spawn grants="+text, api.Step{Conf: api.Conf{Grants: l}})
	}
	for _, s := range []string{"", ":", "a", "a:", "8", "a:b", ";:1", "a:1:", "a:1:2", "a:1,", ",a:1", "a:1,,b:2", "a:1,b", "a:01", "a:-0", "a:+1", "a%:1", "%41:1", "a=:1", "a:9223372036854775808", "::1", "a::1"} {
		wantNone(t, "spawn grants="+s, "grants")
	}
}

// 35.2: wishes.
func TestWish(t *testing.T) {
	for text, l := range map[string][3]uint32{
		"1:0:0":                            {1, 0, 0},
		"0:1:0":                            {0, 1, 0},
		"0:0:1":                            {0, 0, 1},
		"2048:3072:8192":                   {2048, 3072, 8192},
		"4294967295:4294967295:4294967295": {1<<32 - 1, 1<<32 - 1, 1<<32 - 1},
	} {
		wantStep(t, "spawn wish="+text, api.Step{Conf: api.Conf{Wish: l}})
	}
	for _, s := range []string{"", "0", "0:0:0", "1", "1:2", "1:2:", ":1:2", "1::2", "1:2:3:", "1:2:3:4", "1,2,3", "1:2:03", "1:2:-0", "1:2:-1", "1:2:+3", "00:1:2", "1:2:4294967296", "1:4294967296:2", "4294967296:1:2", "1:2:18446744073709551617", "1:2:x", "1:2:;", "::", "1:2:3,4:5:6"} {
		wantNone(t, "spawn wish="+s, "wish")
	}
}

// 35.2: recipes: of every kind, each with all that a step can have.
func TestOps(t *testing.T) {
	var all []api.Op
	var texts []string
	for kind, w := range opWords {
		for _, x := range []api.Op{{}, {A: 1}, {B: -2}, {C: 1<<63 - 1}, {S: ",:=;% "}, {A: -1 << 63, B: 5, C: -7, S: every()}} {
			x.Kind = kind
			text := w + ":" + strconv.Itoa(x.A) + ":" + strconv.Itoa(x.B) + ":" + strconv.Itoa(x.C) + ":" + script.Escape(x.S)
			wantStep(t, "plain ops="+text, api.Step{Kind: api.StPlain, Ops: []api.Op{x}})
			all, texts = append(all, x), append(texts, text)
		}
	}
	wantStep(t, "sealed to=1 ops="+strings.Join(texts, ",")+" cuts=1", api.Step{Kind: api.StSealed, To: 1, Ops: all, Cuts: []int{1}})
	for _, s := range []string{
		"", ":", "data", "data:", "data:0", "data:0:0", "data:0:0:0", "data:0:0:0:x:", "data:0:0:0:x:y", "data:0:0:0:0:x", "data:0:0:0::",
		"::::", ":0:0:0:", "spawn:0:0:0:", "Data:0:0:0:", "dat:0:0:0:", "0:0:0:0:", ";:0:0:0:", "data%20:0:0:0:",
		"data::0:0:", "data:0::0:", "data:0:0::", "data:00:0:0:", "data:0:-0:0:", "data:0:0:+1:", "data:x:0:0:", "data:9223372036854775808:0:0:",
		"data:0:0:0:;", "data:0:0:0:%", "data:0:0:0:%41", "data:0:0:0:%2C", "data:0:0:0:=",
		"data:0:0:0:,", ",data:0:0:0:", "data:0:0:0:,,data:0:0:0:", "data:0:0:0:,data:0:0:0",
	} {
		wantNone(t, "plain ops="+s, "ops")
	}
	if s := line(t, api.Step{Ops: []api.Op{}}); s != "spawn" {
		t.Errorf("no steps: %q", s)
	}
}
