package kex

import (
	"strings"
	"testing"

	"shibboleth/api"
	"shibboleth/conf"
	"shibboleth/kexinit"
	"shibboleth/msg"
	"shibboleth/term"
)

// What can't be constructed in the tests here is, from outside, always short enough: initializations
// and shares are limited. So they plant a long initialization into an exchange that waits.

// waiting returns a second exchange, with the method that knows its group, that waits for a message.
func waiting(t *testing.T, a *term.Arena, server bool) *Exchange {
	t.Helper()
	x, err := New(a, conf.Plain(server, 1), 1, 1, a.Data("s"))
	if err != nil {
		t.Fatalf("New: %v", err)
	}
	other, err := kexinit.Build(conf.Init(conf.Plain(!server, 1), 2, 1))
	if err != nil {
		t.Fatalf("Build: %v", err)
	}
	if _, err := x.Begin(); err != nil {
		t.Fatalf("Begin: %v", err)
	}
	if _, err := x.Init("SSH-2.0-x", other); err != nil {
		t.Fatalf("Init: %v", err)
	}
	return x
}

// take makes an exchange whose other side's initialization is that long take a message of terms.
func take(t *testing.T, server bool, long int, num int, l ...string) (*Exchange, string) {
	t.Helper()
	a := term.New()
	x := waiting(t, a, server)
	x.note(!server, "SSH-2.0-x", strings.Repeat("x", long))
	var fields []api.Field
	for _, s := range l {
		fields = append(fields, api.Field{Kind: 't', S: s})
	}
	payload, err := msg.Encode(api.Msg{Num: num, Fields: fields})
	if err != nil {
		t.Fatalf("Encode: %v", err)
	}
	out, err := x.Take(payload)
	switch {
	case err == nil && len(out) == 1:
		return x, ""
	case err == nil || len(out) != 0:
		t.Fatalf("%q, %v", out, err)
	}
	return x, err.Error()
}

// offered is a share of curve25519, raised to the adversary's nonce 7.
const offered = "\xf5\x00\x00\x00\x0acurve25519\x00\x00\x00\x01\xf2\x00\x00\x00\x00\x00\x00\x00\x07"

// wantFailed checks that an exchange has failed.
func wantFailed(t *testing.T, x *Exchange) {
	t.Helper()
	if d, is := x.Done(); is || d != (api.Done{}) || x.Wants() != 0 || x.Over() {
		t.Errorf("it has not failed: %v", d)
	}
}

// 26.3: a server's hash, signature, keys and reply that are too long, each by one byte, in this order.
func TestServerTooLong(t *testing.T) {
	hash := hashSize(t)
	// A signature is its algorithm, its key, the hash, and five bytes more.
	const around = 5 + len("ssh-ed25519") + 5
	// A reply has a number, three lengths, a public key of six bytes, a share of as many bytes as
	// the other one, and the signature.
	reply := api.MaxPayload - 1 - 3*4 - 6 - len(offered) - around
	x, _ := take(t, true, 0, curveShare, offered)
	secret := x.arena.Size(x.done.K)
	keys := (api.MaxTerm-5)/3 - 2 - secret - x.arena.Size(x.done.Session)
	for _, c := range []struct {
		size int // of the hash
		text string
	}{
		{reply, ""},
		{reply + 1, "kex: reply-or-group: long"},
		{keys, "kex: reply-or-group: long"},
		{keys + 1, "kex: keys: long"},
		{api.MaxTerm - around, "kex: keys: long"},
		{api.MaxTerm - around + 1, "kex: signature: long"},
		{api.MaxTerm, "kex: signature: long"},
		{api.MaxTerm + 1, "kex: hash: long"},
		{2 * api.MaxTerm, "kex: hash: long"},
	} {
		x, text := take(t, true, c.size-hash, curveShare, offered)
		if text != c.text {
			t.Errorf("a hash of %d bytes: %q, not %q", c.size, text, c.text)
		}
		if c.text != "" {
			wantFailed(t, x)
		}
	}
	if _, text := take(t, true, 2*api.MaxTerm, curveShare, "x"); text != "kex: share: range" {
		t.Errorf("no share: %q", text)
	}
}

// hashSize returns the size of a server's hash if the client's initialization has no bytes.
func hashSize(t *testing.T) int {
	t.Helper()
	x, text := take(t, true, 0, curveShare, offered)
	if text != "" || !x.Over() {
		t.Fatalf("a short hash: %s", text)
	}
	return x.arena.Size(x.done.Hash)
}

// 26.3: a client's hash that is too long is told after the share, and before the host's key.
func TestClientTooLong(t *testing.T) {
	for _, c := range []struct {
		share string
		long  int
		text  string
	}{
		{offered, 2 * api.MaxTerm, "kex: hash: long"},
		{"x", 2 * api.MaxTerm, "kex: share: range"},
		{offered, 0, "kex: host: key: host"},
	} {
		x, text := take(t, false, c.long, replyOrGroup, "x", c.share, "x")
		if text != c.text {
			t.Errorf("%q, not %q", text, c.text)
		}
		wantFailed(t, x)
	}
}

// 26.3: a group that has no name: those that pass the client's check all have one.
func TestNoName(t *testing.T) {
	x := waiting(t, term.New(), false)
	g := api.Group{P: strings.Repeat("\xff", api.MaxGroup-9), G: "\x02"}
	if err := x.enter(g); err != nil || len(x.group) != api.MaxGroup || x.done.Group != g {
		t.Errorf("the longest name: %v, %d", err, len(x.group))
	}
	g.G = "\x02\x02"
	if err := x.enter(g); err == nil || err.Error() != "group: long" {
		t.Errorf("a longer name: %v", err)
	}
}
