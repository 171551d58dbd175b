package dice_test

import (
	"slices"
	"testing"

	"shibboleth/api"
	"shibboleth/choose"
	"shibboleth/code"
	"shibboleth/conf"
	"shibboleth/gex"
	"shibboleth/kex"
	"shibboleth/order"
	"shibboleth/report"
	"shibboleth/schema"
	"shibboleth/secret"
	"shibboleth/share"
	"shibboleth/term"
	"shibboleth/world"
)

// The examples 1, 2 and 9 of the document: terms.
func TestExamplesOfTerms(t *testing.T) {
	a := term.New()
	x, again := a.Data("a"), a.Data("a")
	key := a.Key(0)
	if pub := a.Pub(key); x != 0 || again != 0 || key != 1 || pub != 2 {
		t.Errorf("1: %d, %d, %d, %d", x, again, key, pub)
	}
	if s := code.Encode(a, x); s != "\xf1\x00\x00\x00\x01\x61" {
		t.Errorf("2: %q", s)
	}
	x0, x1, own := share.Fresh(a, 1, 0), share.Fresh(a, 2, 0), a.Nonce(0, 5)
	offer := share.Offer(a, "curve25519", x0)
	m := secret.New(a, []api.ID{offer}, nil)
	if !m.Can(a.Exp(offer, own)) || m.Can(a.Exp(offer, x1)) {
		t.Errorf("9: %v, %v", m.Can(a.Exp(offer, own)), m.Can(a.Exp(offer, x1)))
	}
}

// The examples 3, 4, 5 and 6 of the document: messages and choices.
func TestExamplesOfMessages(t *testing.T) {
	two, isTwo := schema.Fit(31, 2)
	three, isThree := schema.Fit(31, 3)
	if two != "mm" || !isTwo || three != "ttt" || !isThree {
		t.Errorf("3: %q, %q", two, three)
	}
	client, server := conf.Plain(false, 0).Prefs, conf.Plain(true, 0).Prefs
	client.Host, server.Host = []string{"a", "b"}, []string{"b", "c", "a"}
	if c, err := choose.Choose(client, server); c.Host != "a" || err != nil {
		t.Errorf("4: %q, %v", c.Host, err)
	}
	group, err := gex.Pick(1024, 2000, 8192)
	if bits := gex.Bits(group); err != nil || bits != 2048 {
		t.Errorf("5: %d bits, %v", bits, err)
	}
	if first, later := order.Judge(api.PhKex, true, false, 2), order.Judge(api.PhKex, false, false, 2); first != api.VdWrong || later != api.VdPass {
		t.Errorf("6: %d, %d", first, later)
	}
}

// The example 7 of the document: undisturbed communication.
func TestExampleOfLogin(t *testing.T) {
	w := world.New()
	w.Do(api.Step{Kind: api.StSpawn, Conf: conf.Plain(true, 2)})
	w.Do(api.Step{Kind: api.StSpawn, Conf: conf.Plain(false, 2)})
	for i := 0; i < len(w.Sent()); i++ {
		w.Do(api.Step{Kind: api.StPass, Who: i, To: 1 - w.Sent()[i].Session})
	}
	var kinds []int
	for _, e := range w.Events() {
		kinds = append(kinds, e.Kind)
	}
	if !slices.Equal(kinds, []int{api.EvRunning, api.EvCommit, api.EvRequest, api.EvAccept, api.EvLet}) {
		t.Errorf("7: %v", kinds)
	}
}

// The example 8 of the document: a server that has had its first exchange already.
func TestExampleOfStrict(t *testing.T) {
	a := term.New()
	client, server := conf.Plain(false, 2), conf.Plain(true, 2)
	near, err := kex.New(a, client, 0, 0, api.None)
	if err != nil {
		t.Fatalf("%v", err)
	}
	if _, err = near.Begin(); err != nil {
		t.Fatalf("%v", err)
	}
	far, err := kex.New(a, server, 1, 1, a.Data("an earlier hash"))
	if err != nil {
		t.Fatalf("%v", err)
	}
	out, err := far.Begin()
	if err != nil || len(out) != 1 {
		t.Fatalf("%q, %v", out, err)
	}
	if _, err = near.Init(conf.Version(server), out[0]); err == nil || err.Error() != "kex: strict: rule" {
		t.Errorf("8: %v", err)
	}
}

// The example 10 of the document: a run.
func TestExampleOfRun(t *testing.T) {
	if s, err := report.Run("take who=3\n"); s != "done 1 of 1\n- taken 3\n" || err != nil {
		t.Errorf("10: %q, %v", s, err)
	}
}
