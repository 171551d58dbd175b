package fault_test

import (
	"errors"
	"fmt"
	"io"
	"slices"
	"strings"
	"testing"

	"shibboleth/api"
	"shibboleth/fault"
)

// A nilErr has methods that panic where the pointer is nil.
type nilErr struct {
	name string
	in   error
}

func (n *nilErr) Error() string        { return n.name }
func (n *nilErr) Unwrap() error        { return n.in }
func (n *nilErr) Is(target error) bool { return n.in == target }

// A listErr cannot be compared: held against one of its own type by ==, it would panic.
type listErr []error

func (l listErr) Error() string   { return "list" }
func (l listErr) Unwrap() []error { return l }

// missing is a Fault that is not there.
var missing *fault.Fault

// cases are errors, and all that can be asked of them.
var cases = []struct {
	name string
	err  error
	code api.Errno
	path []string
	text string // of a Fault
}{
	{"number", api.ErrSeal, api.ErrSeal, nil, ""},
	{"OK as an error", api.OK, api.OK, nil, ""},
	{"unknown number", api.Errno(-7), -7, nil, ""},
	{"one location", fault.Of("list", api.ErrForm), api.ErrForm, []string{"list"}, "list: form"},
	{"At of a number", fault.At("list", api.ErrLong), api.ErrLong, []string{"list"}, "list: long"},
	{"At of OK", fault.At("list", api.OK), api.OK, []string{"list"}, "list: ok"},
	{"two locations", fault.At("kexinit", fault.Of("list", api.ErrForm)), api.ErrForm, []string{"kexinit", "list"}, "kexinit: list: form"},
	{"same location twice", fault.At("a", fault.At("b", fault.Of("a", api.ErrHost))), api.ErrHost, []string{"a", "b", "a"}, "a: b: a: host"},
	{"empty locations", fault.At("", fault.Of("", api.ErrNone)), api.ErrNone, []string{"", ""}, ": : none"},
	{"location with a colon", fault.At("a: b", fault.Of("c", api.ErrAuth)), api.ErrAuth, []string{"a: b", "c"}, "a: b: c: auth"},
	{"unknown number in a location", fault.Of("a", 15), 15, []string{"a"}, "a: unknown"},
	{"number below 0 in a location", fault.Of("a", -1), -1, []string{"a"}, "a: unknown"},
	{"nothing wrapped", &fault.Fault{Where: "a"}, api.ErrRule, []string{"a"}, "a"},
	{"zero Fault", &fault.Fault{}, api.ErrRule, []string{""}, ""},
	{"nothing wrapped, within", fault.At("a", &fault.Fault{Where: "b"}), api.ErrRule, []string{"a", "b"}, "a: b"},
	{"without a number", io.EOF, api.ErrRule, nil, ""},
	{"without a number, within", fault.At("a", fault.At("b", io.EOF)), api.ErrRule, []string{"a", "b"}, "a: b"},
	{"nil Fault", missing, api.ErrRule, nil, ""},
	{"nil Fault, within", fault.At("a", missing), api.ErrRule, []string{"a"}, "a: "},
	{"wrapped from outside", fmt.Errorf("x %w", fault.Of("a", api.ErrLine)), api.ErrLine, []string{"a"}, ""},
	{"number wrapped from outside", fmt.Errorf("x %w", api.ErrLine), api.ErrLine, nil, ""},
	{"wrapped from outside, within", fault.At("b", fmt.Errorf("x %w", fault.Of("a", api.ErrLine))), api.ErrLine, []string{"b", "a"}, "b: a: line"},
	{"number wrapped from outside, within", fault.At("b", fmt.Errorf("x %w", api.ErrLine)), api.ErrLine, []string{"b"}, "b: line"},
	{"joined", fault.At("a", errors.Join(io.EOF, fault.Of("b", api.ErrRange))), api.ErrRange, []string{"a", "b"}, "a: b: range"},
	{"list from outside", fault.At("a", listErr{io.EOF, api.ErrArg}), api.ErrArg, []string{"a"}, "a: arg"},
	{"methods that panic", (*nilErr)(nil), api.ErrRule, nil, ""},
	{"methods that panic, within", fault.At("a", (*nilErr)(nil)), api.ErrRule, []string{"a"}, "a"},
}

// 5.1: no error, and OK, are nothing that could be wrapped.
func TestOfNothing(t *testing.T) {
	if err := fault.At("a", nil); err != nil {
		t.Errorf("At of nil: %v", err)
	}
	if err := fault.Of("a", api.OK); err != nil {
		t.Errorf("Of of OK: %v", err)
	}
	if err := fault.At("a", fault.At("b", fault.Of("c", api.OK))); err != nil {
		t.Errorf("At of At of Of of OK: %v", err)
	}
	if e := fault.Code(nil); e != api.OK {
		t.Errorf("Code of nil: %v", e)
	}
	if p := fault.Path(nil); len(p) != 0 {
		t.Errorf("Path of nil: %q", p)
	}
	if n := fault.Reason(nil); n != 0 {
		t.Errorf("Reason of nil: %d", n)
	}
}

// 5.1: At and Of make Faults whose parts are what they were given.
func TestAtAndOf(t *testing.T) {
	for name, err := range map[string]error{"At": fault.At("a", io.EOF), "Of": fault.Of("a", api.ErrSeal)} {
		want := io.EOF
		if name == "Of" {
			want = api.ErrSeal
		}
		f, is := err.(*fault.Fault)
		if !is || f.Where != "a" || f.Err != want || f.Unwrap() != want {
			t.Errorf("%s: %#v", name, err)
		}
	}
	inner := fault.Of("b", api.ErrForm)
	if outer := fault.At("a", inner); errors.Unwrap(outer) != inner {
		t.Errorf("At of a Fault: %#v", outer)
	}
}

// 5.1: the number inside all locations, and the locations.
func TestCodeAndPath(t *testing.T) {
	for _, c := range cases {
		if e := fault.Code(c.err); e != c.code {
			t.Errorf("%s: Code %d, not %d", c.name, e, c.code)
		}
		if p := fault.Path(c.err); !slices.Equal(p, c.path) {
			t.Errorf("%s: Path %q, not %q", c.name, p, c.path)
		}
	}
}

// 5.1: what is asked of one answer does not show in the next one.
func TestPathIsNew(t *testing.T) {
	err := fault.At("a", fault.Of("b", api.ErrForm))
	fault.Path(err)[1] = "x"
	if p := fault.Path(err); !slices.Equal(p, []string{"a", "b"}) {
		t.Errorf("Path: %q", p)
	}
}

// 5.1: an error is the number that it has, and no other one; it is OK only if it is nil.
func TestIs(t *testing.T) {
	for _, c := range cases {
		for e := api.Errno(-8); e <= 16; e++ {
			want := e == c.code && e != api.OK && !lacksNumber(c.err)
			if got := fault.Is(c.err, e); got != want {
				t.Errorf("%s: Is %d: %v", c.name, e, got)
			}
		}
	}
	for e := api.Errno(-1); e <= 16; e++ {
		if got := fault.Is(nil, e); got != (e == api.OK) {
			t.Errorf("nil: Is %d: %v", e, got)
		}
	}
	if !fault.Is(fault.Of("a", api.ErrRule), api.ErrRule) {
		t.Errorf("ErrRule, within: not ErrRule")
	}
	two := fault.At("a", errors.Join(api.ErrForm, fault.Of("b", api.ErrSeal)))
	if !fault.Is(two, api.ErrForm) || !fault.Is(two, api.ErrSeal) || fault.Is(two, api.ErrRule) {
		t.Errorf("two numbers: not both, or another one")
	}
}

// lacksNumber tells the errors whose code is ErrRule for want of a number.
func lacksNumber(err error) bool {
	return fault.Code(err) == api.ErrRule
}

// 5.2: the text of a Fault.
func TestError(t *testing.T) {
	for _, c := range cases {
		f, is := c.err.(*fault.Fault)
		if !is {
			continue
		}
		if got := f.Error(); got != c.text {
			t.Errorf("%s: %q, not %q", c.name, got, c.text)
		}
	}
	err := fault.At("kexinit", fault.Of("list", api.ErrForm))
	if err.Error() != "kexinit: list: form" || fault.Reason(err) != 2 {
		t.Errorf("the chapter's example: %q, %d", err, fault.Reason(err))
	}
}

// 5.2: each number's name is told.
func TestErrorOfEachNumber(t *testing.T) {
	for e := api.Errno(-1); e <= 16; e++ {
		if err := (&fault.Fault{Where: "at", Err: e}); err.Error() != "at: "+e.Error() {
			t.Errorf("%d: %q", e, err.Error())
		}
	}
}

// 5.2: what a Fault wraps.
func TestUnwrap(t *testing.T) {
	if err := missing.Unwrap(); err != nil {
		t.Errorf("nil Fault: %v", err)
	}
	if err := (&fault.Fault{Where: "a"}).Unwrap(); err != nil {
		t.Errorf("nothing wrapped: %v", err)
	}
	in := fault.Of("b", api.ErrForm)
	if got := (&fault.Fault{Where: "a", Err: in}).Unwrap(); got != in {
		t.Errorf("a Fault: %v", got)
	}
	var f *fault.Fault
	if err := fmt.Errorf("x %w", in); !errors.As(err, &f) || f != in || !errors.Is(err, api.ErrForm) {
		t.Errorf("a Fault is not found: %v", f)
	}
}

// The numbers that have reasons of their own; all others have 11.
var reasons = map[api.Errno]int{
	api.OK: 0, api.ErrArg: 2, api.ErrLong: 2, api.ErrForm: 2, api.ErrShort: 2, api.ErrRange: 3,
	api.ErrNone: 2, api.ErrOrder: 2, api.ErrSeal: 5, api.ErrHost: 9, api.ErrAlg: 3, api.ErrLine: 8,
	api.ErrAuth: 14, api.ErrService: 7, api.ErrRule: 2,
}

// 5.2: the reasons of all numbers, and of errors, which are those of their numbers.
func TestReason(t *testing.T) {
	for e := api.Errno(-300); e <= 300; e++ {
		want, is := reasons[e]
		if !is {
			want = 11
		}
		if got := fault.ReasonOf(e); got != want {
			t.Errorf("ReasonOf %d: %d, not %d", e, got, want)
		}
		if got := fault.Reason(e); got != want {
			t.Errorf("Reason of %d: %d, not %d", e, got, want)
		}
	}
	for _, c := range cases {
		if got, want := fault.Reason(c.err), fault.ReasonOf(c.code); got != want {
			t.Errorf("%s: %d, not %d", c.name, got, want)
		}
	}
	for _, e := range []api.Errno{1<<31 - 1, -1 << 31, -1, 15, 255, 256} {
		if got := fault.ReasonOf(e); got != 11 {
			t.Errorf("ReasonOf %d: %d", e, got)
		}
	}
}

// 5.3: a location more changes neither number nor reason, and stands in front.
func TestWrappingChangesNoNumber(t *testing.T) {
	for _, c := range cases {
		err := fault.At("out", c.err)
		if fault.Code(err) != c.code || fault.Reason(err) != fault.Reason(c.err) {
			t.Errorf("%s: %d and %d, not %d and %d", c.name, fault.Code(err), fault.Reason(err), c.code, fault.Reason(c.err))
		}
		if p := fault.Path(err); !slices.Equal(p, append([]string{"out"}, c.path...)) {
			t.Errorf("%s: Path %q", c.name, p)
		}
		for e := api.Errno(1); e <= 15; e++ {
			if fault.Is(err, e) != fault.Is(c.err, e) {
				t.Errorf("%s: Is %v: %v", c.name, e, fault.Is(err, e))
			}
		}
	}
}

// R1: as many locations as there may be, within the time of one pass through them.
func TestManyLocations(t *testing.T) {
	const many = 1 << 16
	where := strings.Repeat("x", 100)
	err := error(api.ErrSeal)
	for range many {
		err = fault.At(where, err)
	}
	if n := len(fault.Path(err)); n != many || fault.Code(err) != api.ErrSeal || !fault.Is(err, api.ErrSeal) || fault.Reason(err) != 5 {
		t.Errorf("%d locations, %v", n, fault.Code(err))
	}
	if got, want := err.Error(), strings.Repeat(where+": ", many)+"seal"; got != want {
		t.Errorf("%d bytes, not %d", len(got), len(want))
	}
}
