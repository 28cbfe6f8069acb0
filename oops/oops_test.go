package oops_test

import (
	"errors"
	"slices"
	"strconv"
	"strings"
	"testing"

	"taproot/api"
	"taproot/oops"
)

// other is an error of another package that wraps one.
type other struct{ err error }

func (o other) Error() string { return "other" }
func (o other) Unwrap() error { return o.err }

// posing is an error that is not of the types that are looked for, but says
// that it can be taken for one of them.
type posing struct{}

func (posing) Error() string { return "posing" }
func (posing) As(target any) bool {
	switch target := target.(type) {
	case *api.Errno:
		*target = api.ErrDown
	case **oops.Place:
		*target = &oops.Place{At: 12}
	case **oops.Which:
		*target = &oops.Which{Hash: api.Hash{12}}
	default:
		return false
	}
	return true
}

// failing is an error whose methods panic.
type failing struct{}

func (failing) Error() string { panic("Error") }
func (failing) Unwrap() error { panic("Unwrap") }

// scared is an error whose method As panics.
type scared struct{ err error }

func (s scared) Error() string { return "scared" }
func (s scared) Unwrap() error { return s.err }
func (s scared) As(any) bool   { panic("As") }

// hollow is an error that says that it can be taken for anything, and gives
// nothing.
type hollow struct{ err error }

func (h hollow) Error() string { return "hollow" }
func (h hollow) Unwrap() error { return h.err }
func (h hollow) As(any) bool   { return true }

// fine is an error that says that it can be taken for api.OK.
type fine struct{ err error }

func (f fine) Error() string { return "fine" }
func (f fine) Unwrap() error { return f.err }
func (f fine) As(target any) bool {
	kind, ok := target.(*api.Errno)
	if ok {
		*kind = api.OK
	}
	return ok
}

// pair is an error that wraps two, and lists them anew for each call.
type pair struct{ first, second error }

func (p *pair) Error() string   { return "pair" }
func (p *pair) Unwrap() []error { return []error{p.first, p.second} }

// both is a pair that is a value.
type both struct{ first, second error }

func (b both) Error() string   { return "both" }
func (b both) Unwrap() []error { return []error{b.first, b.second} }

// noted is a pair that is a value and cannot be compared.
type noted struct {
	both
	notes []string
}

// torn is an error that wraps several, of which some are nil, and cannot be
// compared.
type torn []error

func (t torn) Error() string   { return "torn" }
func (t torn) Unwrap() []error { return t }

// refusing is an error that gives something, but says that it cannot be taken
// for anything.
type refusing struct{}

func (refusing) Error() string { return "refusing" }
func (refusing) As(target any) bool {
	posing{}.As(target)
	return false
}

// endless is an error without an end.
type endless struct{}

func (endless) Error() string { return "endless" }
func (endless) Unwrap() error { return endless{} }

// forking is an error without an end that wraps two of its kind.
type forking struct{}

func (forking) Error() string   { return "forking" }
func (forking) Unwrap() []error { return []error{forking{}, forking{}} }

// rising is an error without an end that wraps a greater one.
type rising int

func (r rising) Error() string { return "rising" }
func (r rising) Unwrap() error { return r + 1 }

// spreading is an error without an end that wraps two new ones.
type spreading struct{ size int }

func (s *spreading) Error() string { return "spreading" }
func (s *spreading) Unwrap() []error {
	return []error{&spreading{s.size + 1}, &spreading{s.size + 1}}
}

// asked is an error that counts how often it is asked for the one it wraps.
type asked struct {
	times *int
	err   error
}

func (a asked) Error() string { return "asked" }
func (a asked) Unwrap() error {
	*a.times++
	return a.err
}

// nested returns e in n layers of Steps.
func nested(n int, e error) error {
	for range n {
		e = oops.Wrap("layer", e)
	}
	return e
}

// rings returns errors of the types of this package that contain themselves.
func rings() []error {
	s, p, w := &oops.Step{Name: "ring"}, &oops.Place{At: 4}, &oops.Which{}
	s.Err, p.Err, w.Err = s, other{p}, errors.Join(w, w)
	r, q := &oops.Step{Name: "r"}, &oops.Place{At: 5}
	r.Err, q.Err = q, errors.Join(api.ErrSum, r)
	return []error{s, p, w, r, q, oops.Wrap("onto a ring", s)}
}

// TestExample: the example of chapter 3.
func TestExample(t *testing.T) {
	if got := oops.Kind(oops.Wrap("a", oops.At(3, api.ErrParse))); got != api.ErrParse {
		t.Errorf("got %d", got)
	}
}

// TestWrapsOfNil: 3.1, no error is wrapped in none.
func TestWrapsOfNil(t *testing.T) {
	if e := oops.Wrap("a", nil); e != nil {
		t.Errorf("Wrap: %#v", e)
	}
	if e := oops.At(3, nil); e != nil {
		t.Errorf("At: %#v", e)
	}
	if e := oops.Of(api.Hash{1}, nil); e != nil {
		t.Errorf("Of: %#v", e)
	}
}

// TestWraps: 3.1, each wrapper is of its type, with what it was given.
func TestWraps(t *testing.T) {
	inner := errors.New("inner")
	for _, e := range []error{inner, api.OK, api.ErrFetch, oops.Wrap("a", inner), other{}, (*oops.Step)(nil)} {
		for _, name := range []string{"", "a", "two words"} {
			if s, ok := oops.Wrap(name, e).(*oops.Step); !ok || s.Name != name || s.Err != e || s.Unwrap() != e {
				t.Errorf("Wrap(%q, %#v): %#v", name, e, s)
			}
		}
		for _, at := range []int{-1, 0, 7} {
			if p, ok := oops.At(at, e).(*oops.Place); !ok || p.At != at || p.Err != e || p.Unwrap() != e {
				t.Errorf("At(%d, %#v): %#v", at, e, p)
			}
		}
		for _, h := range []api.Hash{{}, {1}, {31: 255}} {
			if w, ok := oops.Of(h, e).(*oops.Which); !ok || w.Hash != h || w.Err != e || w.Unwrap() != e {
				t.Errorf("Of(%x, %#v): %#v", h, e, w)
			}
		}
	}
}

// TestIsAndAs: 3.1, errors.Is and errors.As see through the wrappers.
func TestIsAndAs(t *testing.T) {
	inner := errors.New("inner")
	e := oops.Wrap("a", oops.At(1, oops.Of(api.Hash{2}, inner)))
	if !errors.Is(e, inner) || errors.Is(e, api.ErrArg) || errors.Is(e, errors.New("inner")) {
		t.Error("errors.Is")
	}
	var s *oops.Step
	var p *oops.Place
	var w *oops.Which
	if !errors.As(e, &s) || s.Name != "a" || !errors.As(e, &p) || p.At != 1 || !errors.As(e, &w) || w.Hash != (api.Hash{2}) {
		t.Error("errors.As")
	}
	if errors.As(oops.At(1, inner), &s) || errors.As(oops.Wrap("a", inner), &w) || errors.As(oops.Of(api.Hash{}, inner), &p) {
		t.Error("errors.As finds a wrapper of another type")
	}
}

// TestKind: 3.1 and 3.2, OK for nil, the first Errno in the chain, ErrArg if
// there is none.
func TestKind(t *testing.T) {
	kind := api.ErrSum
	for _, c := range []struct {
		name string
		e    error
		want api.Errno
	}{
		{"nil", nil, api.OK},
		{"OK as an error", api.OK, api.OK},
		{"OK in a Step", oops.Wrap("a", api.OK), api.OK},
		{"another error", errors.New("x"), api.ErrArg},
		{"another error in wrappers", oops.Wrap("a", oops.At(2, oops.Of(api.Hash{}, errors.New("x")))), api.ErrArg},
		{"a Step of nil", &oops.Step{Name: "a"}, api.ErrArg},
		{"a Place of nil", &oops.Place{At: 1}, api.ErrArg},
		{"a Which of nil", &oops.Which{}, api.ErrArg},
		{"another wrapper", other{oops.At(2, api.ErrFull)}, api.ErrFull},
		{"another wrapper of nil", other{}, api.ErrArg},
		{"a pointer to a kind", &kind, api.ErrArg},
		{"a kind without a name", oops.At(2, api.Errno(-7)), api.Errno(-7)},
		{"the first of two", errors.Join(oops.Wrap("a", api.ErrCycle), api.ErrArg), api.ErrCycle},
		{"the second of two", errors.Join(oops.Wrap("a", errors.New("x")), oops.Of(api.Hash{}, api.ErrState)), api.ErrState},
		{"none of two", errors.Join(errors.New("x"), errors.New("y")), api.ErrArg},
		{"one that is taken for a kind", oops.Wrap("a", posing{}), api.ErrDown},
		{"one that is taken for OK", fine{}, api.OK},
		{"one that is taken for OK and wraps another kind", fine{api.ErrForm}, api.OK},
		{"one that is taken for OK in a Step", oops.Wrap("a", fine{api.ErrForm}), api.OK},
		{"one that is taken for OK behind a kind", errors.Join(api.ErrForm, fine{}), api.ErrForm},
		{"one that says so and gives none", hollow{api.ErrForm}, api.OK},
		{"one that gives a kind but does not say so", errors.Join(refusing{}, api.ErrForm), api.ErrForm},
		{"1000 layers", nested(1000, api.ErrMaster), api.ErrMaster},
		{"65536 layers", nested(1<<16, api.ErrMaster), api.ErrMaster},
	} {
		if got := oops.Kind(c.e); got != c.want {
			t.Errorf("%s: got %d, want %d", c.name, got, c.want)
		}
	}
}

// TestKindOfEach: 3.2, each wrapper leaves each kind as it is.
func TestKindOfEach(t *testing.T) {
	for kind := api.ErrArg; kind <= api.ErrMaster; kind++ {
		for _, e := range []error{kind, oops.Wrap("a", kind), oops.At(1, kind), oops.Of(api.Hash{1}, kind), oops.At(0, oops.Wrap("", kind))} {
			if got := oops.Kind(e); got != kind || !errors.Is(e, kind) {
				t.Errorf("%#v: got %d, want %d", e, got, kind)
			}
		}
	}
}

// TestSteps: 3.1, the Names of all Steps, the outermost one first.
func TestSteps(t *testing.T) {
	a, b := oops.Wrap("a", api.ErrArg), oops.Wrap("b", oops.Wrap("c", api.ErrArg))
	for _, c := range []struct {
		name string
		e    error
		want []string
	}{
		{"nil", nil, nil},
		{"a kind", api.ErrArg, nil},
		{"other wrappers", oops.At(1, oops.Of(api.Hash{}, other{api.ErrArg})), nil},
		{"one", a, []string{"a"}},
		{"two", b, []string{"b", "c"}},
		{"an empty name", oops.Wrap("", a), []string{"", "a"}},
		{"the same name twice", oops.Wrap("a", a), []string{"a", "a"}},
		{"behind other wrappers", oops.At(1, oops.Wrap("d", other{oops.Of(api.Hash{}, b)})), []string{"d", "b", "c"}},
		{"of nil", &oops.Step{Name: "e"}, []string{"e"}},
		{"joined", oops.Wrap("d", errors.Join(a, errors.New("x"), b)), []string{"d", "a", "b", "c"}},
		{"the same Step joined with itself", errors.Join(b, a, oops.At(1, b), other{a}), []string{"b", "c", "a"}},
		{"Steps of one name joined", errors.Join(a, oops.Wrap("a", api.ErrArg)), []string{"a", "a"}},
	} {
		if got := oops.Steps(c.e); !slices.Equal(got, c.want) {
			t.Errorf("%s: got %q, want %q", c.name, got, c.want)
		}
	}
	if got := oops.Steps(nested(1<<16, api.ErrArg)); len(got) != 1<<16 {
		t.Errorf("65536 layers: got %d", len(got))
	}
}

// TestStepsMemory: R2, each result of Steps is new memory.
func TestStepsMemory(t *testing.T) {
	e := oops.Wrap("a", oops.Wrap("b", api.ErrArg))
	clear(oops.Steps(e))
	if got := oops.Steps(e); !slices.Equal(got, []string{"a", "b"}) {
		t.Errorf("got %q", got)
	}
}

// TestWhere: 3.1, the first Place in the chain, or none.
func TestWhere(t *testing.T) {
	for _, c := range []struct {
		name string
		e    error
		at   int
		ok   bool
	}{
		{"nil", nil, 0, false},
		{"a kind", api.ErrParse, 0, false},
		{"other wrappers", oops.Wrap("a", oops.Of(api.Hash{1}, api.ErrArg)), 0, false},
		{"at 0", oops.At(0, api.ErrParse), 0, true},
		{"negative", oops.At(-4, api.ErrParse), -4, true},
		{"the outer one", oops.At(9, oops.At(2, api.ErrParse)), 9, true},
		{"behind other wrappers", oops.Wrap("a", other{oops.Of(api.Hash{1}, oops.At(3, api.ErrArg))}), 3, true},
		{"of nil", &oops.Place{At: 5}, 5, true},
		{"the second of two", errors.Join(api.ErrArg, oops.At(6, api.ErrArg)), 6, true},
		{"one that is taken for a Place", posing{}, 12, true},
		{"65536 layers", nested(1<<16-1, oops.At(8, api.ErrArg)), 8, true},
	} {
		if at, ok := oops.Where(c.e); at != c.at || ok != c.ok {
			t.Errorf("%s: got %d, %t, want %d, %t", c.name, at, ok, c.at, c.ok)
		}
	}
}

// TestWhose: 3.1, the first Which in the chain, or none.
func TestWhose(t *testing.T) {
	for _, c := range []struct {
		name string
		e    error
		h    api.Hash
		ok   bool
	}{
		{"nil", nil, api.Hash{}, false},
		{"a kind", api.ErrUnknown, api.Hash{}, false},
		{"other wrappers", oops.Wrap("a", oops.At(1, api.ErrArg)), api.Hash{}, false},
		{"the hash of zeros", oops.Of(api.Hash{}, api.ErrArg), api.Hash{}, true},
		{"the last byte", oops.Of(api.Hash{31: 1}, api.ErrArg), api.Hash{31: 1}, true},
		{"the outer one", oops.Of(api.Hash{9}, oops.Of(api.Hash{2}, api.ErrArg)), api.Hash{9}, true},
		{"behind other wrappers", oops.Wrap("a", other{oops.At(1, oops.Of(api.Hash{3}, api.ErrArg))}), api.Hash{3}, true},
		{"of nil", &oops.Which{Hash: api.Hash{5}}, api.Hash{5}, true},
		{"the second of two", errors.Join(api.ErrArg, oops.Of(api.Hash{6}, api.ErrArg)), api.Hash{6}, true},
		{"one that is taken for a Which", posing{}, api.Hash{12}, true},
		{"65536 layers", nested(1<<16-1, oops.Of(api.Hash{8}, api.ErrArg)), api.Hash{8}, true},
	} {
		if h, ok := oops.Whose(c.e); h != c.h || ok != c.ok {
			t.Errorf("%s: got %x, %t, want %x, %t", c.name, h, ok, c.h, c.ok)
		}
	}
}

// TestErrorEnds: 3.1, each text exists and is not empty, whatever is wrapped.
func TestErrorEnds(t *testing.T) {
	errs := rings()
	for _, e := range []error{nil, api.OK, api.Errno(-1), api.ErrParse, api.Errno(99), errors.New(""), other{}, failing{}, endless{}, posing{}, (*oops.Step)(nil), (*oops.Which)(nil), nested(1<<16, api.ErrArg), nested(1<<18, api.ErrArg)} {
		errs = append(errs, &oops.Step{Err: e}, &oops.Step{Name: "a", Err: e}, &oops.Place{Err: e}, &oops.Place{At: -1, Err: e}, &oops.Which{Err: e})
	}
	for _, e := range errs {
		if e.Error() == "" {
			t.Errorf("no text: %T", e)
		}
	}
}

// TestErrorTells: the texts tell the layer, and the kind of the error. 3.1
// leaves them open.
func TestErrorTells(t *testing.T) {
	for _, c := range []struct {
		e    error
		want []string
	}{
		{oops.Wrap("adding", api.ErrCycle), []string{"adding", "cycle"}},
		{oops.At(17, oops.Wrap("a", api.ErrParse)), []string{"17", "parse"}},
		{oops.Of(api.Hash{0x0f, 0xa0}, api.ErrParent), []string{"0fa0", "parent"}},
	} {
		for _, want := range c.want {
			if got := c.e.Error(); !strings.Contains(got, want) {
				t.Errorf("%q does not contain %q", got, want)
			}
		}
	}
}

// unfollowed returns errors that cannot be followed, or not to an end, and in
// which there is nothing to be found.
func unfollowed() []error {
	var s *oops.Step
	var p *oops.Place
	var w *oops.Which
	return []error{failing{}, endless{}, forking{}, rising(0), &spreading{}, scared{}, refusing{}, torn{nil, torn{}, failing{}}, other{failing{}}, errors.Join(endless{}, endless{}), s, p, w, (*other)(nil), (*torn)(nil)}
}

// TestNothingFound: R1 and R3, no call panics, and each ends, for errors that
// cannot be followed; they are none of those that are looked for.
func TestNothingFound(t *testing.T) {
	for _, e := range unfollowed() {
		for _, e := range []error{e, errors.Join(other{e}, e)} {
			if got := oops.Kind(e); got != api.ErrArg {
				t.Errorf("Kind of %T: %d", e, got)
			}
			if got := oops.Steps(e); len(got) != 0 {
				t.Errorf("Steps of %T: %q", e, got)
			}
			if at, ok := oops.Where(e); at != 0 || ok {
				t.Errorf("Where of %T: %d, %t", e, at, ok)
			}
			if h, ok := oops.Whose(e); h != (api.Hash{}) || ok {
				t.Errorf("Whose of %T: %x, %t", e, h, ok)
			}
		}
	}
}

// TestFirstOnes: 3.1, the first one in the chain is told, whatever is behind
// it.
func TestFirstOnes(t *testing.T) {
	for _, behind := range append(unfollowed(), rings()...) {
		for _, c := range []struct {
			name string
			wrap func(e error) error
		}{
			{"outermost", func(e error) error { return e }},
			{"in a Step", func(e error) error { return oops.Wrap("a", e) }},
			{"in another wrapper", func(e error) error { return other{e} }},
			{"joined", func(e error) error { return errors.Join(errors.New("x"), e, behind) }},
		} {
			if at, ok := oops.Where(c.wrap(oops.At(4, behind))); at != 4 || !ok {
				t.Errorf("Where, %s, ahead of %T: %d, %t", c.name, behind, at, ok)
			}
			if h, ok := oops.Whose(c.wrap(oops.Of(api.Hash{4}, behind))); h != (api.Hash{4}) || !ok {
				t.Errorf("Whose, %s, ahead of %T: %x, %t", c.name, behind, h, ok)
			}
			if kind := oops.Kind(c.wrap(errors.Join(api.ErrSum, behind))); kind != api.ErrSum {
				t.Errorf("Kind, %s, ahead of %T: %d", c.name, behind, kind)
			}
		}
	}
}

// TestNotAsked: 3.1, as errors.As does, no call asks an error that is behind
// the one that it tells.
func TestNotAsked(t *testing.T) {
	times := 0
	a := asked{&times, api.ErrArg}
	oops.Where(oops.At(4, a))
	oops.Whose(oops.Of(api.Hash{4}, a))
	oops.Kind(errors.Join(api.ErrSum, a))
	if times != 0 {
		t.Errorf("asked %d times", times)
	}
	if oops.Kind(a); times != 1 {
		t.Errorf("Kind asked %d times", times)
	}
}

// TestStepsAhead: 3.1, the Steps are told as far as the chain can be followed.
func TestStepsAhead(t *testing.T) {
	for _, c := range []struct {
		e    error
		want []string
	}{
		{oops.Wrap("a", failing{}), []string{"a"}},
		{oops.Wrap("a", other{oops.Wrap("b", oops.At(1, failing{}))}), []string{"a", "b"}},
		{oops.Wrap("a", scared{oops.Wrap("b", failing{})}), []string{"a", "b"}},
		{oops.Wrap("a", hollow{oops.Wrap("b", api.ErrArg)}), []string{"a", "b"}},
		{oops.Wrap("a", endless{}), []string{"a"}},
		{oops.Wrap("a", forking{}), []string{"a"}},
		{oops.Wrap("a", (*oops.Step)(nil)), []string{"a"}},
		{oops.Wrap("a", torn{nil, failing{}, oops.Wrap("b", nil), oops.Wrap("c", api.ErrArg)}), []string{"a", "c"}},
	} {
		if got := oops.Steps(c.e); !slices.Equal(got, c.want) {
			t.Errorf("%#v: got %q, want %q", c.e, got, c.want)
		}
	}
}

// TestHollow: R1 and R3, an error that says that it can be taken for a Place or
// a Which, but gives none, is none, and no Step either.
func TestHollow(t *testing.T) {
	for _, e := range []error{hollow{}, oops.Wrap("a", hollow{}), errors.Join(hollow{}, other{hollow{api.ErrSum}})} {
		if at, ok := oops.Where(e); at != 0 || ok {
			t.Errorf("Where of %T: %d, %t", e, at, ok)
		}
		if h, ok := oops.Whose(e); h != (api.Hash{}) || ok {
			t.Errorf("Whose of %T: %x, %t", e, h, ok)
		}
	}
	if got := oops.Steps(hollow{}); len(got) != 0 {
		t.Errorf("Steps: %q", got)
	}
}

// TestPassedOver: R1 and 3.1, an error that panics when it is asked, or that is
// nil or gives nil, is none: the first one is behind it, or beside it.
func TestPassedOver(t *testing.T) {
	for _, c := range []struct {
		name string
		// kind is what Kind tells if api.ErrSum is wrapped.
		kind api.Errno
		wrap func(e error) error
	}{
		{"behind one that gives none", api.OK, func(e error) error { return hollow{e} }},
		{"beside one that gives none", api.OK, func(e error) error { return errors.Join(hollow{}, e) }},
		{"behind one whose As panics", api.ErrSum, func(e error) error { return scared{e} }},
		{"beside one whose Unwrap panics", api.ErrSum, func(e error) error { return errors.Join(other{failing{}}, e) }},
		{"beside one that refuses", api.ErrSum, func(e error) error { return errors.Join(refusing{}, e) }},
		{"beside nil", api.ErrSum, func(e error) error { return torn{nil, e, nil} }},
		{"beside nil pointers", api.ErrSum, func(e error) error { return torn{(*oops.Step)(nil), (*oops.Place)(nil), (*oops.Which)(nil), e} }},
		{"in several that panic", api.ErrSum, func(e error) error { return torn{scared{}, failing{}, scared{scared{e}}} }},
		{"in several", api.OK, func(e error) error { return torn{scared{}, failing{}, scared{hollow{e}}} }},
	} {
		if at, ok := oops.Where(c.wrap(oops.At(4, api.ErrArg))); at != 4 || !ok {
			t.Errorf("Where, %s: %d, %t", c.name, at, ok)
		}
		if h, ok := oops.Whose(c.wrap(oops.Of(api.Hash{4}, api.ErrArg))); h != (api.Hash{4}) || !ok {
			t.Errorf("Whose, %s: %x, %t", c.name, h, ok)
		}
		if kind := oops.Kind(c.wrap(api.ErrSum)); kind != c.kind {
			t.Errorf("Kind, %s: %d", c.name, kind)
		}
	}
}

// TestAsErrorsAs: 3.1, Kind tells what errors.As finds, and Where and Whose do
// so too, in chains of any shape that end.
func TestAsErrorsAs(t *testing.T) {
	state := uint32(1)
	roll := func(n int) int {
		state = state*1664525 + 1013904223
		return int(state>>16) % n
	}
	made := []error{errors.New("x"), torn{}, posing{}, refusing{}}
	pick := func() error { return made[len(made)-1-roll(min(len(made), 12))] }
	for i := range 3000 {
		made = append(made, []error{
			errors.New("x"), api.Errno(i % 20), &oops.Place{At: i}, &oops.Which{Hash: api.Hash{byte(i), byte(i >> 8)}}, refusing{}, posing{},
			other{pick()}, fine{pick()}, oops.Wrap("a", pick()), oops.At(i, pick()), oops.Of(api.Hash{byte(i), byte(i >> 8)}, pick()),
			errors.Join(pick(), pick()), &pair{pick(), pick()}, torn{pick(), nil, pick(), pick()},
		}[roll(14)])
		e := made[len(made)-1]
		kind, ok := errors.AsType[api.Errno](e)
		if !ok {
			kind = api.ErrArg
		}
		if got := oops.Kind(e); got != kind {
			t.Errorf("chain %d: Kind: %d, want %d", i, got, kind)
		}
		p, ok := errors.AsType[*oops.Place](e)
		if !ok {
			p = &oops.Place{}
		}
		if got, is := oops.Where(e); got != p.At || is != ok {
			t.Errorf("chain %d: Where: %d, %t, want %d, %t", i, got, is, p.At, ok)
		}
		w, ok := errors.AsType[*oops.Which](e)
		if !ok {
			w = &oops.Which{}
		}
		if got, is := oops.Whose(e); got != w.Hash || is != ok {
			t.Errorf("chain %d: Whose: %x, %t, want %x, %t", i, got, is, w.Hash, ok)
		}
	}
}

// checkBehind reports an error unless the calls tell what is behind ahead.
func checkBehind(t *testing.T, name string, ahead error) {
	t.Helper()
	e := errors.Join(ahead, oops.At(3, oops.Of(api.Hash{4}, oops.Wrap("behind", api.ErrParse))))
	if at, ok := oops.Where(e); at != 3 || !ok {
		t.Errorf("%s: Where: %d, %t", name, at, ok)
	}
	if h, ok := oops.Whose(e); h != (api.Hash{4}) || !ok {
		t.Errorf("%s: Whose: %x, %t", name, h, ok)
	}
	if kind := oops.Kind(e); kind != api.ErrParse {
		t.Errorf("%s: Kind: %d", name, kind)
	}
	if got := oops.Steps(e); len(got) == 0 || got[len(got)-1] != "behind" {
		t.Errorf("%s: Steps: %d", name, len(got))
	}
}

// wrapped returns an error that is wrapped n times.
func wrapped(n int, wrap func(e error) error) error {
	e := errors.New("x")
	for range n {
		e = wrap(e)
	}
	return e
}

// TestBehindMany: 3.1, the first one is told, however many paths lead to errors
// ahead of it.
func TestBehindMany(t *testing.T) {
	for _, c := range []struct {
		name string
		most int
		wrap func(e error) error
	}{
		{"joined", 1<<16 - 10, func(e error) error { return errors.Join(e, e) }},
		{"joined in wrappers", 64, func(e error) error { return other{errors.Join(other{e}, e)} }},
		{"joined in Places of nil", 1000, func(e error) error { return errors.Join(e, (*oops.Place)(nil), e) }},
		{"joined many times", 1000, func(e error) error { return torn{e, e, e, e, e, e, e, e, e} }},
		{"pairs", 64, func(e error) error { return &pair{e, e} }},
		{"values", 19, func(e error) error { return both{e, e} }},
		{"values that cannot be compared", 64, func(e error) error { return torn{e, e} }},
		{"values that cannot be known again", 19, func(e error) error { return noted{both{e, e}, nil} }},
	} {
		for _, n := range []int{1, 26, c.most} {
			if n <= c.most {
				checkBehind(t, c.name, wrapped(n, c.wrap))
			}
		}
	}
}

// TestBehindRows: 3.1, the first one is told if many errors lead to the same
// long row.
func TestBehindRows(t *testing.T) {
	many := func(row error) error {
		var ahead torn
		for range 10000 {
			ahead = append(ahead, other{row})
		}
		return ahead
	}
	checkBehind(t, "a row of Steps", many(nested(1<<16-10, errors.New("x"))))
	for _, wrap := range []func(e error) error{
		func(e error) error { return oops.At(1, e) },
		func(e error) error { return oops.Of(api.Hash{1}, e) },
	} {
		ahead := many(wrapped(1<<16-10, wrap))
		if kind := oops.Kind(errors.Join(ahead, api.ErrSum)); kind != api.ErrSum {
			t.Errorf("Kind: %d", kind)
		}
	}
	joined := wrapped(40, func(e error) error { return errors.Join(e, e) })
	deep := wrapped(1<<15, func(e error) error { return other{e} })
	checkBehind(t, "a row of values", errors.Join(joined, deep))
}

// TestBehindLists: 3.1, lists that begin at the same place are not the same.
func TestBehindLists(t *testing.T) {
	all := torn{errors.New("x"), errors.New("y"), oops.At(3, api.ErrArg)}
	ahead := wrapped(40, func(e error) error { return errors.Join(e, e) })
	if at, ok := oops.Where(torn{ahead, all[:2], all[:3]}); at != 3 || !ok {
		t.Errorf("got %d, %t", at, ok)
	}
}

// TestBehindRings: 3.1 and R1, the first one is told if a chain that leads back
// to itself, or has no end, is ahead of it.
func TestBehindRings(t *testing.T) {
	step, two, wide := &oops.Step{Name: "ring"}, &pair{}, make(torn, 3)
	step.Err = other{errors.Join(step, step)}
	two.first, two.second = two, other{two}
	for i := range wide {
		wide[i] = other{wide}
	}
	long := &oops.Step{Name: "long"}
	long.Err = nested(5000, long)
	for i, ring := range []error{step, two, wide, long, endless{}, forking{}, rising(0), torn{step, two, wide, long, rising(0), forking{}}} {
		checkBehind(t, "ring "+strconv.Itoa(i), ring)
	}
	// The rest of a chain can be as deep as any other one.
	step.Err = errors.Join(step, nested(1<<16-10, oops.At(3, api.ErrArg)))
	if at, ok := oops.Where(step); at != 3 || !ok {
		t.Errorf("behind a ring: %d, %t", at, ok)
	}
}

// TestNoEnd: R1, every call ends for errors that contain themselves. They tell
// what is found in them all the same.
func TestNoEnd(t *testing.T) {
	for i, want := range []struct {
		kind  api.Errno
		at    int
		place bool
		which bool
	}{
		{kind: api.ErrArg},
		{kind: api.ErrArg, at: 4, place: true},
		{kind: api.ErrArg, which: true},
		{kind: api.ErrSum, at: 5, place: true},
		{kind: api.ErrSum, at: 5, place: true},
		{kind: api.ErrArg},
	} {
		e := rings()[i]
		if got := oops.Kind(e); got != want.kind {
			t.Errorf("Kind of ring %d: %d", i, got)
		}
		if at, ok := oops.Where(e); at != want.at || ok != want.place {
			t.Errorf("Where of ring %d: %d, %t", i, at, ok)
		}
		if h, ok := oops.Whose(e); h != (api.Hash{}) || ok != want.which {
			t.Errorf("Whose of ring %d: %x, %t", i, h, ok)
		}
		oops.Steps(e)
	}
	if got := oops.Steps(rings()[5]); !slices.Equal(got, []string{"onto a ring", "ring"}) {
		t.Errorf("Steps: %d", len(got))
	}
}
