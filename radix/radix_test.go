package radix_test

import (
	"errors"
	"math"
	"slices"
	"strings"
	"testing"

	"taproot/api"
	"taproot/hex"
	"taproot/oops"
	"taproot/radix"
)

// of returns the hash that begins with these digits and goes on with zeros.
func of(digits string) api.Hash {
	h, e := hex.Parse(digits + strings.Repeat("0", 64-len(digits)))
	if e != nil {
		panic(digits)
	}
	return h
}

// expect reports an error unless e is of the kind, as both oops and errors
// tell it, without a Step, a Place or a commit.
func expect(t *testing.T, what string, e error, kind api.Errno) {
	t.Helper()
	if oops.Kind(e) != kind || (e == nil) != (kind == api.OK) || kind != api.OK && !errors.Is(e, kind) {
		t.Errorf("%s: %v, want %v", what, e, kind)
	}
	_, where := oops.Where(e)
	_, whose := oops.Whose(e)
	if len(oops.Steps(e)) > 0 || where || whose {
		t.Errorf("%s: %v is wrapped", what, e)
	}
}

// model is what a tree is to hold.
type model map[api.Hash]int

// all returns the hashes that begin with s, in ascending order.
func (m model) all(s string) []api.Hash {
	var l []api.Hash
	for h := range m {
		if hex.Begins(h, s) {
			l = append(l, h)
		}
	}
	return hex.Sort(l)
}

// grown returns a tree of the model, into which the hashes were put in
// ascending order.
func grown(m model) *radix.Tree {
	x := radix.New()
	for _, h := range m.all("") {
		x.Put(h, m[h])
	}
	return x
}

// numbered returns a model that maps each hash to its place in the list.
func numbered(list ...string) model {
	m := model{}
	for k, s := range list {
		m[of(s)] = k
	}
	return m
}

// few is a model whose hashes part at the first digit, at several ones in the
// middle, and at the last one.
func few() model {
	zeros, fs := strings.Repeat("0", 63), strings.Repeat("f", 63)
	return numbered("", zeros+"1", zeros+"f", fs+"f", fs+"e", "f", "7", "70000001", "7000000f",
		"7000000f"+strings.Repeat("a", 31)+"1", "7000000f"+strings.Repeat("a", 31)+"2", "8", "abc", "abd", "abcd", "ab")
}

// many returns a model of n hashes, which look as if they were chosen at
// random.
func many(n int) model {
	state, m := uint32(n), model{}
	for len(m) < n {
		var h api.Hash
		for k := range h {
			state = state*1664525 + 1013904223
			h[k] = byte(state >> 24)
		}
		m[h] = len(m)
	}
	return m
}

// holds reports an error unless the tree has exactly the hashes of the model.
func holds(t *testing.T, what string, x *radix.Tree, m model) {
	t.Helper()
	if x == nil {
		t.Errorf("%s: no tree", what)
		return
	}
	if x.Count() != len(m) {
		t.Errorf("%s: %d hashes, want %d", what, x.Count(), len(m))
	}
	if got := x.All("", math.MaxInt); !slices.Equal(got, m.all("")) {
		t.Errorf("%s: All tells %d hashes, which are not those of the model", what, len(got))
	}
	for h, want := range m {
		if n, ok := x.Get(h); n != want || !ok {
			t.Errorf("%s: Get of %s: %d, %t, want %d", what, hex.Text(h), n, ok, want)
		}
	}
}

// asked reports an error unless the tree says of a valid prefix what the model
// does.
func asked(t *testing.T, x *radix.Tree, m model, s string) {
	t.Helper()
	all := m.all(s)
	h, e := x.Prefix(s)
	switch len(all) {
	case 0:
		expect(t, "Prefix of "+s, e, api.ErrUnknown)
	case 1:
		expect(t, "Prefix of "+s, e, api.OK)
	default:
		expect(t, "Prefix of "+s, e, api.ErrAmbiguous)
	}
	if len(all) == 1 && h != all[0] || len(all) != 1 && h != (api.Hash{}) {
		t.Errorf("Prefix of %s: %s", s, hex.Text(h))
	}
	listed(t, x, s, all)
}

// listed reports an error unless All tells these hashes, whatever most is.
func listed(t *testing.T, x *radix.Tree, s string, all []api.Hash) {
	t.Helper()
	for _, most := range []int{math.MinInt, -1, 0, 1, 2, 3, len(all) - 1, len(all), len(all) + 1, math.MaxInt} {
		want := all[:max(0, min(most, len(all)))]
		if got := x.All(s, most); !slices.Equal(got, want) {
			t.Errorf("All of %q, at most %d: %d hashes, want %d of %d", s, most, len(got), len(want), len(all))
		}
	}
}

// beginnings returns the beginnings of the texts of the hashes, and texts that
// differ from these in the last digit.
func beginnings(m model) []string {
	var list []string
	for h := range m {
		for size := 1; size <= 64; size++ {
			s := hex.Text(h)[:size]
			for _, last := range []string{"0", "1", "7", "f"} {
				list = append(list, s[:size-1]+last)
			}
			list = append(list, s)
		}
	}
	slices.Sort(list)
	return slices.Compact(list)
}

// TestExample: the example of chapter 9.
func TestExample(t *testing.T) {
	x := grown(numbered("ab", "ac"))
	h, e := x.Prefix("a")
	expect(t, "Prefix of a", e, api.ErrAmbiguous)
	if h != (api.Hash{}) {
		t.Errorf("a hash beside the error: %s", hex.Text(h))
	}
}

// TestEmpty: 9.1, at first a tree has no hashes.
func TestEmpty(t *testing.T) {
	x := radix.New()
	holds(t, "New", x, model{})
	for _, s := range beginnings(numbered("", "abc")) {
		asked(t, x, model{}, s)
	}
	if n, ok := x.Get(api.Hash{}); n != 0 || ok {
		t.Errorf("Get: %d, %t", n, ok)
	}
}

// TestPut: 9.1, numbers are put and replaced, and negative ones are refused.
func TestPut(t *testing.T) {
	x, m := radix.New(), model{}
	for h := range few() {
		for _, n := range []int{-1, math.MinInt, 0, math.MaxInt, -2, 7, 7, 0, 1 << 40, len(m)} {
			if ok := x.Put(h, n); ok != (n >= 0) {
				t.Errorf("Put of %s to %d: %t", hex.Text(h), n, ok)
			}
			if n >= 0 {
				m[h] = n
			}
			holds(t, "Put", x, m)
		}
	}
	for h := range m {
		x.Put(h, -1)
	}
	holds(t, "negative numbers", x, m)
}

// TestOrder: 9.1, it does not matter in which order hashes are put.
func TestOrder(t *testing.T) {
	m := few()
	all := m.all("")
	for from := range all {
		up, down := radix.New(), radix.New()
		for k := range all {
			h := all[(from+k)%len(all)]
			up.Put(h, m[h])
			h = all[(from+len(all)-k)%len(all)]
			down.Put(h, m[h])
		}
		holds(t, "up", up, m)
		holds(t, "down", down, m)
	}
}

// TestGet: 9.1, a hash that differs in one digit only is not found.
func TestGet(t *testing.T) {
	m := few()
	x := grown(m)
	for h := range m {
		for k := range h {
			for bit := range 8 {
				near := h
				near[k] ^= 1 << bit
				want, there := m[near]
				if n, ok := x.Get(near); n != want || ok != there {
					t.Errorf("Get of %s: %d, %t, want %d, %t", hex.Text(near), n, ok, want, there)
				}
			}
		}
	}
}

// TestPrefixes: 9.1, Prefix and All, for prefixes of each length that there
// are, and for near ones that there are not.
func TestPrefixes(t *testing.T) {
	for _, m := range []model{few(), numbered("ab"), numbered(""), numbered("ab", "ac"), many(300)} {
		x := grown(m)
		listed(t, x, "", m.all(""))
		some := m
		if len(m) > 20 {
			some = model{m.all("")[5]: 0, m.all("")[200]: 0}
		}
		for _, s := range beginnings(some) {
			asked(t, x, m, s)
		}
	}
	m := many(3000)
	x := grown(m)
	holds(t, "many", x, m)
	for _, s := range []string{"0", "5", "f", "00", "5f", "ff", "abc"} {
		asked(t, x, m, s)
	}
}

// TestInvalidPrefixes: 9.1, what is no prefix is ErrArg, and All of it is
// empty, but for the empty text.
func TestInvalidPrefixes(t *testing.T) {
	invalid := []string{"A", "aB", "g", "a ", " a", "0x", "ab\x00", "\x00", "é", "-1",
		strings.Repeat("0", 65), strings.Repeat("0", 64) + "g", strings.Repeat("0", 63) + "F", strings.Repeat("0", 1000)}
	for c := range 256 {
		if !strings.Contains("0123456789abcdef", string([]byte{byte(c)})) {
			invalid = append(invalid, string([]byte{byte(c)}), "a"+string([]byte{byte(c)}))
		}
	}
	for _, x := range []*radix.Tree{radix.New(), grown(few()), grown(numbered("a")), grown(numbered("", "a"))} {
		for _, s := range append(invalid, "") {
			h, e := x.Prefix(s)
			expect(t, "Prefix of "+s, e, api.ErrArg)
			if h != (api.Hash{}) {
				t.Errorf("Prefix of %q: %s", s, hex.Text(h))
			}
		}
		for _, s := range invalid {
			listed(t, x, s, nil)
		}
	}
}

// TestMemory: R2, what All returns is new memory, up to its capacity.
func TestMemory(t *testing.T) {
	m := few()
	x := grown(m)
	for range 2 {
		l := x.All("", 5)
		clear(l[:cap(l)])
		l = x.All("", 99)
		other := x.All("", 99)
		clear(l[:cap(l)])
		if !slices.Equal(other, m.all("")) {
			t.Error("two results share memory")
		}
	}
	holds(t, "cleared results", x, m)
}

// TestIndependent: R7, trees have nothing to do with one another.
func TestIndependent(t *testing.T) {
	a, b := grown(few()), grown(few())
	a.Put(of("5"), 5)
	a.Put(of("7"), 555)
	holds(t, "the other tree", b, few())
	holds(t, "a new tree", radix.New(), model{})
}
