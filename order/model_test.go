package order_test

import (
	"slices"
	"strings"
	"testing"

	"taproot/api"
	"taproot/graph"
	"taproot/order"
)

// model is a graph: the letters of the parents of each letter.
type model map[byte]string

// alphabet are the letters of the commits of a model.
const alphabet = "abcdefghijklmn"

// has says whether a text has a letter.
func has(text string, c byte) bool { return strings.IndexByte(text, c) >= 0 }

// visit visits a letter as 12.1 says it, and returns what is listed then.
func (m model) visit(c byte, listed string, done func(api.Hash) bool) string {
	if has(listed, c) || done(of(c)) {
		return listed
	}
	for _, p := range []byte(m[c]) {
		listed = m.visit(p, listed, done)
	}
	return listed + string([]byte{c})
}

// walk returns what Walk must return.
func (m model) walk(heads string, done func(api.Hash) bool) string {
	listed := ""
	for _, c := range []byte(heads) {
		if _, ok := m[c]; ok {
			listed = m.visit(c, listed, done)
		}
	}
	return listed
}

// above says whether a letter is an ancestor of another one.
func (m model) above(c, child byte) bool {
	return slices.ContainsFunc([]byte(m[child]), func(p byte) bool { return p == c || m.above(c, p) })
}

// rising returns what Rising must return.
func (m model) rising(text string) bool {
	for k, c := range []byte(text) {
		if _, ok := m[c]; !ok {
			return false
		}
		for _, before := range []byte(text[:k]) {
			if before == c || m.above(c, before) {
				return false
			}
		}
	}
	return true
}

// chance tells numbers that look as if they were chosen at random.
type chance uint32

func (c *chance) below(n int) int {
	*c = *c*1664525 + 1013904223
	return int(*c>>12) % n
}

// mixed returns up to most of the letters of a text, in any order, each once.
func (c *chance) mixed(text string, most int) string {
	rest, l := []byte(text), ""
	for range c.below(most + 1) {
		if len(rest) > 0 {
			k := c.below(len(rest))
			l += string(rest[k : k+1])
			rest = slices.Delete(rest, k, k+1)
		}
	}
	return l
}

// model returns a graph: the letters in any order, each with parents among
// those before it, in any order.
func (c *chance) model(t *testing.T) (model, *graph.Graph) {
	m, words := model{}, ""
	before := ""
	for _, k := range []byte(c.mixed(alphabet, len(alphabet))) {
		m[k] = c.mixed(before, api.MaxParents)
		before += string([]byte{k})
		words += " " + string([]byte{k}) + m[k]
	}
	return m, made(t, words)
}

// rise returns letters that are often in a rising order, but for one change.
func (c *chance) rise(m model) string {
	l := []byte(m.walk(c.mixed(alphabet, len(alphabet)), in(c.mixed(alphabet, 2))))
	if len(l) == 0 {
		return c.mixed(alphabet, 1)
	}
	a, b := c.below(len(l)), c.below(len(l))
	switch c.below(5) {
	case 0:
		l[a], l[b] = l[b], l[a]
	case 1:
		l[a] = l[b]
	case 2:
		l[a] = alphabet[c.below(len(alphabet))]
	case 3:
		l = slices.Delete(l, min(a, b), max(a, b))
	}
	return string(l)
}

// counted returns a done that says true at each n-th time for which it is
// asked, and the letters for which it was asked.
func counted(n int) (func(api.Hash) bool, *string) {
	asked := ""
	return func(h api.Hash) bool {
		asked += string([]byte{letter(h)})
		return len(asked)%n == 0
	}, &asked
}

// TestModel: 12.1, many graphs, for which everything must be as the direct way
// of a recursion has it.
func TestModel(t *testing.T) {
	risen := map[bool]int{}
	for seed := range 3000 {
		c := chance(seed)
		m, g := c.model(t)
		for range 10 {
			c.compare(t, m, g)
			text := c.rise(m)
			want := m.rising(text)
			if got := order.Rising(g, hashes(text)); got != want {
				t.Errorf("Rising of %q: %t, want %t", text, got, want)
			}
			risen[want]++
			if t.Failed() {
				t.Fatalf("seed %d: %v", seed, m)
			}
		}
	}
	if risen[true] < 5000 || risen[false] < 5000 {
		t.Errorf("Rising is true %d times, and false %d times", risen[true], risen[false])
	}
}

// compare compares a few walks.
func (c *chance) compare(t *testing.T, m model, g *graph.Graph) {
	t.Helper()
	heads := c.mixed(alphabet+alphabet, 8)
	walked(t, "of "+heads, order.Walk(g, hashes(heads), nil), m.walk(heads, in("")))
	done := c.mixed(alphabet, 5)
	walked(t, "of "+heads+" with "+done+" done", order.Walk(g, hashes(heads), in(done)), m.walk(heads, in(done)))
	n := 1 + c.below(5)
	first, asked := counted(n)
	second, want := counted(n)
	walked(t, "of "+heads+" with a done that changes", order.Walk(g, hashes(heads), first), m.walk(heads, second))
	if *asked != *want {
		t.Errorf("Walk of %s asks for %q, want %q", heads, *asked, *want)
	}
}

// TestSame: R4, the same calls have the same results, whatever the order in
// which the commits were added.
func TestSame(t *testing.T) {
	words := strings.Fields(many)
	g := made(t, many)
	for range 20 {
		words = append(words[3:], words[:3]...)
		other := made(t, strings.Join(words, " "))
		for _, heads := range []string{"l", "fl", "lf", "zoyml"} {
			walked(t, "of "+heads, order.Walk(other, hashes(heads), nil), letters(order.Walk(g, hashes(heads), nil)))
		}
	}
}
