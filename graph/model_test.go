package graph_test

import (
	"maps"
	"slices"
	"strings"
	"testing"

	"taproot/api"
	"taproot/graph"
)

// model is what a graph is to have: the letters of the parents of each letter.
type model map[byte]string

// alphabet are the letters of the commits of a model.
const alphabet = "abcdefghijkl"

// also returns the model with those of the commits that it does not have.
func (m model) also(l []string) model {
	both := maps.Clone(m)
	for _, w := range l {
		if _, ok := both[w[0]]; !ok {
			both[w[0]] = w[1:]
		}
	}
	return both
}

// words writes the model as text writes a graph.
func (m model) words() string {
	var l []string
	for _, c := range slices.Sorted(maps.Keys(m)) {
		l = append(l, string([]byte{c})+m[c])
	}
	return strings.Join(l, " ")
}

// grow adds letters to a text for as long as more says so of one.
func grow(text string, more func(text string, c byte) bool) string {
	for before := -1; before < len(text); {
		before = len(text)
		for _, c := range []byte(alphabet) {
			if !strings.Contains(text, string([]byte{c})) && more(text, c) {
				text += string([]byte{c})
			}
		}
	}
	return text
}

// existing returns the letters of the text that the model has.
func (m model) existing(text string) string {
	return strings.Map(func(c rune) rune {
		if _, ok := m[byte(c)]; ok {
			return c
		}
		return -1
	}, text)
}

// up returns the letters of a text and their ancestors.
func (m model) up(text string) string {
	return grow(text, func(text string, c byte) bool {
		return slices.ContainsFunc([]byte(text), func(child byte) bool { return strings.Contains(m[child], string([]byte{c})) })
	})
}

// down returns the letters of a text and their descendants.
func (m model) down(text string) string {
	return grow(text, func(text string, c byte) bool { return strings.ContainsAny(m[c], text) })
}

// sorted returns the letters in order, each once.
func sorted(text string) string {
	l := []byte(text)
	slices.Sort(l)
	return string(slices.Compact(l))
}

// check returns the kind that Check must tell of the items 2 to 6, and the
// letter that it must name. There are not so many commits that 1 or 7 applies.
func (m model) check(l []string, heads string) (api.Errno, string) {
	for _, w := range l {
		if len(w) > 1+api.MaxParents {
			return api.ErrLimit, w[:1]
		}
		if len(sorted(w[1:])) < len(w[1:]) {
			return api.ErrArg, w[:1]
		}
	}
	for k, w := range l {
		if m.also(l[:k]).also(l[k:])[w[0]] != w[1:] {
			return api.ErrConflict, w[:1]
		}
	}
	both := m.also(l)
	for _, w := range l {
		if p := strings.Trim(w[1:], both.existing(alphabet)); p != "" {
			return api.ErrParent, p[:1]
		}
	}
	for k := range heads {
		if both.existing(heads[k:k+1]) == "" {
			return api.ErrUnknown, heads[k : k+1]
		}
	}
	for _, w := range l {
		if strings.Contains(both.up(w[1:]), w[:1]) {
			return api.ErrCycle, w[:1]
		}
	}
	return api.OK, ""
}

// remove returns the kind that Remove must tell, and the letter that it must
// name.
func (m model) remove(text string) (api.Errno, string) {
	for _, c := range slices.Sorted(maps.Keys(m)) {
		if !strings.Contains(text, string([]byte{c})) && strings.ContainsAny(m[c], m.existing(text)) {
			return api.ErrParent, string([]byte{c})
		}
	}
	return api.OK, ""
}

// chance tells numbers that look as if they were chosen at random.
type chance uint32

func (c *chance) below(n int) int {
	*c = *c*1664525 + 1013904223
	return int(*c>>12) % n
}

// letters returns up to most letters of those from low on.
func (c *chance) letters(low, most int) string {
	text := ""
	for range c.below(most + 1) {
		if low < len(alphabet) {
			text += string([]byte{alphabet[low+c.below(len(alphabet)-low)]})
		}
	}
	return text
}

// commits returns some. Most have parents that are later letters, each once, so
// that they can be valid, and some are those of the model.
func (c *chance) commits(m model) []string {
	var l []string
	for range c.below(7) {
		k := c.below(len(alphabet))
		w := alphabet[k : k+1]
		switch parents, exists := m[w[0]]; {
		case exists && c.below(10) > 0:
			w += parents
		case c.below(4) == 0:
			w += sorted(c.letters(0, 2))
		case c.below(20) == 0:
			w += c.letters(k+1, 6)
		default:
			w += sorted(c.letters(k+1, 3))
		}
		l = append(l, w)
	}
	return l
}

// TestModel: 11.1 and 11.2, long runs of calls, each of which must do what a
// simple model does.
func TestModel(t *testing.T) {
	outcomes := map[api.Errno]int{}
	for seed := range 500 {
		c, m, g := chance(seed), model{}, graph.New()
		for range 40 {
			outcomes[c.step(t, m, g)]++
			if t.Failed() {
				t.Fatalf("seed %d: %s", seed, m.words())
			}
		}
	}
	for _, kind := range []api.Errno{api.OK, api.ErrArg, api.ErrLimit, api.ErrConflict, api.ErrParent, api.ErrUnknown, api.ErrCycle} {
		if outcomes[kind] < 50 {
			t.Errorf("%v occurs %d times only", kind, outcomes[kind])
		}
	}
}

// step makes a few calls, compares what they do with the model, and returns
// what Check tells.
func (c *chance) step(t *testing.T, m model, g *graph.Graph) api.Errno {
	t.Helper()
	l, heads := c.commits(m), c.letters(0, 1)
	r := api.Request{Commits: commits(strings.Join(l, " ")), Heads: hashes(heads), Group: api.Master + c.below(2)}
	kind, whose := m.check(l, heads)
	expect(t, "Check of "+strings.Join(l, " ")+" with heads "+heads, g.Check(r), kind, hashes(whose))
	added, whose := m.check(l, "")
	expect(t, "Add of "+strings.Join(l, " "), g.Add(r.Commits), added, hashes(whose))
	if added == api.OK {
		maps.Copy(m, m.also(l))
	}
	holds(t, "Add", g, m.words())
	text := c.letters(0, 3)
	asked(t, g, text, sorted(m.up(m.existing(text))), sorted(m.down(m.existing(text))))
	if c.below(4) == 0 {
		text = m.down(text)
	}
	c.remove(t, m, g, text)
	return kind
}

// remove removes some commits, often not, so that there are enough.
func (c *chance) remove(t *testing.T, m model, g *graph.Graph, text string) {
	t.Helper()
	kind, whose := m.remove(text)
	if kind == api.OK && c.below(4) > 0 {
		return
	}
	before := g.Copy()
	expect(t, "Remove of "+text, g.Remove(hashes(text)), kind, hashes(whose))
	holds(t, "the copy", before, m.words())
	if kind == api.OK {
		maps.DeleteFunc(m, func(c byte, _ string) bool { return strings.Contains(text, string([]byte{c})) })
	}
	holds(t, "Remove of "+text, g, m.words())
}

// TestSame: R4, the same calls have the same results, whatever the order in
// which maps are gone through.
func TestSame(t *testing.T) {
	g := grown(t, made(t, "a ba ca dbc ed f gf hge"), 500)
	all := g.Hashes()
	for range 20 {
		other := grown(t, made(t, "f a ca ba gf dbc ed hge"), 500)
		for _, l := range [][]api.Hash{g.Ancestors(all), g.Descendants(all), other.Hashes(), other.Ancestors(all), other.Descendants(all)} {
			if !slices.Equal(l, all) {
				t.Errorf("%d hashes, or in another order", len(l))
			}
		}
		expect(t, "Remove", other.Remove(all[:len(all)-8]), api.OK, nil)
		expect(t, "Remove", other.Remove(hashes("adg")), api.ErrParent, hashes("b"))
		expect(t, "Remove", g.Remove(hashes("af")), api.ErrParent, hashes("b"))
	}
}
