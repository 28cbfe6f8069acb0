package ids_test

import (
	"slices"
	"strings"
	"testing"

	"taproot/api"
	"taproot/graph"
	"taproot/ids"
)

// model is what IDs are to be: letters, each list in the order of its IDs.
type model struct {
	parents         map[byte]string // those of each commit of the graph
	most            int
	masters, others string
}

// alphabet are the letters of the commits of a model.
const alphabet = "abcdefghijklmn"

// visit visits a letter as 12.1 says it, and returns what is listed then.
func (m *model) visit(c byte, listed string) string {
	if strings.IndexByte(listed, c) >= 0 {
		return listed
	}
	for _, p := range []byte(m.parents[c]) {
		listed = m.visit(p, listed)
	}
	return listed + string([]byte{c})
}

// walk returns the letters of a text that exist, and what they stand on.
func (m *model) walk(text string) string {
	listed := ""
	for _, c := range []byte(text) {
		if _, ok := m.parents[c]; ok {
			listed = m.visit(c, listed)
		}
	}
	return listed
}

// update does what Update must do for commits with these letters, and returns
// the kind that it must tell.
func (m *model) update(group int, heads, added string) api.Errno {
	if group == api.Master {
		masters := m.masters + without(m.walk(heads), m.masters)
		if len(masters) > m.most {
			return api.ErrFull
		}
		m.masters, m.others = masters, without(m.others, masters)
	}
	m.others += without(m.walk(heads+added), m.masters+m.others)
	return api.OK
}

// strip does what Strip must do, and returns the kind that it must tell and the
// letter that it must name.
func (m *model) strip(text string) (api.Errno, string) {
	if k := strings.IndexAny(text, m.masters); k >= 0 {
		return api.ErrMaster, text[k : k+1]
	}
	gone := ""
	for c := range m.parents {
		if strings.ContainsAny(m.walk(string([]byte{c})), text) {
			gone += string([]byte{c})
		}
	}
	m.others = without(m.others, gone)
	return api.OK, ""
}

// forget removes the commits from the graph that have no ID.
func (m *model) forget() {
	for c := range m.parents {
		if !strings.Contains(m.masters+m.others, string([]byte{c})) {
			delete(m.parents, c)
		}
	}
}

// graph returns the graph of the model.
func (m *model) graph(t *testing.T) *graph.Graph {
	t.Helper()
	var words []string
	for c, parents := range m.parents {
		words = append(words, string([]byte{c})+parents)
	}
	return made(t, strings.Join(words, " "))
}

// chance tells numbers that look as if they were chosen at random.
type chance uint32

func (c *chance) below(n int) int {
	*c = *c*1664525 + 1013904223
	return int(*c>>12) % n
}

// mixed returns up to most of the letters of a text, in any order, each once.
func (c *chance) mixed(text string, most int) string {
	rest, l := []byte(text), ""
	for range c.below(most + 1) {
		if len(rest) > 0 {
			k := c.below(len(rest))
			l += string(rest[k : k+1])
			rest = slices.Delete(rest, k, k+1)
		}
	}
	return l
}

// grow adds commits to the graph of a model, and returns their letters and some
// that exist already, in any order.
func (c *chance) grow(m *model) string {
	for _, k := range []byte(c.mixed(alphabet, 5)) {
		if _, ok := m.parents[k]; !ok {
			m.parents[k] = c.mixed(m.walk(alphabet), c.below(api.MaxParents+1))
		}
	}
	return c.mixed(m.walk(alphabet), len(alphabet)/2)
}

// words returns the commits with these letters, as commits reads them.
func (m *model) words(text string) string {
	var words []string
	for _, c := range []byte(text) {
		words = append(words, string([]byte{c})+m.parents[c])
	}
	return strings.Join(words, " ")
}

// step makes a call, compares what it does with the model, and returns what it
// tells.
func (c *chance) step(t *testing.T, m *model, i *ids.IDs) api.Errno {
	t.Helper()
	before := *m
	old := i.Copy()
	kind := api.OK
	switch c.below(8) {
	case 0, 1, 2, 3:
		added, heads := c.grow(m), c.mixed(alphabet, 2)
		group := api.Master + min(c.below(3), 1)
		e := update(i, m.graph(t), group, heads, m.words(added))
		kind = m.update(group, heads, added)
		expect(t, "Update with heads "+heads+" of "+added, e, kind, "")
	case 4, 5:
		text := c.mixed(without(alphabet, m.masters), 2)
		expect(t, "Strip of "+text, i.Strip(m.graph(t), hashes(text)), kind, "")
		m.strip(text)
	case 6:
		text := c.mixed(alphabet, 4)
		e := i.Strip(m.graph(t), hashes(text))
		told, whose := m.strip(text)
		expect(t, "Strip of "+text, e, told, whose)
		kind = told
	case 7:
		m.forget()
	}
	has(t, "after the call", i, m.masters, m.others)
	has(t, "the copy", old, before.masters, before.others)
	return kind
}

// ascend reports an error unless 13.3 holds.
func ascend(t *testing.T, m *model, i *ids.IDs) {
	t.Helper()
	for c, parents := range m.parents {
		id, ok := i.ID(of(c))
		if !ok {
			continue
		}
		for _, p := range []byte(parents) {
			if above, ok := i.ID(of(p)); !ok || above >= id {
				t.Errorf("%c is %d, and its parent %c is %d, %t", c, id, p, above, ok)
			}
		}
		for _, p := range []byte(m.walk(string([]byte{c}))) {
			if above, ok := i.ID(of(p)); id < i.Masters() && (!ok || above >= i.Masters()) {
				t.Errorf("%c is a master, and its ancestor %c is not", c, p)
			}
		}
	}
}

// TestModel: 13.1 to 13.3, long runs of calls, each of which must do what the
// model does, and after each of which parents have smaller IDs.
func TestModel(t *testing.T) {
	outcomes := map[api.Errno]int{}
	raised, stripped := 0, 0
	for seed := range 1000 {
		c := chance(seed)
		m := &model{parents: map[byte]string{}, most: 1 + c.below(9)}
		i := begun(t, m.most)
		for range 30 {
			masters, others := i.Masters(), i.Others()
			outcomes[c.step(t, m, i)]++
			ascend(t, m, i)
			if masters < i.Masters() && others > i.Others() && i.Others() > 0 {
				raised++
			}
			if masters == i.Masters() && others > i.Others() && i.Others() > 0 {
				stripped++
			}
			if t.Failed() {
				t.Fatalf("seed %d: %+v", seed, m)
			}
		}
	}
	for kind, n := range map[api.Errno]int{api.OK: 10000, api.ErrFull: 500, api.ErrMaster: 500} {
		if outcomes[kind] < n {
			t.Errorf("%v occurs %d times only", kind, outcomes[kind])
		}
	}
	if raised < 500 || stripped < 500 {
		t.Errorf("%d calls raise others, and %d strip some, beside others that stay", raised, stripped)
	}
}

// TestSame: R4, the same calls have the same results, whatever the order in
// which the commits were added.
func TestSame(t *testing.T) {
	words := strings.Fields("a ba ca dcb ec fd g hga i jihe")
	for range words {
		words = append(words[3:], words[:3]...)
		g, i := made(t, strings.Join(words, " ")), begun(t, 7)
		expect(t, "Update", update(i, g, api.Other, "", "j f"), api.OK, "")
		has(t, "others", i, "", "igahcejbdf")
		expect(t, "Update", update(i, g, api.Master, "xdh", ""), api.OK, "")
		has(t, "masters", i, "acbdgh", "iejf")
		expect(t, "Strip", i.Strip(g, hashes("e")), api.OK, "")
		has(t, "stripped", i, "acbdgh", "if")
	}
}
