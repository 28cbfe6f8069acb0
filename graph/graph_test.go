package graph_test

import (
	"errors"
	"slices"
	"strings"
	"testing"

	"taproot/api"
	"taproot/graph"
	"taproot/hex"
	"taproot/oops"
)

// of returns the hash of a letter. The hashes of letters that follow one
// another differ in the first byte, or only in the last one.
func of(letter byte) api.Hash {
	var h api.Hash
	h[0], h[31] = letter>>1, letter&1
	return h
}

// letter is the inverse of of.
func letter(h api.Hash) byte { return h[0]<<1 | h[31] }

// hashes returns those of letters.
func hashes(letters string) []api.Hash {
	var l []api.Hash
	for _, c := range []byte(letters) {
		l = append(l, of(c))
	}
	return l
}

// letters is the inverse of hashes.
func letters(l []api.Hash) string {
	var text []byte
	for _, h := range l {
		text = append(text, letter(h))
	}
	return string(text)
}

// commits returns one for each word: its letter, and those of its parents.
func commits(words string) []api.Commit {
	var l []api.Commit
	for _, w := range strings.Fields(words) {
		l = append(l, api.Commit{Hash: of(w[0]), Parents: hashes(w[1:])})
	}
	return l
}

// made returns a graph of these commits.
func made(t *testing.T, words string) *graph.Graph {
	t.Helper()
	g := graph.New()
	if e := g.Add(commits(words)); e != nil {
		t.Fatalf("Add of %s: %v", words, e)
	}
	return g
}

// text writes the commits of a graph as commits reads them, in the order of
// Hashes.
func text(g *graph.Graph) string {
	var words []string
	for _, h := range g.Hashes() {
		parents, ok := g.Parents(h)
		if !ok || !g.Has(h) {
			return "a commit of Hashes does not exist"
		}
		words = append(words, letters(append([]api.Hash{h}, parents...)))
	}
	if g.Count() != len(words) {
		return "Count is wrong"
	}
	return strings.Join(words, " ")
}

// holds reports an error unless the graph has exactly these commits, which are
// given in the order of hex.Less.
func holds(t *testing.T, what string, g *graph.Graph, words string) {
	t.Helper()
	if got := text(g); got != words {
		t.Errorf("%s: the graph has %q, want %q", what, got, words)
	}
}

// expect reports an error unless e is of the kind, as both oops and errors tell
// it, and names this hash, or none if whose is nil, and nothing else.
func expect(t *testing.T, what string, e error, kind api.Errno, whose []api.Hash) {
	t.Helper()
	if oops.Kind(e) != kind || (e == nil) != (kind == api.OK) || kind != api.OK && !errors.Is(e, kind) {
		t.Errorf("%s: %v, want %v", what, e, kind)
	}
	var named []api.Hash
	var which *oops.Which
	if errors.As(e, &which) {
		named = []api.Hash{which.Hash}
	}
	if !slices.Equal(named, whose) {
		t.Errorf("%s: %v names %q, want %q", what, e, letters(named), letters(whose))
	}
	if _, where := oops.Where(e); where || len(oops.Steps(e)) > 0 {
		t.Errorf("%s: %v tells a place or a step", what, e)
	}
}

// numbered returns n commits without parents, which are none of the letters.
func numbered(n int) []api.Commit {
	l := make([]api.Commit, n)
	for k := range l {
		l[k].Hash[5], l[k].Hash[6] = byte(k>>8)+1, byte(k)
	}
	return l
}

// grown adds n numbered commits to a graph.
func grown(t *testing.T, g *graph.Graph, n int) *graph.Graph {
	t.Helper()
	for part := range slices.Chunk(numbered(n), api.MaxRequest) {
		if e := g.Add(part); e != nil {
			t.Fatalf("Add of many: %v", e)
		}
	}
	return g
}

// TestExample: the example of chapter 11.
func TestExample(t *testing.T) {
	g := graph.New()
	expect(t, "Check", g.Check(api.Request{Group: api.Other, Commits: commits("ab")}), api.ErrParent, hashes("b"))
	expect(t, "Add", g.Add(commits("ab")), api.ErrParent, hashes("b"))
	holds(t, "after the errors", g, "")
}

// TestNew: 11.2, at first there are no commits.
func TestNew(t *testing.T) {
	g := graph.New()
	holds(t, "New", g, "")
	if l, ok := g.Parents(of('a')); len(l) > 0 || ok {
		t.Errorf("Parents: %q, %t", letters(l), ok)
	}
	if g.Has(of('a')) || g.Has(api.Hash{}) || len(g.Ancestors(hashes("ab"))) > 0 || len(g.Descendants(hashes("ab"))) > 0 {
		t.Error("there is a commit")
	}
	expect(t, "Remove", g.Remove(hashes("ab")), api.OK, nil)
	holds(t, "Copy", g.Copy(), "")
}

// TestAdd: 11.2, commits are added, in any order, and existing ones stay.
func TestAdd(t *testing.T) {
	g := graph.New()
	for _, step := range []struct{ words, want string }{
		{"", ""}, {"a", "a"}, {"a", "a"}, {"cab ba", "a ba cab"}, {"cab dcba dcba cab", "a ba cab dcba"}, {"gf f hg", "a ba cab dcba f gf hg"},
		{"f zh yz", "a ba cab dcba f gf hg yz zh"}, {"eadcb", "a ba cab dcba eadcb f gf hg yz zh"},
	} {
		expect(t, "Check of "+step.words, g.Check(api.Request{Group: api.Master, Commits: commits(step.words)}), api.OK, nil)
		expect(t, "Add of "+step.words, g.Add(commits(step.words)), api.OK, nil)
		holds(t, "Add of "+step.words, g, step.want)
	}
	for _, words := range []string{"ab", "yza b xq", "xx", "bac", "xabcdef x", "b"} {
		if e := g.Add(commits(words)); e == nil {
			t.Errorf("Add of %s is no error", words)
		}
		holds(t, "refused Add of "+words, g, "a ba cab dcba eadcb f gf hg yz zh")
	}
}

// TestParents: 11.2, the list of parents in its order, and whether there is the
// commit.
func TestParents(t *testing.T) {
	g := made(t, "a b c d edbca")
	for c, want := range map[byte]string{'a': "", 'e': "dbca"} {
		if l, ok := g.Parents(of(c)); letters(l) != want || !ok {
			t.Errorf("Parents of %c: %q, %t", c, letters(l), ok)
		}
	}
	for _, h := range append(hashes("f`"), api.Hash{}) {
		if l, ok := g.Parents(h); len(l) > 0 || ok || g.Has(h) {
			t.Errorf("Parents of %s: %q, %t", hex.Text(h), letters(l), ok)
		}
	}
	zero := []api.Commit{{}}
	if e := g.Add(zero); e != nil || !g.Has(api.Hash{}) || g.Count() != 6 {
		t.Errorf("Add of the hash of zeros: %v", e)
	}
}

// TestHashes: 11.2, the order is that of hex.Less, whatever came first.
func TestHashes(t *testing.T) {
	g, want := graph.New(), []api.Hash{}
	for k := range 32 {
		for n := range 4 {
			var h api.Hash
			h[(k*11)%32] = byte(4-n) * 60
			want = append(want, h)
			expect(t, "Add", g.Add([]api.Commit{{Hash: h}}), api.OK, nil)
		}
	}
	slices.SortFunc(want, func(a, b api.Hash) int {
		if hex.Less(a, b) {
			return -1
		}
		return 1
	})
	if got := g.Hashes(); !slices.Equal(got, want) || g.Count() != len(want) {
		t.Errorf("%d hashes, want %d, or not in this order", len(got), len(want))
	}
	if got := g.Ancestors(append(want, want...)); !slices.Equal(got, want) {
		t.Error("Ancestors: not in this order")
	}
	if got := g.Descendants(append(want, want...)); !slices.Equal(got, want) {
		t.Error("Descendants: not in this order")
	}
}

// TestAncestry: 11.2, ancestors and descendants with the hashes themselves, in
// order, without those that do not exist.
func TestAncestry(t *testing.T) {
	g := made(t, "yz a ba ca dbc ed f gf hge zh m")
	for _, c := range []struct{ l, up, down string }{
		{"", "", ""}, {"x", "", ""}, {"xxw", "", ""}, {"a", "a", "abcdehyz"}, {"m", "m", "m"}, {"mm", "m", "m"}, {"y", "abcdefghyz", "y"},
		{"b", "ab", "bdehyz"}, {"d", "abcd", "dehyz"}, {"g", "fg", "ghyz"}, {"h", "abcdefgh", "hyz"}, {"z", "abcdefghz", "yz"},
		{"cb", "abc", "bcdehyz"}, {"mxg", "fgm", "ghmyz"}, {"gdgd", "abcdfg", "deghyz"}, {"ya", "abcdefghyz", "abcdehyz"}, {"fa", "af", "abcdefghyz"},
	} {
		asked(t, g, c.l, c.up, c.down)
	}
	holds(t, "after the questions", g, "a ba ca dbc ed f gf hge m yz zh")
}

// asked reports an error unless these are the ancestors and the descendants.
func asked(t *testing.T, g *graph.Graph, l, up, down string) {
	t.Helper()
	if got := letters(g.Ancestors(hashes(l))); got != up {
		t.Errorf("Ancestors of %q: %q, want %q", l, got, up)
	}
	if got := letters(g.Descendants(hashes(l))); got != down {
		t.Errorf("Descendants of %q: %q, want %q", l, got, down)
	}
}

// layers returns commits of which each group of four has all four of the group
// before as parents. The paths among them are too many to be followed.
func layers(n int) []api.Commit {
	l := numbered(n)
	for k := range l {
		for p := range 4 * (k / 4) {
			if p/4 == k/4-1 {
				l[k].Parents = append(l[k].Parents, l[p].Hash)
			}
		}
	}
	return l
}

// chain returns commits of which each has the one before as parent.
func chain(n int) []api.Commit {
	l := numbered(n)
	for k := range l[1:] {
		l[k+1].Parents = []api.Hash{l[k].Hash}
	}
	return l
}

// TestGreat: 11.2, graphs with as many commits as there can be.
func TestGreat(t *testing.T) {
	for name, l := range map[string][]api.Commit{"chain": chain(api.MaxCommits), "layers": layers(api.MaxCommits)} {
		g := graph.New()
		for part := range slices.Chunk(l, api.MaxRequest) {
			slices.Reverse(part)
			expect(t, name, g.Add(part), api.OK, nil)
		}
		all := g.Hashes()
		first, last := all[:1], all[api.MaxCommits-1:]
		if name == "layers" {
			first, last = all[:4], all[api.MaxCommits-4:]
		}
		if got := g.Ancestors(last); !slices.Equal(got, all) {
			t.Errorf("%s: %d ancestors", name, len(got))
		}
		if got := g.Descendants(first); !slices.Equal(got, all) {
			t.Errorf("%s: %d descendants", name, len(got))
		}
		expect(t, name, g.Remove(first), api.ErrParent, all[len(first):len(first)+1])
		expect(t, name, g.Remove(all[500:]), api.OK, nil)
		if got := g.Descendants(first); !slices.Equal(got, all[:500]) {
			t.Errorf("%s: %d descendants of those that are left", name, len(got))
		}
	}
}

// TestRemove: 11.2, what is removed, and what is refused by which commit.
func TestRemove(t *testing.T) {
	const all = "a ba ca dbc ed f gf hge m yz zh"
	for _, c := range []struct{ l, whose, want string }{
		{"", "", all}, {"x", "", all}, {"xwx", "", all}, {"m", "", "a ba ca dbc ed f gf hge yz zh"}, {"y", "", "a ba ca dbc ed f gf hge m zh"},
		{"yz", "", "a ba ca dbc ed f gf hge m"}, {"xzmywzy", "", "a ba ca dbc ed f gf hge"}, {"zyh", "", "a ba ca dbc ed f gf m"},
		{"ghyz", "", "a ba ca dbc ed f m"}, {"abcdefghmyz", "", ""}, {"zyabcdeh", "", "f gf m"},
		{"a", "b", all}, {"f", "g", all}, {"z", "y", all}, {"h", "z", all}, {"b", "d", all}, {"ab", "c", all}, {"abc", "d", all}, {"fa", "b", all},
		{"zf", "g", all}, {"hz", "y", all}, {"yh", "z", all}, {"gm", "h", all}, {"zyf", "g", all}, {"ea", "b", all}, {"xzx", "y", all}, {"abcdegyz", "h", all},
	} {
		g := made(t, all)
		kind := api.OK
		if c.whose != "" {
			kind = api.ErrParent
		}
		expect(t, "Remove of "+c.l, g.Remove(hashes(c.l)), kind, hashes(c.whose))
		holds(t, "Remove of "+c.l, g, c.want)
	}
}

// TestRemoved: 11.2, a removed commit can come back with other parents, and
// nothing is left of the previous ones.
func TestRemoved(t *testing.T) {
	g := made(t, "a ba cb da")
	expect(t, "Remove", g.Remove(hashes("cb")), api.OK, nil)
	asked(t, g, "a", "a", "ad")
	asked(t, g, "bc", "", "")
	expect(t, "Add on a removed one", g.Add(commits("cb")), api.ErrParent, hashes("b"))
	expect(t, "Check of a removed head", g.Check(api.Request{Group: api.Master, Heads: hashes("ac")}), api.ErrUnknown, hashes("c"))
	expect(t, "Add the other way round", g.Add(commits("bc cd")), api.OK, nil)
	holds(t, "other parents", g, "a bc cd da")
	asked(t, g, "c", "acd", "bc")
	expect(t, "Remove again", g.Remove(hashes("c")), api.ErrParent, hashes("b"))
}

// TestCopy: 11.2, a graph and its copy do not change one another.
func TestCopy(t *testing.T) {
	g := made(t, "a ba cb")
	other := g.Copy()
	expect(t, "Add", g.Add(commits("da eb")), api.OK, nil)
	expect(t, "Remove", g.Remove(hashes("c")), api.OK, nil)
	holds(t, "the copy", other, "a ba cb")
	expect(t, "Add to the copy", other.Add(commits("dc f")), api.OK, nil)
	expect(t, "Remove from the copy", other.Remove(hashes("cdb")), api.OK, nil)
	expect(t, "other parents in the copy", other.Add(commits("b caf")), api.OK, nil)
	holds(t, "the graph", g, "a ba da eb")
	holds(t, "the copy", other, "a b caf f")
	third := other.Copy()
	expect(t, "Remove", other.Remove(hashes("abcf")), api.OK, nil)
	holds(t, "the copy of the copy", third, "a b caf f")
	asked(t, third, "a", "a", "ac")
}

// TestIndependent: R7, graphs have nothing to do with one another.
func TestIndependent(t *testing.T) {
	g, other := made(t, "a ba"), made(t, "b ab")
	holds(t, "one graph", g, "a ba")
	holds(t, "the other graph", other, "ab b")
	holds(t, "a new graph", graph.New(), "")
}

// roomy returns the hashes of a text with capacity behind their end.
func roomy(text string) (short, whole []api.Hash) {
	whole = append(hashes(text), hashes("abcdefghijkl")...)
	return whole[:len(text)], whole
}

// spoil overwrites all memory of a list.
func spoil(l []api.Hash) {
	l = l[:cap(l)]
	for k := range l {
		l[k] = of('w')
	}
}

// TestResults: R2, results are new memory, up to their capacity.
func TestResults(t *testing.T) {
	g := made(t, "a ba ca dbc m")
	for name, ask := range map[string]func() []api.Hash{
		"Hashes":      g.Hashes,
		"Parents":     func() []api.Hash { l, _ := g.Parents(of('d')); return l },
		"no Parents":  func() []api.Hash { l, _ := g.Parents(of('a')); return l },
		"Ancestors":   func() []api.Hash { return g.Ancestors(hashes("d")) },
		"Descendants": func() []api.Hash { return g.Descendants(hashes("b")) },
	} {
		first, second := ask(), ask()
		want := slices.Clone(first)
		spoil(first)
		if !slices.Equal(second, want) || !slices.Equal(ask(), want) {
			t.Errorf("%s shares memory", name)
		}
		holds(t, "the graph after "+name, g, "a ba ca dbc m")
	}
	other := g.Copy()
	l, _ := other.Parents(of('d'))
	spoil(l)
	holds(t, "the graph after Parents of its copy", g, "a ba ca dbc m")
}

// TestArguments: R2, arguments are not changed, and not retained.
func TestArguments(t *testing.T) {
	g := made(t, "a ba ca dbc m")
	l, whole := roomy("dxbcd")
	old := slices.Clone(whole)
	g.Ancestors(l)
	g.Descendants(l)
	g.Remove(l)
	if !slices.Equal(whole, old) {
		t.Error("hashes were changed")
	}
	spoil(g.Ancestors(l))
	spoil(g.Descendants(l))
	if !slices.Equal(whole, old) {
		t.Error("hashes share memory with a result")
	}
	holds(t, "after the questions", g, "a m")
	parents, wholeParents := roomy("zma")
	oldParents := slices.Clone(wholeParents)
	list := append(commits("z"), api.Commit{Hash: of('y'), Parents: parents}, api.Commit{Hash: of('x')})
	for _, e := range []error{g.Check(api.Request{Group: api.Other, Commits: list[:2], Heads: hashes("ya")}), g.Add(list[:2])} {
		expect(t, "a list with more behind its end", e, api.OK, nil)
	}
	if !slices.Equal(wholeParents, oldParents) || list[0].Hash != of('z') || list[1].Hash != of('y') || list[2].Hash != of('x') || len(list[1].Parents) != 3 {
		t.Error("commits were changed")
	}
	spoil(parents)
	clear(list)
	holds(t, "after the list was overwritten", g, "a m yzma z")
}
