package graph_test

import (
	"math"
	"slices"
	"strings"
	"testing"

	"taproot/api"
	"taproot/graph"
)

// checked is what Check must say of commits and heads: a kind, and the letter
// of the hash that is named, if one is.
type checked struct {
	words, heads string
	kind         api.Errno
	whose        string
}

// check reports errors unless Check says this, for both groups, and Add says
// the same, if there are no heads. The graph is g each time.
func (c checked) check(t *testing.T, g *graph.Graph) {
	t.Helper()
	before := text(g)
	what := "Check of " + c.words + " with heads " + c.heads
	for _, group := range []int{api.Master, api.Other} {
		r := api.Request{Commits: commits(c.words), Heads: hashes(c.heads), Group: group}
		expect(t, what, g.Check(r), c.kind, hashes(c.whose))
	}
	if c.heads == "" {
		other := g.Copy()
		expect(t, "Add of "+c.words, other.Add(commits(c.words)), c.kind, hashes(c.whose))
		if c.kind != api.OK {
			holds(t, "refused Add of "+c.words, other, before)
		}
	}
	holds(t, what, g, before)
}

// TestGroup: 11.1, item 1, the groups that there are.
func TestGroup(t *testing.T) {
	g := made(t, "a")
	for _, group := range []int{math.MinInt, -2, -1, 0, 3, 4, 1<<32 + 1, 1<<32 + 2, math.MaxInt} {
		expect(t, "Check", g.Check(api.Request{Group: group}), api.ErrArg, nil)
		expect(t, "Check", g.Check(api.Request{Group: group, Commits: commits("ba"), Heads: hashes("b")}), api.ErrArg, nil)
	}
	for _, group := range []int{api.Master, api.Other} {
		expect(t, "Check", g.Check(api.Request{Group: group}), api.OK, nil)
		expect(t, "Check", g.Check(api.Request{Group: group, Commits: commits("ba"), Heads: hashes("b")}), api.OK, nil)
	}
	holds(t, "after Check", g, "a")
}

// TestMany: 11.1, item 1, how many commits and heads there may be. Those that
// exist, or occur several times, count as well.
func TestMany(t *testing.T) {
	for _, g := range []*graph.Graph{graph.New(), grown(t, graph.New(), 300)} {
		same := slices.Repeat(numbered(1), api.MaxRequest+1)
		for _, l := range [][]api.Commit{numbered(api.MaxRequest + 1), same, slices.Repeat(numbered(1), 5000)} {
			heads := make([]api.Hash, len(l))
			for k := range l {
				heads[k] = l[k].Hash
			}
			for _, group := range []int{api.Master, api.Other} {
				most := api.Request{Group: group, Commits: l[:api.MaxRequest], Heads: heads[:api.MaxRequest]}
				expect(t, "as many as there may be", g.Check(most), api.OK, nil)
				commits, heading := most, most
				commits.Commits, heading.Heads = l, heads
				expect(t, "too many commits", g.Check(commits), api.ErrArg, nil)
				expect(t, "too many heads", g.Check(heading), api.ErrArg, nil)
				commits.Heads = heads
				expect(t, "too many of both", g.Check(commits), api.ErrArg, nil)
			}
			expect(t, "Add of too many", g.Copy().Add(l), api.ErrArg, nil)
			expect(t, "Add", g.Copy().Add(l[:api.MaxRequest]), api.OK, nil)
		}
	}
}

// TestLists: 11.1, item 2, how many parents there may be, and which ones twice.
func TestLists(t *testing.T) {
	g := made(t, "a b c d e ga hbcde")
	for _, c := range []checked{
		{"x xa xab", "", api.ErrConflict, "x"}, {"x", "", api.OK, ""}, {"xabcd", "", api.OK, ""}, {"xabcde", "", api.ErrLimit, "x"}, {"xabcdeghabcdegh", "", api.ErrLimit, "x"},
		{"xaa", "", api.ErrArg, "x"}, {"xaba", "", api.ErrArg, "x"}, {"xbaa", "", api.ErrArg, "x"}, {"xabca", "", api.ErrArg, "x"}, {"xaabc", "", api.ErrArg, "x"},
		{"xabbc", "", api.ErrArg, "x"}, {"xabcc", "", api.ErrArg, "x"}, {"xabcb", "", api.ErrArg, "x"}, {"xaaaa", "", api.ErrArg, "x"},
		{"xaaaaa", "", api.ErrLimit, "x"}, {"xabcda", "", api.ErrLimit, "x"}, {"yaa xabcde", "", api.ErrArg, "y"}, {"xabcde yaa", "", api.ErrLimit, "x"},
		{"v wabcd yaa xabcde", "", api.ErrArg, "y"}, {"wabcd v xabcde yaa", "", api.ErrLimit, "x"}, {"v xaa yaa", "", api.ErrArg, "x"}, {"xx yxx", "", api.ErrArg, "y"},
		{"a gaa", "", api.ErrArg, "g"}, {"a habcde", "", api.ErrLimit, "h"}, {"aa", "", api.ErrConflict, "a"}, {"xqq", "", api.ErrArg, "x"}, {"xqrstu", "", api.ErrLimit, "x"}, {"xxx", "", api.ErrArg, "x"},
	} {
		c.check(t, g)
	}
}

// TestConflict: 11.1, item 3, lists of parents that differ for one hash.
func TestConflict(t *testing.T) {
	g := made(t, "a b c dab ea")
	for _, c := range []checked{
		{"dab", "", api.OK, ""}, {"dab ea a dab b", "", api.OK, ""}, {"xab xab", "", api.OK, ""}, {"x y x y x", "", api.OK, ""}, {"xabc y dab xabc", "", api.OK, ""},
		{"dba", "", api.ErrConflict, "d"}, {"da", "", api.ErrConflict, "d"}, {"db", "", api.ErrConflict, "d"}, {"d", "", api.ErrConflict, "d"}, {"dabc", "", api.ErrConflict, "d"},
		{"dac", "", api.ErrConflict, "d"}, {"ab", "", api.ErrConflict, "a"}, {"e", "", api.ErrConflict, "e"}, {"eb", "", api.ErrConflict, "e"}, {"dab dba", "", api.ErrConflict, "d"},
		{"xab xba", "", api.ErrConflict, "x"}, {"xab xa", "", api.ErrConflict, "x"}, {"xab x", "", api.ErrConflict, "x"}, {"x xab", "", api.ErrConflict, "x"}, {"xa xb", "", api.ErrConflict, "x"},
		{"xab xab xba", "", api.ErrConflict, "x"}, {"xab y xab z xac xab", "", api.ErrConflict, "x"}, {"xab yab yba xba", "", api.ErrConflict, "y"}, {"xab yab xba yba", "", api.ErrConflict, "x"},
		{"xa ya eb xb yb", "", api.ErrConflict, "e"}, {"xa ya xb eb yb", "", api.ErrConflict, "x"}, {"d e", "", api.ErrConflict, "d"}, {"e d", "", api.ErrConflict, "e"},
		{"c b a dab ea x y z xc", "", api.ErrConflict, "x"},
	} {
		c.check(t, g)
	}
	for _, none := range [][]api.Hash{nil, {}, hashes("a")[:0]} {
		l := []api.Commit{{Hash: of('a'), Parents: none}, {Hash: of('x')}, {Hash: of('x'), Parents: none}}
		expect(t, "nil and empty lists", g.Copy().Add(l), api.OK, nil)
	}
}

// TestParent: 11.1, item 4, parents that are neither in the graph nor in the
// request. The hash of the parent is named.
func TestParent(t *testing.T) {
	g := made(t, "a ba ca")
	for _, c := range []checked{
		{"xb", "", api.OK, ""}, {"xy y", "", api.OK, ""}, {"y xy", "", api.OK, ""}, {"xya yb wyxc", "", api.OK, ""}, {"vwxya y xy wx", "", api.OK, ""},
		{"xq", "", api.ErrParent, "q"}, {"xabq", "", api.ErrParent, "q"}, {"xqba", "", api.ErrParent, "q"}, {"xarq", "", api.ErrParent, "r"}, {"xaqr", "", api.ErrParent, "q"},
		{"x ya zr wq", "", api.ErrParent, "r"}, {"wq zr ya x", "", api.ErrParent, "q"}, {"xy yq", "", api.ErrParent, "q"}, {"yq xr", "", api.ErrParent, "q"}, {"ba xbq", "", api.ErrParent, "q"},
		{"xyzq y zr", "", api.ErrParent, "q"}, {"xyza y zr", "", api.ErrParent, "r"}, {"xb", "q", api.ErrUnknown, "q"}, {"xq", "q", api.ErrParent, "q"}, {"xq", "x", api.ErrParent, "q"},
	} {
		c.check(t, g)
	}
}

// TestHeads: 11.1, item 5, heads that are neither in the graph nor in the
// request.
func TestHeads(t *testing.T) {
	g := made(t, "a ba ca")
	for _, c := range []checked{
		{"", "a", api.OK, ""}, {"", "abc", api.OK, ""}, {"", "cabbac", api.OK, ""}, {"xb yx", "yxcba", api.OK, ""}, {"yx xb", "xx", api.OK, ""}, {"yx xb", "y", api.OK, ""},
		{"", "q", api.ErrUnknown, "q"}, {"", "aq", api.ErrUnknown, "q"}, {"", "abcabcqr", api.ErrUnknown, "q"}, {"", "rq", api.ErrUnknown, "r"}, {"", "qrq", api.ErrUnknown, "q"},
		{"xb yx", "xyz", api.ErrUnknown, "z"}, {"xb yx", "zw", api.ErrUnknown, "z"}, {"ba", "baq", api.ErrUnknown, "q"},
	} {
		c.check(t, g)
	}
	expect(t, "the hash of zeros", g.Check(api.Request{Group: api.Master, Heads: make([]api.Hash, 1)}), api.ErrUnknown, make([]api.Hash, 1))
}

// TestCycle: 11.1, item 6, the first commit that is its own ancestor, but none
// that only has such an ancestor, or is one of such a commit.
func TestCycle(t *testing.T) {
	g := made(t, "a ba ca dbc")
	for _, c := range []checked{
		{"xbc ybc zxy", "", api.OK, ""}, {"zxy xbc ybc", "", api.OK, ""}, {"zxyd xy y", "", api.OK, ""},
		{"xx", "", api.ErrCycle, "x"}, {"xabcx", "", api.ErrCycle, "x"}, {"ya xx", "", api.ErrCycle, "x"}, {"yx xx", "", api.ErrCycle, "x"}, {"xx yx", "", api.ErrCycle, "x"}, {"xx yy", "", api.ErrCycle, "x"}, {"yy xx", "", api.ErrCycle, "y"},
		{"xy yx", "", api.ErrCycle, "x"}, {"yx xy", "", api.ErrCycle, "y"}, {"xay ybx", "", api.ErrCycle, "x"}, {"xyz yz zx", "", api.ErrCycle, "x"}, {"zx yz xyz", "", api.ErrCycle, "z"}, {"yz zx xyz", "", api.ErrCycle, "y"},
		{"wx xy yx", "", api.ErrCycle, "x"}, {"wx vw uv xay ybx", "", api.ErrCycle, "x"}, {"w xyw vw yx", "", api.ErrCycle, "x"}, {"xaw yax wva va", "", api.OK, ""}, {"u vu xvy wv yu zyx tx", "", api.OK, ""},
		{"u vu xvy wv yux zyx tx", "", api.ErrCycle, "x"}, {"tx zyx u vu wv yux xvy", "", api.ErrCycle, "y"}, {"vw wx xw yz zy", "", api.ErrCycle, "w"}, {"vy yz zy wx xw", "", api.ErrCycle, "y"},
		{"vwy yz wx zy xw", "", api.ErrCycle, "y"}, {"xwy wvx yux v u", "", api.ErrCycle, "x"}, {"dbc xd yx xd yx", "", api.OK, ""}, {"dbc ba yy", "", api.ErrCycle, "y"}, {"yy dbc", "yad", api.ErrCycle, "y"}, {"yy yy", "", api.ErrCycle, "y"},
	} {
		c.check(t, g)
	}
}

// TestLongCycle: 11.1, item 6, cycles through as many commits as a request may
// have, and through ever so many paths.
func TestLongCycle(t *testing.T) {
	const n = api.MaxRequest
	g := graph.New()
	l := chain(n)
	for _, order := range [][]api.Commit{l, reversed(l)} {
		expect(t, "chain", g.Check(api.Request{Group: api.Master, Commits: order}), api.OK, nil)
	}
	l[0].Parents = []api.Hash{l[n-1].Hash}
	for _, order := range [][]api.Commit{l, reversed(l)} {
		expect(t, "ring", g.Add(order), api.ErrCycle, []api.Hash{order[0].Hash})
	}
	l[0].Parents = []api.Hash{l[n/2].Hash}
	expect(t, "ring with a tail", g.Add(l), api.ErrCycle, []api.Hash{l[0].Hash})
	expect(t, "ring with a tail", g.Add(reversed(l)), api.ErrCycle, []api.Hash{l[n/2].Hash})
	l = layers(n)
	for _, order := range [][]api.Commit{l, reversed(l)} {
		expect(t, "layers", g.Check(api.Request{Group: api.Master, Commits: order}), api.OK, nil)
	}
	l[7].Parents[2] = l[n-8].Hash
	expect(t, "layers with a cycle", g.Add(l), api.ErrCycle, []api.Hash{l[7].Hash})
	expect(t, "layers with a cycle", g.Add(reversed(l)), api.ErrCycle, []api.Hash{l[n-8].Hash})
	holds(t, "after the cycles", g, "")
}

func reversed(l []api.Commit) []api.Commit {
	l = slices.Clone(l)
	slices.Reverse(l)
	return l
}

// TestFull: 11.1, item 7, how many commits there may be.
func TestFull(t *testing.T) {
	base := grown(t, made(t, "a ba"), api.MaxCommits-4)
	for _, c := range []checked{
		{"", "", api.OK, ""}, {"x", "", api.OK, ""}, {"xa yx", "", api.OK, ""}, {"xa yx zy", "", api.ErrFull, ""}, {"xa yx xa yx", "", api.OK, ""}, {"x x x", "", api.OK, ""}, {"xa a yx ba", "", api.OK, ""},
		{"a ba a", "", api.OK, ""}, {"zyx xa yx ba", "", api.ErrFull, ""}, {"x y z w v", "", api.ErrFull, ""}, {"xa yx", "abxy", api.OK, ""}, {"xa yx zy", "z", api.ErrFull, ""},
	} {
		c.check(t, base)
	}
	full(t, base)
}

// full reports errors unless two commits can be added and no more, until one is
// removed.
func full(t *testing.T, g *graph.Graph) {
	t.Helper()
	expect(t, "the last two", g.Add(commits("xa yx")), api.OK, nil)
	for _, words := range []string{"z", "a z", "zyx yx"} {
		expect(t, "Check, full", g.Check(api.Request{Group: api.Master, Commits: commits(words), Heads: hashes("z")}), api.ErrFull, nil)
		expect(t, "Add, full", g.Add(commits(words)), api.ErrFull, nil)
	}
	expect(t, "those that exist", g.Add(commits("yx ba xa yx a")), api.OK, nil)
	if g.Count() != api.MaxCommits || len(g.Hashes()) != api.MaxCommits || g.Has(of('z')) {
		t.Errorf("full: %d commits", g.Count())
	}
	expect(t, "Remove", g.Remove(hashes("y")), api.OK, nil)
	expect(t, "two where one is left", g.Add(commits("z y")), api.ErrFull, nil)
	expect(t, "one where one is left", g.Add(commits("zx")), api.OK, nil)
	expect(t, "none where none is left", g.Add(commits("y")), api.ErrFull, nil)
}

// TestOrder: 11.1, of any two items that apply the first one is told, also if
// the commits that it concerns come last.
func TestOrder(t *testing.T) {
	g := grown(t, made(t, "a b c d e fab"), api.MaxCommits-6)
	faults := []struct {
		item         int
		words, heads string
		kind         api.Errno
		whose        string
	}{
		{1, strings.Repeat("a ", api.MaxRequest), "", api.ErrArg, ""}, {2, "qabcde", "", api.ErrLimit, "q"}, {2, "raa", "", api.ErrArg, "r"},
		{3, "fba", "", api.ErrConflict, "f"}, {3, "sa sb", "", api.ErrConflict, "s"}, {4, "taz", "", api.ErrParent, "z"},
		{5, "", "ay", api.ErrUnknown, "y"}, {6, "uv vu", "", api.ErrCycle, "u"}, {7, "x", "", api.ErrFull, ""},
	}
	for _, first := range faults {
		for _, later := range faults {
			if later.item <= first.item {
				continue
			}
			words, heads := "w "+later.words+" "+first.words, "a"+later.heads+first.heads
			r := api.Request{Commits: commits(words), Heads: hashes(heads), Group: api.Other}
			expect(t, "Check of "+words+" with heads "+heads, g.Check(r), first.kind, hashes(first.whose))
			r.Group = 0
			expect(t, "Check of "+words+" with heads "+heads+" of no group", g.Check(r), api.ErrArg, nil)
		}
	}
	if g.Count() != api.MaxCommits {
		t.Errorf("%d commits", g.Count())
	}
}
