package ids_test

import (
	"errors"
	"math"
	"slices"
	"strings"
	"testing"

	"taproot/api"
	"taproot/graph"
	"taproot/ids"
	"taproot/oops"
)

// of returns the hash of a letter. The hashes of letters that follow one
// another differ in the first byte, or only in the last one.
func of(letter byte) api.Hash {
	var h api.Hash
	h[0], h[31] = letter>>1, letter&1
	return h
}

// letter is the inverse of of.
func letter(h api.Hash) byte { return h[0]<<1 | h[31] }

// hashes returns those of letters.
func hashes(letters string) []api.Hash {
	var l []api.Hash
	for _, c := range []byte(letters) {
		l = append(l, of(c))
	}
	return l
}

// letters is the inverse of hashes.
func letters(l []api.Hash) string {
	var text []byte
	for _, h := range l {
		text = append(text, letter(h))
	}
	return string(text)
}

// commits returns one for each word: its letter, and those of its parents.
func commits(words string) []api.Commit {
	var l []api.Commit
	for _, w := range strings.Fields(words) {
		l = append(l, api.Commit{Hash: of(w[0]), Parents: hashes(w[1:])})
	}
	return l
}

// made returns a graph of these commits.
func made(t *testing.T, words string) *graph.Graph {
	t.Helper()
	return grown(t, commits(words))
}

// grown returns a graph of commits of which each part of MaxRequest has its
// parents among those up to it.
func grown(t *testing.T, l []api.Commit) *graph.Graph {
	t.Helper()
	g := graph.New()
	for part := range slices.Chunk(l, api.MaxRequest) {
		if e := g.Add(part); e != nil {
			t.Fatalf("Add: %v", e)
		}
	}
	return g
}

// begun returns new IDs.
func begun(t *testing.T, most int) *ids.IDs {
	t.Helper()
	i, e := ids.New(most)
	if e != nil || i == nil {
		t.Fatalf("New(%d): %v", most, e)
	}
	return i
}

// update calls Update for commits of which only the letters are told.
func update(i *ids.IDs, g *graph.Graph, group int, heads, words string) error {
	return i.Update(g, api.Request{Group: group, Heads: hashes(heads), Commits: commits(words)})
}

// given returns IDs of which these are the masters and the others, in a graph
// where they may be.
func given(t *testing.T, g *graph.Graph, masters, others string) *ids.IDs {
	t.Helper()
	i := begun(t, api.MaxMaster)
	expect(t, "Update", update(i, g, api.Master, masters, ""), api.OK, "")
	expect(t, "Update", update(i, g, api.Other, others, ""), api.OK, "")
	has(t, "at first", i, masters, others)
	return i
}

// expect reports an error unless e is of the kind, as both oops and errors tell
// it, and names this letter, or none if whose is empty, and nothing else.
func expect(t *testing.T, what string, e error, kind api.Errno, whose string) {
	t.Helper()
	if oops.Kind(e) != kind || (e == nil) != (kind == api.OK) || kind != api.OK && !errors.Is(e, kind) {
		t.Errorf("%s: %v, want %v", what, e, kind)
	}
	named := ""
	var which *oops.Which
	if errors.As(e, &which) {
		named = letters([]api.Hash{which.Hash})
	}
	if named != whose {
		t.Errorf("%s: %v names %q, want %q", what, e, named, whose)
	}
	if _, where := oops.Where(e); where || len(oops.Steps(e)) > 0 {
		t.Errorf("%s: %v tells a place or a step", what, e)
	}
}

// has reports an error unless these letters are the masters and the others, in
// this order, as everything that tells them says.
func has(t *testing.T, what string, i *ids.IDs, masters, others string) {
	t.Helper()
	holds(t, what, i, hashes(masters), hashes(others))
	for c := range 256 {
		if _, ok := i.ID(of(byte(c))); ok != strings.Contains(masters+others, string([]byte{byte(c)})) {
			t.Errorf("%s: ID of %c: %t", what, c, ok)
		}
	}
}

// holds is has for any hashes.
func holds(t *testing.T, what string, i *ids.IDs, masters, others []api.Hash) {
	t.Helper()
	if i.Masters() != len(masters) || i.Others() != len(others) {
		t.Errorf("%s: %d masters and %d others, want %d and %d", what, i.Masters(), i.Others(), len(masters), len(others))
	}
	numbered(t, what, i, 0, masters)
	numbered(t, what, i, api.Split, others)
	var all []api.Span
	if len(masters) > 0 {
		all = append(all, api.Span{Low: 0, High: len(masters) - 1})
	}
	if got := i.Master(); !slices.Equal(got, all) {
		t.Errorf("%s: Master: %v, want %v", what, got, all)
	}
	if len(others) > 0 {
		all = append(all, api.Span{Low: api.Split, High: api.Split + len(others) - 1})
	}
	if got := i.All(); !slices.Equal(got, all) {
		t.Errorf("%s: All: %v, want %v", what, got, all)
	}
}

// numbered reports an error unless the IDs from low on are those of a list, and
// there are none right before and behind them.
func numbered(t *testing.T, what string, i *ids.IDs, low int, l []api.Hash) {
	t.Helper()
	for k, h := range l {
		if id, ok := i.ID(h); id != low+k || !ok {
			t.Errorf("%s: ID of %q: %d, %t, want %d", what, letter(h), id, ok, low+k)
		}
		if got, ok := i.Hash(low + k); got != h || !ok {
			t.Errorf("%s: Hash of %d: %q, %t, want %q", what, low+k, letter(got), ok, letter(h))
		}
	}
	for _, id := range []int{low - 2, low - 1, low + len(l), low + len(l) + 1, math.MinInt, math.MinInt + api.Split, -api.Split, 2 * api.Split, math.MaxInt} {
		if got, ok := i.Hash(id); got != (api.Hash{}) || ok {
			t.Errorf("%s: Hash of %d: %q, %t, want none", what, id, letter(got), ok)
		}
	}
}

// TestExample: the example of chapter 13.
func TestExample(t *testing.T) {
	g, i := made(t, "a ba"), begun(t, 1)
	expect(t, "Update", update(i, g, api.Other, "", "a ba"), api.OK, "")
	has(t, "as Other", i, "", "ab")
	expect(t, "Update", update(i, g, api.Master, "a", ""), api.OK, "")
	has(t, "then head a as Master", i, "a", "b")
}

// TestNew: 13.1, the numbers of masters that there may be, and 13.2, at first
// there is no ID.
func TestNew(t *testing.T) {
	for _, most := range []int{0, -1, api.MaxMaster + 1, math.MaxInt, math.MinInt, -api.MaxMaster, api.Split} {
		i, e := ids.New(most)
		expect(t, "New", e, api.ErrArg, "")
		if i != nil {
			t.Errorf("New(%d) returns IDs", most)
		}
	}
	for _, most := range []int{1, 2, api.MaxMaster - 1, api.MaxMaster} {
		has(t, "New", begun(t, most), "", "")
		has(t, "Copy", begun(t, most).Copy(), "", "")
	}
}

// step is a call of Update, and what it must leave.
type step struct {
	group                int
	heads, words         string
	masters, others, why string
}

// run makes the calls, each of which is OK. The commits are added to a graph
// ahead of them.
func run(t *testing.T, steps []step) {
	t.Helper()
	g, i := graph.New(), begun(t, api.MaxMaster)
	for _, s := range steps {
		if e := g.Add(commits(s.words)); e != nil {
			t.Fatalf("Add of %s: %v", s.words, e)
		}
		expect(t, s.why, update(i, g, s.group, s.heads, s.words), api.OK, "")
		has(t, s.why, i, s.masters, s.others)
	}
}

// TestOther: 13.1, what heads stand on and then the commits of the request,
// parents first, become others, unless they have an ID.
func TestOther(t *testing.T) {
	run(t, []step{
		{api.Other, "", "", "", "", "nothing"},
		{api.Other, "", "ba a c", "", "abc", "commits, a parent behind its child"},
		{api.Other, "f", "d eca fdb", "", "abcdfe", "a head first"},
		{api.Other, "", "", "", "abcdfe", "nothing again"},
		{api.Other, "fa", "a ba fdb", "", "abcdfe", "commits that have an ID"},
		{api.Other, "xhx", "g hgi ic jx x", "", "abcdfexgihj", "heads in their order"},
		{api.Other, "kk", "", "", "abcdfexgihj", "a head that does not exist"},
		{api.Other, "", "ml l kml", "", "abcdfexgihjlmk", "no heads"},
		{api.Other, "pn", "oe nfe pj", "", "abcdfexgihjlmkpno", "heads, the last commit first"},
	})
	run(t, []step{
		{api.Other, "db", "a ba ca dcb e", "", "acbde", "the heads in the order of a walk"},
	})
	run(t, []step{
		{api.Other, "bd", "e a ba ca dcb", "", "abcde", "the heads in another order"},
	})
	run(t, []step{
		{api.Other, "", "dcb e a ba ca", "", "acbde", "the commits in the order of a walk"},
	})
}

// TestMaster: 13.1, what the heads stand on becomes masters, and stops being
// others, which move up; the rest of the request becomes others.
func TestMaster(t *testing.T) {
	run(t, []step{
		{api.Master, "", "", "", "", "nothing"},
		{api.Master, "", "ba a", "", "ab", "no heads"},
		{api.Master, "c", "ca d", "ac", "bd", "a head on one of the others"},
		{api.Master, "c", "", "ac", "bd", "a head that is a master"},
		{api.Master, "xcx", "", "ac", "bd", "a head that does not exist"},
		{api.Master, "g", "fe hg e gf", "acefg", "bdh", "parents first"},
		{api.Master, "a", "ih", "acefg", "bdhi", "a head that is a master, and a commit"},
		{api.Master, "hc", "jg", "acefgh", "bdij", "a head from the middle"},
		{api.Other, "c", "kh lc", "acefgh", "bdijkl", "others on masters"},
		{api.Other, "abcdefgh", "", "acefgh", "bdijkl", "masters stay"},
		{api.Master, "kij", "mjk", "acefghkij", "bdlm", "heads in their order"},
		{api.Master, "mdblmd", "", "acefghkijmdbl", "", "all"},
		{api.Other, "", "n on", "acefghkijmdbl", "no", "others again"},
	})
	run(t, []step{
		{api.Other, "", "a b ca db ecd", "", "abcde", "five"},
		{api.Master, "e", "", "acbde", "", "masters in the order of a walk"},
	})
	run(t, []step{
		{api.Other, "", "a b ca db edc", "", "abcde", "five"},
		{api.Master, "be", "", "bdace", "", "masters in the order of the heads"},
	})
}

// TestUntold: 13.1, commits of the graph get no ID before they are asked for,
// and then with all that they stand on.
func TestUntold(t *testing.T) {
	g, i := made(t, "a ba cb dc eb f gfd"), begun(t, 3)
	for _, s := range []step{
		{api.Other, "", "f", "", "f", "a commit"},
		{api.Other, "", "e", "", "fabe", "a commit on others"},
		{api.Other, "c", "e", "", "fabec", "a head"},
		{api.Other, "", "x yf", "", "fabec", "commits that the graph does not have"},
		{api.Master, "c", "xb", "abc", "fe", "a head as master"},
		{api.Master, "", "g", "abc", "fedg", "a commit with a parent that is none"},
	} {
		expect(t, s.why, update(i, g, s.group, s.heads, s.words), api.OK, "")
		has(t, s.why, i, s.masters, s.others)
	}
}

// TestGroup: 13.1, only Master makes masters.
func TestGroup(t *testing.T) {
	g := made(t, "a ba cb")
	for _, group := range []int{api.Other, 0, -1, 3, math.MaxInt, math.MinInt, 1 << 32, 1<<32 + api.Master} {
		i := begun(t, 1)
		expect(t, "Update", update(i, g, group, "b", "cb"), api.OK, "")
		has(t, "as another group", i, "", "abc")
	}
}

// TestFull: 13.1, more masters than may be are ErrFull, and nothing is changed.
func TestFull(t *testing.T) {
	g := made(t, "a ba cb d ed fa g")
	for _, c := range []struct {
		most        int
		heads, walk string
	}{{1, "b", "ab"}, {2, "c", "abc"}, {3, "ed", "de"}, {3, "cd", "abcd"}, {4, "ce", "abcde"}, {5, "ecf", "deabcf"}} {
		i, kind := begun(t, c.most), api.ErrFull
		if len(c.walk) <= c.most {
			kind = api.OK
		}
		expect(t, "new", update(i.Copy(), g, api.Master, c.heads, "g"), kind, "")
		expect(t, "Update", update(i, g, api.Other, c.heads, ""), api.OK, "")
		for n := range min(c.most, len(c.walk)) + 1 {
			expect(t, "some", update(i, g, api.Master, c.walk[:n], ""), api.OK, "")
			has(t, "some", i, c.walk[:n], c.walk[n:])
			if kind == api.ErrFull {
				expect(t, "full", update(i, g, api.Master, c.heads, "g"), kind, "")
				expect(t, "full", update(i.Copy(), g, api.Master, c.heads, "g"), kind, "")
				has(t, "full", i, c.walk[:n], c.walk[n:])
			}
		}
	}
	i := begun(t, 2)
	expect(t, "new", update(i, g, api.Master, "c", "c g"), api.ErrFull, "")
	has(t, "new, and full", i, "", "")
	expect(t, "others", update(i, g, api.Other, "", "c g"), api.OK, "")
	expect(t, "masters", update(i, g, api.Master, "b", ""), api.OK, "")
	for _, heads := range []string{"c", "g", "d", "xbc", "ag"} {
		expect(t, "full", update(i, g, api.Master, heads, "e f"), api.ErrFull, "")
		has(t, "full", i, "ab", "cg")
	}
	for _, heads := range []string{"", "b", "ab", "bax"} {
		c := i.Copy()
		expect(t, "as many as may be", update(c, g, api.Master, heads, "e f"), api.OK, "")
		has(t, "as many as may be", c, "ab", "cgdef")
	}
}

// without returns the letters of a text that are not in another one.
func without(text, other string) string {
	return strings.Map(func(c rune) rune {
		if strings.ContainsRune(other, c) {
			return -1
		}
		return c
	}, text)
}

// TestStrip: 13.1, hashes and their descendants are removed from the others,
// which move up.
func TestStrip(t *testing.T) {
	g := made(t, "a ba cb dc ea fed g hb")
	for _, c := range []struct{ l, want string }{
		{"", "cdefgh"}, {"g", "cdefh"}, {"c", "egh"}, {"d", "cegh"}, {"e", "cdgh"}, {"f", "cdegh"}, {"h", "cdefg"}, {"gh", "cdef"}, {"hg", "cdef"},
		{"ce", "gh"}, {"fd", "cegh"}, {"df", "cegh"}, {"ff", "cdegh"}, {"ceghf", ""}, {"hhggeecc", ""}, {"x", "cdefgh"}, {"xgx", "cdefh"}, {"xyz", "cdefgh"},
	} {
		i := given(t, g, "ab", "cdefgh")
		expect(t, "Strip of "+c.l, i.Strip(g, hashes(c.l)), api.OK, "")
		has(t, "Strip of "+c.l, i, "ab", c.want)
		expect(t, "Strip of "+c.l+" again", i.Strip(g, hashes(c.l)), api.OK, "")
		has(t, "Strip of "+c.l+" again", i, "ab", c.want)
		expect(t, "Update", update(i, g, api.Other, "cdefgh", ""), api.OK, "")
		has(t, "Strip of "+c.l+", and back", i, "ab", c.want+without("cdefgh", c.want))
	}
	i := given(t, g, "", "gab")
	expect(t, "Strip", i.Strip(g, hashes("g")), api.OK, "")
	expect(t, "Strip", i.Strip(g, append(hashes("b"), api.Hash{})), api.OK, "")
	has(t, "without masters", i, "", "a")
	expect(t, "Strip", i.Strip(g, hashes("a")), api.OK, "")
	has(t, "of all", i, "", "")
	if g.Count() != 8 {
		t.Errorf("the graph has %d commits", g.Count())
	}
}

// TestStripMaster: 13.1, masters are not stripped, the first one is named, and
// nothing is changed.
func TestStripMaster(t *testing.T) {
	g := made(t, "a ba cb dc ea fed g hb")
	i := given(t, g, "ab", "cdefgh")
	for l, whose := range map[string]string{"a": "a", "b": "b", "ab": "a", "ba": "b", "cb": "b", "gab": "a", "xb": "b", "fcbxa": "b", "aa": "a", "hxbb": "b"} {
		expect(t, "Strip of "+l, i.Strip(g, hashes(l)), api.ErrMaster, whose)
		has(t, "Strip of "+l, i, "ab", "cdefgh")
		expect(t, "Strip of "+l+" without commits", i.Strip(graph.New(), hashes(l)), api.ErrMaster, whose)
		has(t, "Strip of "+l+" without commits", i, "ab", "cdefgh")
	}
}

// TestStripElsewhere: 13.1, with a graph whose commits have not the IDs.
func TestStripElsewhere(t *testing.T) {
	g := made(t, "a ba cb dc ea fed g hb")
	i := given(t, g, "ab", "cdefgh")
	for _, c := range []struct{ words, l, whose, want string }{
		{"c ac", "c", "", ""}, {"g hg bh", "gx", "", ""}, {"x bx", "x", "", ""}, {"c g ac bg", "fgc", "", ""}, {"c bc", "cb", "b", ""}, {"c ac", "cxab", "a", ""},
		{"c gc hg", "c", "", "def"}, {"x yx gy cg", "x", "", "defh"}, {"y xy", "x", "", "cdefgh"}, {"", "cdefgh", "", "cdefgh"}, {"d", "dc", "", "cefgh"},
	} {
		other, kind, want := i.Copy(), api.OK, c.want
		if want == "" {
			kind, want = api.ErrMaster, "cdefgh"
		}
		expect(t, "Strip of "+c.l+" in "+c.words, other.Strip(made(t, c.words), hashes(c.l)), kind, c.whose)
		has(t, "Strip of "+c.l+" in "+c.words, other, "ab", want)
	}
}

// TestUpdateElsewhere: 13.1, what the walk lists counts, also in a graph where
// commits with an ID stand on others without one.
func TestUpdateElsewhere(t *testing.T) {
	i := given(t, made(t, "a b"), "a", "b")
	g := made(t, "x ax ca y by db")
	expect(t, "Update", update(i, g, api.Master, "c", "d"), api.OK, "")
	has(t, "in another graph", i, "axc", "byd")
	expect(t, "Update", update(i, g, api.Master, "d", ""), api.OK, "")
	has(t, "in another graph", i, "axcybd", "")
}

// TestNil: R1, without a graph.
func TestNil(t *testing.T) {
	i := given(t, made(t, "a ba"), "a", "b")
	for _, group := range []int{api.Master, api.Other, 0} {
		expect(t, "Update", update(i, nil, group, "", ""), api.ErrArg, "")
		expect(t, "Update", update(i, nil, group, "b", "ba"), api.ErrArg, "")
	}
	for _, l := range []string{"", "a", "b", "x"} {
		expect(t, "Strip of "+l, i.Strip(nil, hashes(l)), api.ErrArg, "")
	}
	has(t, "without a graph", i, "a", "b")
}

// TestZero: the hash of zeros is one like all others.
func TestZero(t *testing.T) {
	zero := make([]api.Hash, 1)
	g, i := grown(t, []api.Commit{{Parents: hashes("a")}, {Hash: of('a')}}), begun(t, 2)
	expect(t, "Strip", i.Strip(g, zero), api.OK, "")
	holds(t, "at first", i, nil, nil)
	expect(t, "Update", i.Update(g, api.Request{Group: api.Other, Heads: zero}), api.OK, "")
	holds(t, "as an other", i, nil, append(hashes("a"), zero...))
	expect(t, "Strip", i.Strip(g, zero), api.OK, "")
	holds(t, "stripped", i, nil, hashes("a"))
	expect(t, "Update", i.Update(g, api.Request{Group: api.Master, Heads: zero}), api.OK, "")
	holds(t, "as a master", i, append(hashes("a"), zero...), nil)
	e := i.Strip(g, zero)
	if h, ok := oops.Whose(e); oops.Kind(e) != api.ErrMaster || h != zero[0] || !ok {
		t.Errorf("Strip of a master: %v", e)
	}
}

// change is a call of Update, or of Strip for the heads if there is no group, with
// what it tells and what it leaves.
type change struct {
	group           int
	heads, words    string
	kind            api.Errno
	masters, others string
}

// make makes the change.
func (c change) make(t *testing.T, g *graph.Graph, i *ids.IDs) {
	t.Helper()
	e := error(nil)
	if c.group == 0 {
		e = i.Strip(g, hashes(c.heads))
	} else {
		e = update(i, g, c.group, c.heads, c.words)
	}
	if oops.Kind(e) != c.kind {
		t.Errorf("%v: %v", c, e)
	}
}

// TestCopy: 13.2, what is done to a copy, or to what was copied, does nothing to
// the other one. There are 0 to 8 masters more, so that their list may or may
// not have room behind its end.
func TestCopy(t *testing.T) {
	for n := range 9 {
		copied(t, "klmnopqr"[:n])
	}
}

// copied is TestCopy with these masters more.
func copied(t *testing.T, more string) {
	t.Helper()
	g := made(t, "a ba cb dc ea fed g hb k l m n o p q r")
	i, masters := begun(t, len(more)+3), more+"ab"
	expect(t, "Update", update(i, g, api.Master, masters, "e d"), api.OK, "")
	changes := []change{
		{api.Other, "", "g h", api.OK, masters, "ecdgh"}, {api.Other, "h", "f", api.OK, masters, "ecdhf"}, {api.Master, "c", "h", api.OK, masters + "c", "edh"},
		{api.Master, "e", "", api.OK, masters + "e", "cd"}, {api.Master, "d", "", api.ErrFull, masters, "ecd"},
		{0, "e", "", api.OK, masters, "cd"}, {0, "c", "", api.OK, masters, "e"}, {0, "da", "", api.ErrMaster, masters, "ecd"},
	}
	for _, first := range changes {
		for _, second := range changes {
			a, b := i.Copy(), i.Copy()
			c := a.Copy()
			first.make(t, g, a)
			second.make(t, g, b)
			has(t, "a copy", a, first.masters, first.others)
			has(t, "another copy", b, second.masters, second.others)
			has(t, "the copy of a copy", c, masters, "ecd")
			has(t, "the copied one", i, masters, "ecd")
		}
	}
}

// roomy returns a list with other elements behind its end, and all of them.
func roomy[T any](l, rest []T) (short, whole []T) {
	whole = slices.Concat(l, rest)
	return whole[:len(l)], whole
}

// TestMemory: R2, arguments are not changed, nor kept, and results are new
// memory, up to their capacity.
func TestMemory(t *testing.T) {
	g := made(t, "a ba cb dc ea fed g hb")
	for _, group := range []int{api.Master, api.Other} {
		i := given(t, g, "a", "be")
		heads, all := roomy(hashes("xce"), hashes("abcdefgh"))
		l, most := roomy(commits("g dc"), commits("a ba cb dc ea fed g hb"))
		oldHeads, oldCommits := slices.Clone(all), words(most)
		expect(t, "Update", i.Update(g, api.Request{Group: group, Heads: heads, Commits: l}), api.OK, "")
		if !slices.Equal(all, oldHeads) || words(most) != oldCommits {
			t.Errorf("Update changes %q and %q", letters(all), words(most))
		}
		spoil(all)
		for _, c := range most {
			spoil(c.Parents)
		}
		clear(most)
		want := map[int][2]string{api.Master: {"abce", "gd"}, api.Other: {"a", "becgd"}}[group]
		has(t, "then", i, want[0], want[1])
		first, second := i.All(), i.Master()
		for _, s := range [][]api.Span{first[:cap(first)], second[:cap(second)]} {
			for k := range s {
				s[k] = api.Span{Low: -7, High: -7}
			}
		}
		has(t, "behind the spans", i, want[0], want[1])
		stripped, whole := roomy(hashes("gxd"), hashes("abcdefgh"))
		old := slices.Clone(whole)
		expect(t, "Strip", i.Strip(g, stripped), api.OK, "")
		if !slices.Equal(whole, old) {
			t.Errorf("Strip changes %q", letters(whole))
		}
		spoil(whole)
		has(t, "stripped", i, want[0], without(want[1], "gd"))
	}
	if got := words(listed(g)); got != "a ba cb dc ea fed g hb" {
		t.Errorf("the graph is %q now", got)
	}
}

// spoil overwrites all memory of a list.
func spoil(l []api.Hash) {
	l = l[:cap(l)]
	for k := range l {
		l[k] = of('w')
	}
}

// words is the inverse of commits.
func words(l []api.Commit) string {
	var text []string
	for _, c := range l {
		text = append(text, string([]byte{letter(c.Hash)})+letters(c.Parents))
	}
	return strings.Join(text, " ")
}

// listed returns the commits of a graph.
func listed(g *graph.Graph) []api.Commit {
	var l []api.Commit
	for _, h := range g.Hashes() {
		parents, _ := g.Parents(h)
		l = append(l, api.Commit{Hash: h, Parents: parents})
	}
	return l
}

// TestKept: the graph is not kept: what becomes of it concerns later calls only.
func TestKept(t *testing.T) {
	g := made(t, "a ba cb")
	i := given(t, g, "a", "bc")
	if e := g.Remove(g.Hashes()); e != nil {
		t.Fatalf("Remove: %v", e)
	}
	has(t, "without the commits", i, "a", "bc")
	expect(t, "Update", update(i, g, api.Master, "c", "cb"), api.OK, "")
	has(t, "of commits that the graph lost", i, "a", "bc")
}

// chain returns n commits of which each has the one before as parent.
func chain(n int) []api.Commit {
	l := make([]api.Commit, n)
	for k := range l {
		l[k].Hash[5], l[k].Hash[6] = byte(k>>8)+1, byte(k)
		if k > 0 {
			l[k].Parents = []api.Hash{l[k-1].Hash}
		}
	}
	return l
}

// TestGreat: 13.1, as many masters and others as there can be.
func TestGreat(t *testing.T) {
	l := chain(api.MaxCommits)
	g, i := grown(t, l), begun(t, api.MaxMaster)
	var all []api.Hash
	for _, c := range l {
		all = append(all, c.Hash)
	}
	at := func(k int) []api.Hash { return all[k-1 : k] }
	expect(t, "Update", i.Update(g, api.Request{Group: api.Master, Heads: at(601), Commits: l}), api.ErrFull, "")
	holds(t, "one too many", i, nil, nil)
	expect(t, "Update", i.Update(g, api.Request{Group: api.Master, Heads: slices.Repeat(at(599), 1<<16), Commits: l[:599]}), api.OK, "")
	holds(t, "one left", i, all[:599], nil)
	expect(t, "Update", i.Update(g, api.Request{Group: api.Other, Heads: at(1000), Commits: slices.Repeat(l, 16)}), api.OK, "")
	holds(t, "one left, and all others", i, all[:599], all[599:])
	expect(t, "Update", i.Update(g, api.Request{Group: api.Master, Heads: at(1000), Commits: l}), api.ErrFull, "")
	holds(t, "one left, and too many", i, all[:599], all[599:])
	expect(t, "Update", i.Update(g, api.Request{Group: api.Master, Heads: at(600)}), api.OK, "")
	holds(t, "none left", i, all[:600], all[600:])
	expect(t, "Update", i.Update(g, api.Request{Group: api.Master, Heads: at(601)}), api.ErrFull, "")
	expect(t, "Update", i.Update(g, api.Request{Group: api.Master, Heads: at(600), Commits: l}), api.OK, "")
	holds(t, "none left, and no more", i, all[:600], all[600:])
	expect(t, "Strip", i.Strip(g, slices.Repeat(at(990), 1<<16)), api.OK, "")
	holds(t, "stripped from the end", i, all[:600], all[600:989])
	expect(t, "Strip", i.Strip(g, at(601)), api.OK, "")
	holds(t, "stripped", i, all[:600], nil)
}
