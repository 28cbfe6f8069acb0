package order_test

import (
	"runtime"
	"slices"
	"strings"
	"testing"

	"taproot/api"
	"taproot/graph"
	"taproot/order"
)

// of returns the hash of a letter. The hashes of letters that follow one
// another differ in the first byte, or only in the last one.
func of(letter byte) api.Hash {
	var h api.Hash
	h[0], h[31] = letter>>1, letter&1
	return h
}

// letter is the inverse of of.
func letter(h api.Hash) byte { return h[0]<<1 | h[31] }

// hashes returns those of letters.
func hashes(letters string) []api.Hash {
	var l []api.Hash
	for _, c := range []byte(letters) {
		l = append(l, of(c))
	}
	return l
}

// letters is the inverse of hashes.
func letters(l []api.Hash) string {
	var text []byte
	for _, h := range l {
		text = append(text, letter(h))
	}
	return string(text)
}

// commits returns one for each word: its letter, and those of its parents.
func commits(words string) []api.Commit {
	var l []api.Commit
	for _, w := range strings.Fields(words) {
		l = append(l, api.Commit{Hash: of(w[0]), Parents: hashes(w[1:])})
	}
	return l
}

// made returns a graph of these commits.
func made(t *testing.T, words string) *graph.Graph {
	t.Helper()
	return grown(t, commits(words))
}

// grown returns a graph of commits of which each part of MaxRequest has its
// parents among those up to it.
func grown(t *testing.T, l []api.Commit) *graph.Graph {
	t.Helper()
	g := graph.New()
	for part := range slices.Chunk(l, api.MaxRequest) {
		if e := g.Add(part); e != nil {
			t.Fatalf("Add: %v", e)
		}
	}
	return g
}

// in returns a done for these letters.
func in(text string) func(api.Hash) bool {
	return func(h api.Hash) bool { return slices.Contains([]byte(text), letter(h)) }
}

// walked reports an error unless this is the list.
func walked(t *testing.T, what string, l []api.Hash, want string) {
	t.Helper()
	if got := letters(l); got != want {
		t.Errorf("Walk %s: %q, want %q", what, got, want)
	}
}

// many is a graph with forks, merges, parents in other orders than those of
// their hashes and of their ages, and parts that have nothing to do with one
// another.
const many = "a ba ca dbc ecb fdgae g hg i kjih jhi lkd m nm omn zy y"

// TestExample: the example of chapter 12.
func TestExample(t *testing.T) {
	g := made(t, "dbc ba ca a")
	walked(t, "of d", order.Walk(g, hashes("d"), nil), "abcd")
}

// TestOrder: 12.1, parents are visited in their order, and listed before their
// children.
func TestOrder(t *testing.T) {
	g := made(t, many)
	for _, c := range []struct{ heads, want string }{
		{"", ""}, {"a", "a"}, {"b", "ab"}, {"d", "abcd"}, {"e", "acbe"}, {"f", "abcdgef"}, {"h", "gh"}, {"j", "ghij"}, {"k", "ghijk"},
		{"l", "ghijkabcdl"}, {"n", "mn"}, {"o", "mno"}, {"z", "yz"}, {"y", "y"},
	} {
		walked(t, "of "+c.heads, order.Walk(g, hashes(c.heads), nil), c.want)
	}
	for _, c := range []struct{ words, want string }{
		{"a b c d edcba", "dcbae"}, {"a b c d ebdac", "bdace"}, {"a bac c ebacd dba", "acbde"}, {"a bac c edabc dba", "acbde"}, {"a bac c ecdab dba", "cabde"},
		{"a b c db eadc", "abdce"}, {"a b c da ebdc", "badce"}, {"a ba cb dc eda", "abcde"}, {"ea da cb ba a", "ae"}, {"ed dc cb ba a", "abcde"},
	} {
		walked(t, "of e in "+c.words, order.Walk(made(t, c.words), hashes("e"), nil), c.want)
	}
}

// TestHeads: 12.1, the heads are visited in their order, those that were listed
// are not listed again, and those that do not exist are passed over.
func TestHeads(t *testing.T) {
	g := made(t, many)
	for _, c := range []struct{ heads, want string }{
		{"bc", "abc"}, {"cb", "acb"}, {"de", "abcde"}, {"ed", "acbed"}, {"ln", "ghijkabcdlmn"}, {"nl", "mnghijkabcdl"}, {"zmg", "yzmg"}, {"gmz", "gmyz"},
		{"dd", "abcd"}, {"dda", "abcd"}, {"ad", "abcd"}, {"cad", "acbd"}, {"cd", "acbd"}, {"abcd", "abcd"}, {"dcba", "abcd"}, {"ecdbecd", "acbed"},
		{"x", ""}, {"xx", ""}, {"xd", "abcd"}, {"dx", "abcd"}, {"bxcwy", "abcy"}, {"xzx", "yz"}, {"zyxyz", "yz"}, {"yz", "yz"},
		{"abcdefghijklmnoyz", "abcdegfhijklmnoyz"}, {"zyonmlkjihgfedcba", "yzmnoghijkabcdlef"},
	} {
		walked(t, "of "+c.heads, order.Walk(g, hashes(c.heads), nil), c.want)
		walked(t, "of "+c.heads+" with none done", order.Walk(g, hashes(c.heads), in("")), c.want)
	}
	zero := append(made(t, "").Hashes(), api.Hash{})
	if l := order.Walk(g, zero, nil); len(l) > 0 {
		t.Errorf("Walk of the hash of zeros, which does not exist: %q", letters(l))
	}
	if l := order.Walk(grown(t, make([]api.Commit, 1)), zero, nil); !slices.Equal(l, zero) {
		t.Errorf("Walk of the hash of zeros: %q", letters(l))
	}
}

// TestNil: 12.1, without a graph nothing is listed, and nothing rises.
func TestNil(t *testing.T) {
	for _, heads := range []string{"", "a", "ab"} {
		for _, done := range []func(api.Hash) bool{nil, in(""), in("a")} {
			walked(t, "of "+heads+" without a graph", order.Walk(nil, hashes(heads), done), "")
			walked(t, "of "+heads+" without commits", order.Walk(graph.New(), hashes(heads), done), "")
		}
		if order.Rising(nil, hashes(heads)) {
			t.Errorf("Rising of %q without a graph", heads)
		}
		if got := order.Rising(graph.New(), hashes(heads)); got != (heads == "") {
			t.Errorf("Rising of %q without commits: %t", heads, got)
		}
	}
}

// TestDone: 12.1, nothing is listed for what is done, nor for what can only be
// reached through it.
func TestDone(t *testing.T) {
	g := made(t, many)
	for _, c := range []struct{ heads, done, want string }{
		{"d", "d", ""}, {"d", "a", "bcd"}, {"d", "b", "acd"}, {"d", "c", "abd"}, {"d", "bc", "d"}, {"d", "abc", "d"}, {"d", "xgz", "abcd"}, {"d", "abcd", ""},
		{"db", "d", "ab"}, {"bd", "d", "ab"}, {"ded", "d", "acbe"}, {"f", "de", "gaf"}, {"f", "ea", "bcdgf"}, {"f", "g", "abcdef"}, {"l", "k", "abcdl"}, {"l", "kbc", "dl"},
		{"l", "ji", "ghkabcdl"}, {"l", "hd", "ijkl"}, {"zl", "zl", ""}, {"xzx", "x", "yz"}, {"xzx", "xy", "z"}, {"oo", "m", "no"}, {"oo", "n", "mo"}, {"cc", "c", ""},
		{many, "abcdefghijklmnoyz", ""}, {"lfz", "abcghiy", "jkdlefz"},
	} {
		walked(t, "of "+c.heads+" with "+c.done+" done", order.Walk(g, hashes(c.heads), in(c.done)), c.want)
	}
}

// TestAsked: 12.1, done is asked when a commit is visited, that is before its
// parents are, at each visit until it is listed, and for no hash that does not
// exist.
func TestAsked(t *testing.T) {
	g := made(t, many)
	for _, c := range []struct{ heads, done, want string }{
		{"", "", ""}, {"d", "", "dbac"}, {"e", "", "ecab"}, {"f", "", "fdbacge"}, {"l", "", "lkjhgidbac"}, {"dd", "", "dbac"}, {"xdwa", "", "dbac"}, {"ade", "", "adbce"},
		{"d", "d", "d"}, {"ddd", "d", "ddd"}, {"d", "a", "dbaca"}, {"e", "a", "ecaba"}, {"d", "b", "dbca"}, {"dbe", "b", "dbcabeb"}, {"ba", "a", "baa"}, {"xx", "x", ""}, {"bcb", "bc", "bcb"},
	} {
		var asked []api.Hash
		order.Walk(g, hashes(c.heads), func(h api.Hash) bool {
			asked = append(asked, h)
			return in(c.done)(h)
		})
		if got := letters(asked); got != c.want {
			t.Errorf("Walk of %s with %s done asks for %q, want %q", c.heads, c.done, got, c.want)
		}
	}
}

// TestChanging: 12.1, what done said of a commit before does not matter.
func TestChanging(t *testing.T) {
	g := made(t, many)
	for _, c := range []struct {
		heads string
		times int
		want  string
	}{
		{"d", 0, "abcd"}, {"d", 1, ""}, {"dd", 1, "abcd"}, {"ddd", 2, "abcd"}, {"dbd", 2, "abcd"}, {"de", 1, "acbe"}, {"ded", 1, "acbed"}, {"ae", 1, "acbe"}, {"lf", 1, "abcdgef"},
	} {
		times := c.times
		walked(t, "of "+c.heads+" with the first ones done", order.Walk(g, hashes(c.heads), func(api.Hash) bool {
			times--
			return times >= 0
		}), c.want)
	}
	first := true
	walked(t, "with the first a done", order.Walk(g, hashes("d"), func(h api.Hash) bool {
		is := first && letter(h) == 'a'
		first = first && !is
		return is
	}), "bacd")
}

// TestPanic: R1, a done that panics does not return true.
func TestPanic(t *testing.T) {
	g := made(t, many)
	for _, value := range []any{"panic", nil, api.ErrArg} {
		walked(t, "with a done that panics", order.Walk(g, hashes("xdfz"), func(api.Hash) bool { panic(value) }), "abcdgefyz")
	}
	walked(t, "with a done that panics for b, and d done", order.Walk(g, hashes("f"), func(h api.Hash) bool {
		if letter(h) == 'b' {
			panic("b")
		}
		return letter(h) == 'd'
	}), "gacbef")
	walked(t, "with a done that lacks its numbers", order.Walk(g, hashes("d"), func(h api.Hash) bool { return []bool{}[letter(h)] }), "abcd")
}

// TestMeddling: R1, the walk is that of the graph and of the heads as they were
// when it began, so that it ends whatever done does to them.
func TestMeddling(t *testing.T) {
	g, heads := made(t, "a b"), hashes("bxa")
	walked(t, "with changes", order.Walk(g, heads, func(h api.Hash) bool {
		if e := g.Remove(hashes("abx")); e != nil {
			t.Errorf("Remove: %v", e)
		}
		words := "ab b x"
		if letter(h) == 'b' {
			words = "a ba xa"
		}
		if e := g.Add(commits(words)); e != nil {
			t.Errorf("Add: %v", e)
		}
		copy(heads, hashes("axb"))
		return false
	}), "ba")
	walked(t, "behind the changes", order.Walk(g, heads, nil), "bax")
	g = made(t, "ab b")
	next := byte('c')
	walked(t, "with ever more ancestors", order.Walk(g, hashes("a"), func(h api.Hash) bool {
		if e := g.Remove(g.Hashes()); e != nil {
			t.Errorf("Remove: %v", e)
		}
		if e := g.Add(commits(string([]byte{letter(h), next, ' ', next}))); e != nil {
			t.Errorf("Add: %v", e)
		}
		next++
		return next > 'z'
	}), "ba")
	other := made(t, "ba a")
	walked(t, "with a walk in done", order.Walk(other, hashes("b"), func(h api.Hash) bool {
		return len(order.Walk(other, []api.Hash{h}, nil)) < 2
	}), "b")
}

// TestRising: 12.1, all exist, none twice, none behind a descendant.
func TestRising(t *testing.T) {
	g := made(t, many)
	for _, l := range []string{
		"", "a", "d", "z", "ab", "ad", "af", "abcd", "acbd", "bd", "bc", "cb", "de", "ed", "adef", "gf", "gde", "ghijkl", "il", "iln", "mno", "yz", "zm", "mz",
		"abcdeghijklfmnoyz", "ymanbcgihojkdeflz", "al", "gadh", "fl", "lf", "jfk",
	} {
		if !order.Rising(g, hashes(l)) {
			t.Errorf("Rising of %q is false", l)
		}
	}
	for _, l := range []string{
		"x", "ax", "xa", "axd", "dd", "aa", "abca", "zz", "zyz", "ba", "da", "fa", "dca", "db", "dc", "fg", "bda", "abdc", "lg", "li", "hjig", "kg", "om", "on", "zy", "mzy", "zmy",
		"abcdefghijklmnoyz", "abcdeghijklfmnzyo", "adb", "dxb", "la", "lba", "ela", "axb", "abcdd", "mnon",
	} {
		if order.Rising(g, hashes(l)) {
			t.Errorf("Rising of %q is true", l)
		}
	}
	if order.Rising(g, make([]api.Hash, 1)) {
		t.Error("Rising of the hash of zeros, which does not exist, is true")
	}
}

// numbered returns n commits without parents, which are none of the letters.
func numbered(n int) []api.Commit {
	l := make([]api.Commit, n)
	for k := range l {
		l[k].Hash[5], l[k].Hash[6] = byte(k>>8)+1, byte(k)
	}
	return l
}

// chain returns commits of which each has the one before as parent.
func chain(n int) []api.Commit {
	l := numbered(n)
	for k := range l[1:] {
		l[k+1].Parents = []api.Hash{l[k].Hash}
	}
	return l
}

// layers returns commits of which each group of four has all four of the group
// before as parents. The paths among them are too many to be followed.
func layers(n int) []api.Commit {
	l := numbered(n)
	for k := range l {
		for p := range 4 * (k / 4) {
			if p/4 == k/4-1 {
				l[k].Parents = append(l[k].Parents, l[p].Hash)
			}
		}
	}
	return l
}

// named returns the hashes of commits.
func named(l []api.Commit) []api.Hash {
	var names []api.Hash
	for _, c := range l {
		names = append(names, c.Hash)
	}
	return names
}

// reversed returns the hashes the other way round.
func reversed(l []api.Hash) []api.Hash {
	l = slices.Clone(l)
	slices.Reverse(l)
	return l
}

// TestGreat: 12.1, graphs with as many commits as there can be, and ever so
// many heads.
func TestGreat(t *testing.T) {
	for name, c := range map[string]struct {
		commits []api.Commit
		last    int // how many commits at the end are without children
	}{"chain": {chain(api.MaxCommits), 1}, "layers": {layers(api.MaxCommits), 4}, "apart": {numbered(api.MaxCommits), api.MaxCommits}} {
		g, all := grown(t, c.commits), named(c.commits)
		last := all[len(all)-c.last:]
		for _, heads := range [][]api.Hash{last, all, slices.Repeat(all, 200), append(slices.Repeat(hashes("x"), 1<<20), last...)} {
			if l := order.Walk(g, heads, nil); !slices.Equal(l, all) {
				t.Errorf("%s: Walk lists %d commits, or in another order", name, len(l))
			}
		}
		half := func(h api.Hash) bool { return slices.Contains(all[:500], h) }
		if l := order.Walk(g, last, half); !slices.Equal(l, all[500:]) {
			t.Errorf("%s: Walk with the first half done lists %d commits, or in another order", name, len(l))
		}
		if !order.Rising(g, all) || !order.Rising(g, last) || !order.Rising(g, reversed(last)) {
			t.Errorf("%s: Rising is false", name)
		}
		if order.Rising(g, reversed(all)) != (name == "apart") || order.Rising(g, slices.Repeat(all, 2)) || order.Rising(g, slices.Repeat(all[:1], 1<<20)) {
			t.Errorf("%s: Rising is true", name)
		}
		if order.Rising(g, []api.Hash{all[999], all[0]}) != (name == "apart") || !order.Rising(g, []api.Hash{all[0], all[999]}) {
			t.Errorf("%s: Rising of the first and the last one is wrong", name)
		}
	}
}

// TestStack: 'Ways', a long chain of commits causes no deep calls.
func TestStack(t *testing.T) {
	l := chain(api.MaxCommits)
	var depths []int
	callers := make([]uintptr, 4*api.MaxCommits)
	order.Walk(grown(t, l), named(l[len(l)-1:]), func(api.Hash) bool {
		depths = append(depths, runtime.Callers(0, callers))
		return false
	})
	if len(depths) != len(l) || slices.Max(depths) > depths[0] {
		t.Errorf("%d commits were asked for; the calls are %d deep at first, and then up to %d", len(depths), depths[0], slices.Max(depths))
	}
}

// roomy returns the hashes of a text with capacity behind their end.
func roomy(text string) (short, whole []api.Hash) {
	whole = append(hashes(text), hashes("abcdefghijkl")...)
	return whole[:len(text)], whole
}

// spoil overwrites all memory of a list.
func spoil(l []api.Hash) {
	l = l[:cap(l)]
	for k := range l {
		l[k] = of('w')
	}
}

// TestMemory: R2, arguments are not changed, and results are new memory, up to
// their capacity.
func TestMemory(t *testing.T) {
	g := made(t, many)
	for _, text := range []string{"abcd", "d", "xled", "", "dlf"} {
		for _, done := range []func(api.Hash) bool{nil, in("b")} {
			heads, whole := roomy(text)
			old := slices.Clone(whole)
			first, second := order.Walk(g, heads, done), order.Walk(g, heads, done)
			want := letters(first)
			spoil(first)
			walked(t, "of "+text+" again", second, want)
			walked(t, "of "+text+" after another one was overwritten", order.Walk(g, heads, done), want)
			order.Rising(g, heads)
			if !slices.Equal(whole, old) {
				t.Errorf("the heads %s were changed", text)
			}
		}
	}
	for _, c := range commits(many) {
		if l, ok := g.Parents(c.Hash); !slices.Equal(l, c.Parents) || !ok {
			t.Errorf("the parents of %c are %q now", letter(c.Hash), letters(l))
		}
	}
	if g.Count() != len(commits(many)) {
		t.Errorf("there are %d commits now", g.Count())
	}
}
