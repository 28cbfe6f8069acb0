package flat_test

import (
	"math"
	"slices"
	"strconv"
	"strings"
	"testing"

	"taproot/api"
	"taproot/flat"
)

// number writes an ID, with s and its place for those from Split on.
func number(id int) string {
	if id >= api.Split {
		return "s" + strconv.Itoa(id-api.Split)
	}
	return strconv.Itoa(id)
}

// numbers writes a list of IDs.
func numbers(l []int) string {
	var words []string
	for _, id := range l {
		words = append(words, number(id))
	}
	return strings.Join(words, ",")
}

// ids is the inverse of numbers.
func ids(text string) []int {
	var l []int
	for _, w := range strings.FieldsFunc(text, func(c rune) bool { return c == ',' }) {
		digits := strings.TrimPrefix(w, "s")
		id, e := strconv.Atoi(digits)
		if e != nil {
			panic(e)
		}
		if digits != w {
			id += api.Split
		}
		l = append(l, id)
	}
	return l
}

// table returns the table of a text: a word for each ID, which has the parents,
// or is a dot for none, and a bar ahead of the others.
func table(text string) flat.Table {
	var t flat.Table
	group := &t.Master
	for _, w := range strings.Fields(text) {
		switch w {
		case "|":
			group = &t.Other
		case ".":
			*group = append(*group, nil)
		default:
			*group = append(*group, ids(w))
		}
	}
	return t
}

// words is the inverse of table.
func words(t flat.Table) string {
	var l []string
	for k, group := range [][][]int{t.Master, t.Other} {
		if k > 0 {
			l = append(l, "|")
		}
		for _, parents := range group {
			if len(parents) == 0 {
				l = append(l, ".")
			} else {
				l = append(l, numbers(parents))
			}
		}
	}
	return strings.Join(l, " ")
}

// text writes segments: the ends and the parents of each, and r for Root and h
// for Head.
func text(l []api.Segment) string {
	var list []string
	for _, s := range l {
		w := number(s.Low) + ".." + number(s.High) + "(" + numbers(s.Parents) + ")"
		if s.Root {
			w += "r"
		}
		if s.Head {
			w += "h"
		}
		list = append(list, w)
	}
	return strings.Join(list, " ")
}

// segments is the inverse of text.
func segments(text string) []api.Segment {
	var l []api.Segment
	for _, w := range strings.Fields(text) {
		ends, rest, _ := strings.Cut(w, "(")
		parents, flags, _ := strings.Cut(rest, ")")
		low, high, _ := strings.Cut(ends, "..")
		l = append(l, api.Segment{
			Low: ids(low)[0], High: ids(high)[0], Parents: ids(parents),
			Root: strings.Contains(flags, "r"), Head: strings.Contains(flags, "h"),
		})
	}
	return l
}

// builds reports an error unless a table is right, and Build and Back lead from
// it to the segments and back.
func builds(t *testing.T, of flat.Table, want string) {
	t.Helper()
	if !flat.Right(of) {
		t.Errorf("Right of %s: false", words(of))
	}
	got := text(flat.Build(of))
	if got != want {
		t.Errorf("Build of %s: %s, want %s", words(of), got, want)
	}
	if back, ok := flat.Back(segments(want)); !ok || words(back) != words(of) {
		t.Errorf("Back of %s: %s, %t, want %s", want, words(back), ok, words(of))
	}
}

// TestExample: the example of chapter 14.
func TestExample(t *testing.T) {
	builds(t, table(". 0 0"), "0..1()rh 2..2(0)")
}

// TestBuild: 14.1, where segments begin and end, with the parents of Low.
func TestBuild(t *testing.T) {
	for _, c := range [][2]string{
		{"", ""},
		{".", "0..0()rh"},
		{". 0", "0..1()rh"},
		{". 0 1 2", "0..3()rh"},
		// A fork, and what goes on behind it.
		{". 0 0 2", "0..1()rh 2..3(0)"},
		{". 0 1 0", "0..2()rh 3..3(0)"},
		{". 0 1 1 3 1", "0..2()rh 3..4(1) 5..5(1)"},
		// The ID before it is not the only parent.
		{". 0 1,0", "0..1()rh 2..2(1,0)h"},
		{". 0 0,1", "0..1()rh 2..2(0,1)h"},
		{". 0 0,1 2", "0..1()rh 2..3(0,1)h"},
		{". . 1,0 2,1,0 3,2,1,0", "0..0()rh 1..1()r 2..2(1,0)h 3..3(2,1,0)h 4..4(3,2,1,0)h"},
		// Without parents.
		{". .", "0..0()rh 1..1()r"},
		{". 0 . 2", "0..1()rh 2..3()r"},
		{". . . .", "0..0()rh 1..1()r 2..2()r 3..3()r"},
		// Both groups.
		{"| .", "s0..s0()rh"},
		{"| . s0 s1", "s0..s2()rh"},
		{". | .", "0..0()rh s0..s0()rh"},
		{". | 0", "0..0()rh s0..s0(0)h"},
		{". 0 | 1 s0 s1", "0..1()rh s0..s2(1)h"},
		{". 0 1 | 0 s0 0 1 s3", "0..2()rh s0..s1(0)h s2..s2(0) s3..s4(1)"},
		{". . | 0 1,0 s1,s0,1,0", "0..0()rh 1..1()r s0..s0(0)h s1..s1(1,0) s2..s2(s1,s0,1,0)h"},
	} {
		builds(t, table(c[0]), c[1])
	}
}

// TestHead: 14.1, whether every ID of the group up to High is High or one of
// its ancestors.
func TestHead(t *testing.T) {
	for _, c := range [][2]string{
		// Two heads, and their merge.
		{". . 0,1", "0..0()rh 1..1()r 2..2(0,1)h"},
		{". 0 0 1,2 3", "0..1()rh 2..2(0) 3..4(1,2)h"},
		{". 0 0 1,2 3 3", "0..1()rh 2..2(0) 3..4(1,2)h 5..5(3)"},
		// Three heads, of which two are merged first.
		{". . . 1,2 3,0", "0..0()rh 1..1()r 2..2()r 3..3(1,2) 4..4(3,0)h"},
		{". . . 0,2 3 4 5,1 6", "0..0()rh 1..1()r 2..2()r 3..5(0,2) 6..7(5,1)h"},
		{". . . . 3,2,1,0", "0..0()rh 1..1()r 2..2()r 3..3()r 4..4(3,2,1,0)h"},
		{". . . . . 4,3,2,1 5,0", "0..0()rh 1..1()r 2..2()r 3..3()r 4..4()r 5..5(4,3,2,1) 6..6(5,0)h"},
		// Ancestors that are no heads any more leave a head as it is.
		{". 0 1 2,0 3,0,1", "0..2()rh 3..3(2,0)h 4..4(3,0,1)h"},
		{". . 0,1 0 3,2 0,1", "0..0()rh 1..1()r 2..2(0,1)h 3..3(0) 4..4(3,2)h 5..5(0,1)"},
		// A later child of a head does not count for what comes before it.
		{". . 0 1,2", "0..0()rh 1..1()r 2..2(0) 3..3(1,2)h"},
		// Masters do not count for others, and their children do not for masters.
		{". . | .", "0..0()rh 1..1()r s0..s0()rh"},
		{". . | 0", "0..0()rh 1..1()r s0..s0(0)h"},
		{". . | 0,1 s0 s1", "0..0()rh 1..1()r s0..s2(0,1)h"},
		{". . | 0,1 0,1", "0..0()rh 1..1()r s0..s0(0,1)h s1..s1(0,1)"},
		{". 0 | 1 1 s0,s1", "0..1()rh s0..s0(1)h s1..s1(1) s2..s2(s0,s1)h"},
		{". 0 | 1 s0 1 s1,s2 s3 0", "0..1()rh s0..s1(1)h s2..s2(1) s3..s4(s1,s2)h s5..s5(0)"},
		{". . | 0,1 . s1,0 s2,s0,1,0", "0..0()rh 1..1()r s0..s0(0,1)h s1..s1()r s2..s2(s1,0) s3..s3(s2,s0,1,0)h"},
	} {
		builds(t, table(c[0]), c[1])
	}
}

// TestWrong: 14.1, tables that are not right, of which Build makes nothing.
func TestWrong(t *testing.T) {
	for _, c := range []string{
		// The ID itself, and later ones.
		"0", "1", "1 .", ". 1", ". 0 2", ". 0 3 0", ". 2 0", "| s0", "| s1 .", "| . s1", "| . s0 s2", "| . s2 s0",
		// No IDs.
		"-1", ". -1", ". 0,-1", ". -1,0", "| -1", ". | -1", ". | 0,-1", ". -9223372036854775808", ". | -9223372036854775808",
		". 9223372036854775807", "| . 9223372036854775807", ". 0,9223372036854775807", ". | -1099511627776",
		// No masters.
		". s0 | .", ". s0,0 | .", ". 0,s0 | .", "s0 | .", ". s0", ". | . s0 s7",
		// Between the groups.
		". | 1", ". 0 | 2", "| 0", ". | 1099511627775", ". | 0,1099511627775", "| 1099511627775", ". | . 1", ". 0 | 0,1 s0,2",
		// The same one twice.
		". 0,0", ". 0 0,0", ". 0 1,1", ". 0 0,1,0", ". 0 1 2,0,1,2", ". 0 1 0,1,1", ". 0 1 0,1,2,0", ". | 0,0", "| . s0,s0", ". | 0 s0,0,s0", ". | 0 0,s0,0",
		// Too many.
		". 0 1 2 3 0,1,2,3,4", ". . . . . 4,3,2,1,0", ". . . . | . s0,0,1,2,3", ". . . . . | 4,3,2,1,0", ". 0 0,0,0,0,0", ". . . . . . 5,4,3,2,1,0",
		// Beside lists that are right.
		". 0 1 3 3 4", ". 0 1 | 3 s0 s1", ". 0 1 | 2 s0 s2", ". 1 1 | 2 s0 s1", ". 2 1 | 2 s0 s1", "0 0 1", "s0 0 1 | .",
	} {
		of := table(c)
		if flat.Right(of) {
			t.Errorf("Right of %s: true", c)
		}
		if got := flat.Build(of); len(got) > 0 {
			t.Errorf("Build of %s: %s", c, text(got))
		}
	}
}

// TestRight: 14.1, tables at the edge of what is right.
func TestRight(t *testing.T) {
	for _, c := range []string{
		"", "|", ".", "| .", ". 0", ". 0 1,0", ". . . . 0,1,2,3", ". . . . | 3,2,1,0", ". . . . . | 0 s0,0,1,4", "| . s0 s1,s0", ". | 0 s0,0", ". 0 | . s0,1,0",
	} {
		if !flat.Right(table(c)) {
			t.Errorf("Right of %s: false", c)
		}
	}
	// nil and empty lists are the same.
	for _, of := range []flat.Table{{Master: [][]int{}, Other: [][]int{}}, {Master: [][]int{nil, {}}, Other: [][]int{{}, nil}}} {
		if !flat.Right(of) || text(flat.Build(of)) != text(flat.Build(table(words(of)))) {
			t.Errorf("Build of %s: %s", words(of), text(flat.Build(of)))
		}
	}
}

// TestFind: 14.2, which segment contains an ID.
func TestFind(t *testing.T) {
	l := segments("0..1()rh 2..2(0) 3..7(2,1)h s0..s4(2,1)h s5..s5()r")
	for want, found := range [][]int{{0, 1}, {2}, {3, 4, 5, 6, 7}, {api.Split, api.Split + 2, api.Split + 4}, {api.Split + 5}} {
		for _, id := range found {
			if k, ok := flat.Find(l, id); k != want || !ok {
				t.Errorf("Find of %s: %d, %t, want %d", number(id), k, ok, want)
			}
		}
	}
	for _, id := range []int{-1, 8, 9, api.Split - 1, api.Split + 6, -api.Split, 2 * api.Split, math.MinInt, math.MaxInt} {
		if k, ok := flat.Find(l, id); k != 0 || ok {
			t.Errorf("Find of %s: %d, %t", number(id), k, ok)
		}
	}
	for _, none := range [][]api.Segment{nil, {}, {{Low: 1, High: 0}}, {{Low: 5, High: -5}}, {{Low: math.MaxInt, High: math.MinInt}}} {
		for _, id := range []int{math.MinInt, -1, 0, 1, 5, math.MaxInt} {
			if k, ok := flat.Find(none, id); k != 0 || ok {
				t.Errorf("Find of %d in %v: %d, %t", id, none, k, ok)
			}
		}
	}
}

// TestFindAnywhere: 14.2, in segments in any order, with gaps between them and
// with ends as great as they may be.
func TestFindAnywhere(t *testing.T) {
	l := segments("40..49() 7..6() 20..29() s0..s9() 30..39() 1..1()")
	l = append(l, api.Segment{Low: math.MaxInt - 1, High: math.MaxInt}, api.Segment{Low: 60, High: 60})
	for id, want := range map[int]int{40: 0, 49: 0, 20: 2, 29: 2, api.Split: 3, api.Split + 9: 3, 30: 4, 39: 4, 1: 5, math.MaxInt - 1: 6, math.MaxInt: 6, 60: 7} {
		if k, ok := flat.Find(l, id); k != want || !ok {
			t.Errorf("Find of %s: %d, %t, want %d", number(id), k, ok, want)
		}
	}
	for _, id := range []int{0, 2, 6, 7, 19, 50, 59, 61, api.Split - 1, api.Split + 10, math.MaxInt - 2, -1, math.MinInt} {
		if k, ok := flat.Find(l, id); k != 0 || ok {
			t.Errorf("Find of %s: %d, %t", number(id), k, ok)
		}
	}
}

// TestParents: 14.2, the parents of Low, or the ID before any other one.
func TestParents(t *testing.T) {
	l := segments("0..1()rh 2..2(0) 3..7(2,1)h s0..s4(2,1,0)h s5..s5()r s6..s7(s5,s4,7,0)h")
	for id, want := range map[string]string{
		"0": "", "1": "0", "2": "0", "3": "2,1", "4": "3", "7": "6", "8": "", "-1": "", "1099511627775": "",
		"s0": "2,1,0", "s1": "s0", "s4": "s3", "s5": "", "s6": "s5,s4,7,0", "s7": "s6", "s8": "",
	} {
		if got := numbers(flat.Parents(l, ids(id)[0])); got != want {
			t.Errorf("Parents of %s: %s, want %s", id, got, want)
		}
	}
	for _, id := range []int{math.MinInt, -1, 0, 1, api.Split, math.MaxInt} {
		if got := flat.Parents(nil, id); len(got) > 0 {
			t.Errorf("Parents of %d in no segments: %d", id, got)
		}
		if got := flat.Parents([]api.Segment{{Low: 1, High: 0, Parents: []int{7}}}, id); len(got) > 0 {
			t.Errorf("Parents of %d in an empty segment: %d", id, got)
		}
	}
	great := []api.Segment{{Low: math.MaxInt - 2, High: math.MaxInt, Parents: []int{3}}}
	for k, want := range []int{3, math.MaxInt - 2, math.MaxInt - 1} {
		if got := flat.Parents(great, math.MaxInt-2+k); !slices.Equal(got, []int{want}) {
			t.Errorf("Parents of 2^63 - %d: %d, want %d", 3-k, got, want)
		}
	}
}

// TestBackWrong: 14.2, segments that Build makes of no table.
func TestBackWrong(t *testing.T) {
	for _, c := range []string{
		// Not from the lowest ID of the group on, with gaps, or twice.
		"1..1()rh", "1..2()rh", "s1..s1()rh", "0..1()rh 3..3(0)", "0..1()rh 1..1(0)", "0..1()rh 0..1()rh", "0..1()rh 2..2(0) 2..2(0)", "s0..s1()rh s3..s3(s0)",
		"1099511627775..1099511627775()rh", "-1..-1()rh", "-1..0()rh", "0..0()rh s-1..s0()rh",
		// In another order.
		"2..2(0) 0..1()rh", "s0..s0()rh 0..0()rh", "0..0()rh s0..s0()rh 1..1()r", "0..0()rh 2..2()r 1..1()r",
		// Shorter than possible.
		"0..0()rh 1..1(0)h", "0..1()rh 2..2(1)h", "s0..s0()rh s1..s2(s0)h", "0..0()rh 1..1(0)h 2..2(1)h",
		// Root or Head not as they must be.
		"0..1()", "0..1()r", "0..1()h", "0..1()rh 2..2(0)h", "0..1()rh 2..2(0)r", "0..1()rh 2..2(1,0)", "0..1()rh 2..2(1,0)rh", "0..0()rh 1..1()rh", "0..0()rh 1..1()h", "0..0()rh 1..1()",
		"0..0()rh s0..s0(0)", "0..0()rh s0..s0(0)rh", "0..0()rh s0..s0()h", "0..0()rh s0..s0()r",
		// Parents that may not be.
		"0..0(0)h", "0..1(0)h", "0..1(1)h", "0..1(-1)h", "0..1(0)rh", "0..1()rh 2..2(2)h", "0..1()rh 2..3(3)h", "0..1()rh 2..2(0,0)", "0..1()rh 2..2(s0)", "0..1()rh 2..2(s0) s0..s0()rh",
		"s0..s0(0)h", "0..0()rh s0..s0(1)h", "0..0()rh s0..s1(s0)h", "0..0()rh s0..s0(1099511627775)h", "0..0()rh s0..s0(0,0)h",
		"0..0()rh 1..1()r 2..2()r 3..3()r 4..4()r 5..5(0,1,2,3,4)h", "0..0()rh 1..1()r 2..2()r 3..3()r 4..4()r s0..s0(4,3,2,1,0)h",
		// Empty ones.
		"0..-1()rh", "0..-1()", "s0..s-1()rh", "0..0()rh 1..0()", "0..0()rh 1..0() 1..1()r", "0..0()rh s0..1099511627775()",
	} {
		if of, ok := flat.Back(segments(c)); ok || words(of) != "|" {
			t.Errorf("Back of %s: %s, %t", c, words(of), ok)
		}
	}
	if of, ok := flat.Back(nil); !ok || words(of) != "|" {
		t.Errorf("Back of no segments: %s, %t", words(of), ok)
	}
}

// TestBackEnds: 14.2, one segment with all ends that are of interest, alone and
// behind another one.
func TestBackEnds(t *testing.T) {
	ends := []int{
		math.MinInt, math.MinInt + 1, -api.Split, -1000, -2, -1, 0, 1, 2, 3, 998, 999, 1000, 1001, 1 << 32, 1<<32 + 2, api.Split - 1, api.Split, api.Split + 1,
		api.Split + 998, api.Split + 999, api.Split + 1000, 2 * api.Split, 1 << 62, math.MaxInt - 1, math.MaxInt,
	}
	for _, low := range ends {
		for _, high := range ends {
			one := api.Segment{Low: low, High: high, Root: true, Head: true}
			of, ok := flat.Back([]api.Segment{one})
			want := (low == 0 || low == api.Split) && high >= low && high-low < api.MaxCommits
			if ok != want || ok && len(of.Master)+len(of.Other) != high-low+1 {
				t.Errorf("Back of %d..%d: %t", low, high, ok)
			}
			one.Root, one.Parents = false, []int{0}
			one.Head = low == api.Split
			_, ok = flat.Back(append(segments("0..1()rh"), one))
			want = (low == 2 || low == api.Split) && high >= low && high-low < api.MaxCommits-2
			if ok != want {
				t.Errorf("Back of 0..1 and %d..%d: %t", low, high, ok)
			}
		}
	}
}

// counted returns a table of these numbers of IDs, of which step is 1 if each is
// on the one before it, and 2 if only every second one is.
func counted(masters, others, step int) flat.Table {
	t := flat.Table{Master: make([][]int, masters), Other: make([][]int, others)}
	for k := 1; k < masters; k += step {
		t.Master[k] = []int{k - 1}
	}
	for k := 1; k < others; k += step {
		t.Other[k] = []int{api.Split + k - 1}
	}
	return t
}

// TestBackCount: 14.2, as many IDs as there may be, and one more.
func TestBackCount(t *testing.T) {
	for step := range 3 {
		for _, masters := range []int{0, 1, 400, 600, 601, 999, 1000} {
			of := counted(masters, api.MaxCommits-masters, step+1)
			builds(t, of, text(flat.Build(of)))
			for _, more := range []flat.Table{counted(masters+1, api.MaxCommits-masters, step+1), counted(masters, api.MaxCommits-masters+1, step+1)} {
				l := flat.Build(more)
				if len(l) == 0 {
					t.Errorf("Build of %d and %d IDs: none", len(more.Master), len(more.Other))
				}
				if back, ok := flat.Back(l); ok || words(back) != "|" {
					t.Errorf("Back of %d and %d IDs: %t", len(more.Master), len(more.Other), ok)
				}
			}
		}
	}
}

// TestGreat: 14.1, more IDs than the commits that there may be, and 14.2, more
// segments.
func TestGreat(t *testing.T) {
	const n = 1 << 20
	if got := text(flat.Build(counted(n, n, 1))); got != "0..1048575()rh s0..s1048575()rh" {
		t.Errorf("Build of chains: %s", got)
	}
	l := flat.Build(counted(n, n, 2))
	if len(l) != n || text(l[:2]) != "0..1()rh 2..3()r" || text(l[n/2-1:n/2+2]) != "1048574..1048575()r s0..s1()rh s2..s3()r" {
		t.Errorf("Build of pairs: %d segments", len(l))
	}
	if k, ok := flat.Find(l, api.Split+n-1); k != n-1 || !ok {
		t.Errorf("Find of the last one: %d, %t", k, ok)
	}
	// Each ID merges the one before it, which has merged all others, and the first.
	of := counted(n, 0, 1)
	for k := range of.Master[2:] {
		of.Master[k+2] = []int{k + 1, 0}
	}
	l = flat.Build(of)
	if len(l) != n-1 || text(l[n-2:]) != "1048575..1048575(1048574,0)h" {
		t.Errorf("Build of merges: %d segments", len(l))
	}
	long := []api.Segment{{Parents: make([]int, n), Head: true}}
	if _, ok := flat.Back(long); ok {
		t.Errorf("Back of a segment with %d parents: true", n)
	}
	if got := flat.Parents(long, 0); len(got) != n {
		t.Errorf("Parents: %d of %d", len(got), n)
	}
}

// spoil overwrites all memory of a list.
func spoil(l []int) {
	l = l[:cap(l)]
	for k := range l {
		l[k] = -7
	}
}

// shared returns lists that lie in one array, each with the next ones behind its
// end, and the whole array.
func shared(lists [][]int) ([][]int, []int) {
	whole := append(slices.Concat(lists...), 91, 92, 93)
	var parts [][]int
	n := 0
	for _, l := range lists {
		parts = append(parts, whole[n:n+len(l)])
		n += len(l)
	}
	return parts, whole
}

// roomy returns a list with an element behind its end, and all of it.
func roomy[T any](l []T, rest T) (short, whole []T) {
	whole = append(slices.Clone(l), rest)
	return whole[:len(l)], whole
}

// TestMemory: R2, the table that is given is not changed, and no two lists of
// segments share memory with one another or with it.
func TestMemory(t *testing.T) {
	old := table(". 0 1,0 2 2,0 4,3,1,0 . | 0,1 s0 s1,0 s2,s0 . s4")
	want := text(flat.Build(old))
	lists, whole := shared(slices.Concat(old.Master, old.Other))
	master, all := roomy(lists[:len(old.Master)], []int{94})
	other, most := roomy(lists[len(old.Master):], []int{95})
	of := flat.Table{Master: master, Other: other}
	oldWhole := slices.Clone(whole)
	if !flat.Right(of) {
		t.Errorf("Right of %s: false", words(of))
	}
	for k := range flat.Build(of) {
		l := flat.Build(of)
		spoil(l[k].Parents)
		l[k].Parents = flat.Build(of)[k].Parents
		if text(l) != want {
			t.Errorf("Build of %s: %s, want %s", words(old), text(l), want)
		}
		clear(l[:cap(l)])
	}
	l := flat.Build(of)
	if !slices.Equal(whole, oldWhole) || words(of) != words(old) || all[len(master)][0] != 94 || most[len(other)][0] != 95 {
		t.Errorf("the table is %s now, in %d", words(of), whole)
	}
	spoil(whole)
	clear(all)
	clear(most)
	if text(l) != want {
		t.Errorf("the segments are %s now, want %s", text(l), want)
	}
}

// TestSegmentsMemory: R2, segments that are given are not changed, and no list
// of a table shares memory with another one or with them.
func TestSegmentsMemory(t *testing.T) {
	want := ". 0 1,0 2 2,0 4,3,1,0 . | 0,1 s0 s1,0 s2,s0 . s4"
	old := flat.Build(table(want))
	var lists [][]int
	for _, s := range old {
		lists = append(lists, s.Parents)
	}
	lists, whole := shared(lists)
	l, all := roomy(old, segments("70..80(60)")[0])
	for k := range l {
		l[k].Parents = lists[k]
	}
	oldWhole, oldAll := slices.Clone(whole), text(all)
	tabled(t, l, want)
	for id, parents := range parentsOf(table(want)) {
		if got := flat.Parents(l, id); !slices.Equal(got, parents) {
			t.Errorf("Parents of %s: %d, want %d", number(id), got, parents)
		}
		later := flat.Parents(l, id)
		spoil(flat.Parents(l, id))
		if !slices.Equal(later, parents) {
			t.Errorf("Parents of %s: %d beside a later result, want %d", number(id), later, parents)
		}
		flat.Find(l, id)
	}
	if !slices.Equal(whole, oldWhole) || text(all) != oldAll {
		t.Errorf("the segments are %s now, in %d", text(all), whole)
	}
	of, _ := flat.Back(l)
	spoil(whole)
	clear(all)
	if words(of) != want {
		t.Errorf("the table is %s now, want %s", words(of), want)
	}
}

// tabled reports an error unless each list of the table of these segments can be
// overwritten without any other one.
func tabled(t *testing.T, l []api.Segment, want string) {
	t.Helper()
	for group := range 2 {
		of, _ := flat.Back(l)
		for k := range [][][]int{of.Master, of.Other}[group] {
			of, ok := flat.Back(l)
			again, _ := flat.Back(l)
			lists, fresh := [][][]int{of.Master, of.Other}[group], [][][]int{again.Master, again.Other}[group]
			spoil(lists[k])
			lists[k] = fresh[k]
			if !ok || words(of) != want {
				t.Errorf("Back of %s: %s, %t, want %s", text(l), words(of), ok, want)
			}
			clear(lists[:cap(lists)])
		}
		if again, _ := flat.Back(l); words(again) != want {
			t.Errorf("Back of %s: %s again, want %s", text(l), words(again), want)
		}
	}
}
