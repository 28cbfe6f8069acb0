package spans_test

import (
	"math"
	"slices"
	"strconv"
	"strings"
	"testing"

	"taproot/api"
	"taproot/spans"
)

// top is the greatest number that there is.
const top = math.MaxInt

// of returns spans, of which the ends are given in pairs.
func of(ends ...int) []api.Span {
	l := []api.Span{}
	for pair := range slices.Chunk(ends, 2) {
		l = append(l, api.Span{Low: pair[0], High: pair[1]})
	}
	return l
}

// text writes spans with the last numbers as top, top-1 and so on.
func text(l []api.Span) string {
	var list []string
	for _, s := range l {
		list = append(list, number(s.Low)+".."+number(s.High))
	}
	return "[" + strings.Join(list, " ") + "]"
}

func number(n int) string {
	switch {
	case n == top:
		return "top"
	case n > top-100:
		return "top-" + strconv.Itoa(top-n)
	}
	return strconv.Itoa(n)
}

// same reports an error unless the spans are these ones.
func same(t *testing.T, what string, got, want []api.Span) {
	t.Helper()
	if !slices.Equal(got, want) {
		t.Errorf("%s: %s, want %s", what, text(got), text(want))
	}
}

// elements returns the numbers of the spans in ascending order, each once.
func elements(l []api.Span) []int {
	var ids []int
	for _, s := range l {
		for id := max(s.Low, 0); id <= s.High; id++ {
			ids = append(ids, id)
			if id == top {
				break
			}
		}
	}
	slices.Sort(ids)
	return slices.Compact(ids)
}

// normal returns the normal form of numbers in ascending order: each number
// that follows the one before it goes on with the same span.
func normal(ids []int) []api.Span {
	var l []api.Span
	for k, id := range ids {
		if k > 0 && ids[k-1] == id-1 {
			l[len(l)-1].High = id
		} else {
			l = append(l, api.Span{Low: id, High: id})
		}
	}
	return l
}

// where returns those numbers that keep says.
func where(ids []int, keep func(id int) bool) []int {
	var kept []int
	for _, id := range ids {
		if keep(id) {
			kept = append(kept, id)
		}
	}
	return kept
}

// lists returns all lists of at most most spans with ends from low to high,
// including those with Low greater than High.
func lists(low, high, most int) [][]api.Span {
	all, last := [][]api.Span{{}}, [][]api.Span{{}}
	for range most {
		var next [][]api.Span
		for _, l := range last {
			for a := 0; a <= high-low; a++ {
				for b := 0; b <= high-low; b++ {
					next = append(next, append(slices.Clone(l), api.Span{Low: low + a, High: low + b}))
				}
			}
		}
		all, last = append(all, next...), next
	}
	return all
}

// subsets returns all sets of the n numbers from low on, in normal form.
func subsets(low, n int) [][]api.Span {
	var all [][]api.Span
	for bits := range 1 << n {
		var ids []int
		for k := range n {
			if bits>>k&1 == 1 {
				ids = append(ids, low+k)
			}
		}
		all = append(all, normal(ids))
	}
	return all
}

// TestExample: the example of chapter 10.
func TestExample(t *testing.T) {
	same(t, "Union", spans.Union(of(1, 3), of(4, 6)), of(1, 6))
}

// TestRight: 10.1, what is in normal form and what is not.
func TestRight(t *testing.T) {
	for _, l := range [][]api.Span{
		nil, of(), of(0, 0), of(0, top), of(top, top), of(3, 9), of(0, 0, 2, 2), of(0, 5, 7, 7, 9, top),
		of(0, top-2, top, top), of(top-4, top-3, top-1, top),
	} {
		if !spans.Right(l) {
			t.Errorf("Right says that %s is not in normal form", text(l))
		}
	}
	for _, l := range [][]api.Span{
		of(-1, -1), of(-1, 0), of(-1, top), of(math.MinInt, top), of(1, 0), of(top, 0), of(top, top-1), of(0, math.MinInt),
		of(0, 0, 1, 1), of(0, 3, 4, 5), of(0, 3, 3, 5), of(0, 3, 2, 5), of(0, 3, 1, 2), of(0, 3, 0, 3), of(4, 5, 0, 2), of(2, 2, 0, 0),
		of(0, top-1, top, top), of(0, top, top, top), of(top, top, top, top), of(0, top, 5, 5), of(top, top, 0, 0),
		of(0, 3, 9, 8), of(9, 8, 10, 10), of(0, 0, -5, -4), of(-5, -4, 0, 0), of(5, top, math.MinInt, 3), of(5, top, math.MinInt, top),
		of(0, 0, 2, 2, 3, 3), of(0, 0, 1, 1, 3, 3), of(0, 0, 4, 4, 2, 2), of(0, 0, 2, 2, -1, 9),
	} {
		if spans.Right(l) {
			t.Errorf("Right says that %s is in normal form", text(l))
		}
	}
}

// TestMake: 10.1 and 10.2, what is left out, put in order and joined.
func TestMake(t *testing.T) {
	for _, c := range []struct{ l, want []api.Span }{
		{nil, nil}, {of(), nil}, {of(0, 0), of(0, 0)}, {of(5, 7), of(5, 7)}, {of(7, 5), nil}, {of(-3, -1), nil}, {of(-3, 0), of(0, 0)},
		{of(-1, -3), nil}, {of(3, -3), nil}, {of(0, -1), nil}, {of(math.MinInt, math.MinInt), nil}, {of(math.MinInt, top), of(0, top)},
		{of(top, math.MinInt), nil}, {of(math.MinInt, -1, 4, 4), of(4, 4)}, {of(top, top), of(top, top)},
		{of(1, 3, 4, 6), of(1, 6)}, {of(4, 6, 1, 3), of(1, 6)}, {of(1, 3, 5, 6), of(1, 3, 5, 6)}, {of(5, 6, 1, 3), of(1, 3, 5, 6)},
		{of(1, 9, 2, 3), of(1, 9)}, {of(2, 3, 1, 9), of(1, 9)}, {of(1, 9, 2, 3, 5, 9, 10, 12), of(1, 12)}, {of(1, 3, 1, 9, 1, 5), of(1, 9)},
		{of(8, 8, 6, 6, 4, 4, 2, 2), of(2, 2, 4, 4, 6, 6, 8, 8)}, {of(8, 8, 6, 6, 4, 4, 2, 2, 7, 3), of(2, 2, 4, 4, 6, 6, 8, 8)},
		{of(1, 3, 9, 8, 4, 5), of(1, 5)}, {of(1, 2, 4, 5, 3, 3), of(1, 5)}, {of(-9, 3, 5, 6), of(0, 3, 5, 6)}, {of(-9, -1, 0, 3), of(0, 3)},
		{of(0, top, top, top), of(0, top)}, {of(top, top, 0, top-1), of(0, top)}, {of(top, top, 0, top-2), of(0, top-2, top, top)},
		{of(top, top, top, top), of(top, top)}, {of(top-1, top, 3, top-2), of(3, top)}, {of(7, top, 0, 5), of(0, 5, 7, top)},
	} {
		same(t, "Make of "+text(c.l), spans.Make(c.l), c.want)
	}
}

// TestMakeAll: 10.1, the normal form of all short lists near the least and the
// greatest number.
func TestMakeAll(t *testing.T) {
	for _, l := range append(lists(-2, 4, 3), lists(top-5, top, 3)...) {
		want := normal(elements(l))
		same(t, "Make of "+text(l), spans.Make(l), want)
		if !spans.Right(want) || spans.Right(l) != slices.Equal(l, want) {
			t.Fatalf("Right of %s: %t", text(l), spans.Right(l))
		}
	}
}

// TestMany: 10.1, lists of many spans in any order, and of many numbers.
func TestMany(t *testing.T) {
	for _, n := range []int{1, 13, 63, 1009} {
		for _, step := range []int{1, 2, 5, 11, 101} {
			var l, whole, want []api.Span
			var ids []int
			for k := range n {
				// No n has a divisor in common with a step, so each number occurs.
				low := k * step % n * 3
				l = append(l, api.Span{Low: low, High: low})
				ids = append(ids, low, low)
				whole = append(whole, api.Span{Low: low, High: low + 2})
				want = append(want, api.Span{Low: 3 * k, High: 3 * k})
			}
			same(t, "Make", spans.Make(l), want)
			same(t, "Of", spans.Of(ids), want)
			same(t, "Make of adjacent ones", spans.Make(whole), of(0, 3*n-1))
		}
	}
}

// TestOf: 10.1, numbers in any order, repeated and negative ones.
func TestOf(t *testing.T) {
	for _, c := range []struct {
		ids  []int
		want []api.Span
	}{
		{nil, nil}, {[]int{}, nil}, {[]int{0}, of(0, 0)}, {[]int{-1}, nil}, {[]int{math.MinInt}, nil}, {[]int{top}, of(top, top)},
		{[]int{1, 2, 3}, of(1, 3)}, {[]int{3, 1, 2}, of(1, 3)}, {[]int{3, 1}, of(1, 1, 3, 3)}, {[]int{3, 3, 3}, of(3, 3)},
		{[]int{-1, 0, 1, -2}, of(0, 1)}, {[]int{top, 0, math.MinInt, top - 1, 1}, of(0, 1, top-1, top)}, {[]int{top, top - 2}, of(top-2, top-2, top, top)},
		{[]int{7, 3, -2, 4, 3, 0, 8}, of(0, 0, 3, 4, 7, 8)},
	} {
		same(t, "Of", spans.Of(c.ids), c.want)
	}
}

// TestHas: 10.1, each number near the ends of spans, and of each short list.
func TestHas(t *testing.T) {
	for _, l := range append(lists(-2, 4, 2), lists(top-5, top, 2)...) {
		ids := elements(l)
		for _, id := range []int{math.MinInt, -3, -2, -1, 0, 1, 2, 3, 4, 5, top - 6, top - 5, top - 4, top - 3, top - 2, top - 1, top} {
			if got := spans.Has(l, id); got != slices.Contains(ids, id) {
				t.Fatalf("%s has %s: %t", text(l), number(id), got)
			}
		}
	}
	for _, id := range []int{0, 1, 1 << 40, top - 1, top} {
		if !spans.Has(of(math.MinInt, top), id) || spans.Has(nil, id) || spans.Has(of(top, 0), id) {
			t.Errorf("%s is an element of all numbers, and only of these", number(id))
		}
	}
	for _, id := range []int{-1, math.MinInt} {
		if spans.Has(of(math.MinInt, top), id) || spans.Has(of(id, id), id) {
			t.Errorf("%d is an element", id)
		}
	}
}

// TestCount: 10.1 and 10.2, each number counts once, and the result is at most
// the greatest number.
func TestCount(t *testing.T) {
	for _, l := range append(lists(-2, 4, 2), lists(top-5, top, 2)...) {
		if got, want := spans.Count(l), len(elements(l)); got != want {
			t.Fatalf("Count of %s: %d, want %d", text(l), got, want)
		}
	}
	for _, c := range []struct {
		l    []api.Span
		want int
	}{
		{of(0, top), top}, {of(math.MinInt, top), top}, {of(0, top, 0, top), top}, {of(0, top-1), top}, {of(1, top), top},
		{of(0, 4, 6, top), top}, {of(0, 4, 7, top), top - 1}, {of(2, top), top - 1}, {of(2, top, 1, top-1), top}, {of(2, top, 0, 0), top},
		{of(0, top-2), top - 1}, {of(0, top-1, top, top), top}, {of(0, 1<<62, 1<<62, top), top}, {of(math.MinInt, -1), 0}, {of(top, 0), 0},
	} {
		if got := spans.Count(c.l); got != c.want {
			t.Errorf("Count of %s: %s, want %s", text(c.l), number(got), number(c.want))
		}
	}
}

// TestTwoSets: 10.1, union, intersection and difference of all sets of eight
// numbers, the least ones and the greatest ones.
func TestTwoSets(t *testing.T) {
	for _, low := range []int{0, top - 7} {
		all := subsets(low, 8)
		for _, a := range all {
			for _, b := range all {
				operations(t, a, b)
			}
		}
	}
}

// TestTwoLists: 10.1, union, intersection and difference of lists that are not
// in normal form.
func TestTwoLists(t *testing.T) {
	for _, all := range [][][]api.Span{lists(-1, 2, 2), lists(top-3, top, 2)} {
		for _, a := range all {
			for _, b := range all {
				operations(t, a, b)
			}
		}
	}
}

// operations reports an error unless the three operations on a and b give what
// they do number by number.
func operations(t *testing.T, a, b []api.Span) {
	t.Helper()
	ofA, ofB := elements(a), elements(b)
	in := func(id int) bool { return slices.Contains(ofB, id) }
	not := func(id int) bool { return !in(id) }
	what := text(a) + " and " + text(b)
	same(t, "Union of "+what, spans.Union(a, b), normal(elements(slices.Concat(a, b))))
	same(t, "Both of "+what, spans.Both(a, b), normal(where(ofA, in)))
	same(t, "Minus of "+what, spans.Minus(a, b), normal(where(ofA, not)))
	if t.Failed() {
		t.FailNow()
	}
}

// TestTwoGreat: 10.2, sets that are too great to be counted.
func TestTwoGreat(t *testing.T) {
	all := of(0, top)
	for _, c := range []struct{ a, b, union, both, minus []api.Span }{
		{all, nil, all, nil, all}, {nil, all, all, nil, nil}, {all, all, all, all, nil},
		{all, of(0, 0), all, of(0, 0), of(1, top)}, {all, of(top, top), all, of(top, top), of(0, top-1)},
		{all, of(5, 5), all, of(5, 5), of(0, 4, 6, top)}, {all, of(1, top-1), all, of(1, top-1), of(0, 0, top, top)},
		{of(math.MinInt, top), of(3, 1, top, top), all, of(top, top), of(0, top-1)}, {of(7, 9), of(math.MinInt, top), all, of(7, 9), nil},
		{of(1, top), of(0, top-1), all, of(1, top-1), of(top, top)}, {of(0, top-1), of(1, top), all, of(1, top-1), of(0, 0)},
		{of(0, 1<<62), of(1<<62+1, top), all, nil, of(0, 1<<62)}, {of(0, 1<<62), of(1<<62, top), all, of(1<<62, 1<<62), of(0, 1<<62-1)},
		{of(0, 2, 4, top), of(3, 3, 9, 9), all, of(9, 9), of(0, 2, 4, 8, 10, top)}, {of(top, top), of(math.MinInt, -1), of(top, top), nil, of(top, top)},
	} {
		what := text(c.a) + " and " + text(c.b)
		same(t, "Union of "+what, spans.Union(c.a, c.b), c.union)
		same(t, "Both of "+what, spans.Both(c.a, c.b), c.both)
		same(t, "Minus of "+what, spans.Minus(c.a, c.b), c.minus)
	}
}

// TestEnds: 10.1, the smallest and the greatest element, or 0 and false.
func TestEnds(t *testing.T) {
	great := [][]api.Span{of(math.MinInt, top), of(0, top), of(9, top, 3, 4), of(top, top, 0, 0), of(top, 5, 7, 7), of(math.MinInt, -1)}
	ends := [][]int{{0, top}, {0, top}, {3, top}, {0, top}, {7, 7}, {}}
	for _, l := range append(lists(-2, 4, 2), lists(top-5, top, 2)...) {
		great, ends = append(great, l), append(ends, elements(l))
	}
	for k, l := range great {
		low, lowest := spans.Low(l)
		high, highest := spans.High(l)
		var got []int
		if lowest && highest {
			got = []int{low, high}
		} else if low != 0 || high != 0 || lowest || highest {
			t.Errorf("Low and High of %s: %d, %t and %d, %t", text(l), low, lowest, high, highest)
		}
		want := ends[k]
		if len(want) > 0 {
			want = []int{want[0], want[len(want)-1]}
		}
		if !slices.Equal(got, want) {
			t.Fatalf("Low and High of %s: %d, want %d", text(l), got, want)
		}
	}
}

// TestSome: 10.1, the first and the last n elements, all but the first ones,
// and the elements themselves, for each n.
func TestSome(t *testing.T) {
	all := append(lists(-2, 4, 2), lists(top-5, top, 2)...)
	all = append(append(all, subsets(0, 8)...), subsets(top-7, 8)...)
	for _, l := range all {
		ids := elements(l)
		counts := []int{math.MinInt, -2, -1, 1 << 40, 1 << 62, top - 1, top}
		for n := range len(ids) + 3 {
			counts = append(counts, n)
		}
		for _, n := range counts {
			some(t, l, ids, n)
		}
	}
}

// some reports an error unless the functions that take a number of elements
// give these of the elements ids of l.
func some(t *testing.T, l []api.Span, ids []int, n int) {
	t.Helper()
	taken := max(0, min(n, len(ids)))
	left := len(ids) - taken
	what := strconv.Itoa(n) + " of " + text(l)
	same(t, "First "+what, spans.First(l, n), normal(ids[left:]))
	same(t, "Last "+what, spans.Last(l, n), normal(ids[:taken]))
	same(t, "Skip "+what, spans.Skip(l, n), normal(ids[:left]))
	want := slices.Clone(ids[left:])
	slices.Reverse(want)
	if got := spans.IDs(l, n); !slices.Equal(got, want) {
		t.Errorf("IDs %s: %d, want %d", what, got, want)
	}
	if t.Failed() {
		t.FailNow()
	}
}

// TestSomeGreat: 10.2, some elements of sets that are too great to be counted.
func TestSomeGreat(t *testing.T) {
	all := of(0, top)
	for _, c := range []struct {
		l                 []api.Span
		n                 int
		first, last, skip []api.Span
	}{
		{all, math.MinInt, nil, nil, all}, {all, -1, nil, nil, all}, {all, 0, nil, nil, all}, {all, 1, of(top, top), of(0, 0), of(0, top-1)},
		{all, top, of(1, top), of(0, top-1), of(0, 0)}, {all, top - 1, of(2, top), of(0, top-2), of(0, 1)}, {all, 1 << 62, of(1<<62, top), of(0, 1<<62-1), of(0, 1<<62-1)},
		{of(1, top), top, of(1, top), of(1, top), nil}, {of(0, top-1), top, of(0, top-1), of(0, top-1), nil}, {of(1, top), top - 1, of(2, top), of(1, top-1), of(1, 1)},
		{of(0, 4, 6, top), top, of(0, 4, 6, top), of(0, 4, 6, top), nil}, {of(0, 4, 6, top), top - 1, of(1, 4, 6, top), of(0, 4, 6, top-1), of(0, 0)},
		{of(6, top, 0, 4), top - 5, of(6, top), of(0, 4, 6, top-5), of(0, 4)}, {of(6, top, 0, 4), top - 6, of(7, top), of(0, 4, 6, top-6), of(0, 4, 6, 6)},
		{of(6, top, 0, 4), 5, of(top-4, top), of(0, 4), of(0, 4, 6, top-5)}, {of(6, top, 0, 4), 6, of(top-5, top), of(0, 4, 6, 6), of(0, 4, 6, top-6)},
		{of(math.MinInt, top, 7, 7), top, of(1, top), of(0, top-1), of(0, 0)}, {of(top, 0), top, nil, nil, nil}, {of(math.MinInt, -1), top, nil, nil, nil},
	} {
		what := number(c.n) + " of " + text(c.l)
		same(t, "First "+what, spans.First(c.l, c.n), c.first)
		same(t, "Last "+what, spans.Last(c.l, c.n), c.last)
		same(t, "Skip "+what, spans.Skip(c.l, c.n), c.skip)
	}
	for _, c := range []struct {
		l    []api.Span
		most int
		want []int
	}{
		{all, -1, nil}, {all, 0, nil}, {all, 1, []int{top}}, {all, 3, []int{top, top - 1, top - 2}}, {of(math.MinInt, 2), top, []int{2, 1, 0}},
		{of(top, top, 0, 1), top, []int{top, 1, 0}}, {of(5, 5, top-1, top, 0, 0), 3, []int{top, top - 1, 5}},
	} {
		if got := spans.IDs(c.l, c.most); !slices.Equal(got, c.want) {
			t.Errorf("IDs %s of %s: %d, want %d", number(c.most), text(c.l), got, c.want)
		}
	}
}

// sets are the functions that return a set, each as one of two lists.
func sets() map[string]func(a, b []api.Span) []api.Span {
	return map[string]func(a, b []api.Span) []api.Span{
		"Make": func(a, _ []api.Span) []api.Span { return spans.Make(a) }, "Union": spans.Union, "Both": spans.Both, "Minus": spans.Minus,
		"First": func(a, _ []api.Span) []api.Span { return spans.First(a, 4) }, "Last": func(a, _ []api.Span) []api.Span { return spans.Last(a, 4) },
		"Skip": func(a, _ []api.Span) []api.Span { return spans.Skip(a, 4) }, "Skip none": func(a, _ []api.Span) []api.Span { return spans.Skip(a, 0) },
		"all of First": func(a, _ []api.Span) []api.Span { return spans.First(a, top) }, "all of Last": func(a, _ []api.Span) []api.Span { return spans.Last(a, top) },
	}
}

// roomy returns a list with capacity behind its end, and all of it.
func roomy(l []api.Span) (short, whole []api.Span) {
	whole = append(slices.Clone(l), of(2, 2, 77, 78, 60, 50)...)
	return whole[:len(l)], whole
}

// TestMemory: R2, arguments are not changed, and results share no memory with
// them or with earlier results, including what is behind the end of a slice.
func TestMemory(t *testing.T) {
	for _, list := range [][]api.Span{nil, of(0, 5), of(0, 5, 7, 9), of(7, 9, 1, 3, 4, 5), of(-4, 3, 9, 8, 20, 30, 3, 6)} {
		for _, other := range [][]api.Span{nil, of(0, 5), of(2, 7, 9, 12), of(40, 40, 2, 7, 6, 9)} {
			a, wholeA := roomy(list)
			b, wholeB := roomy(other)
			oldA, oldB := slices.Clone(wholeA), slices.Clone(wholeB)
			for name, set := range sets() {
				got := set(a, b)
				want := slices.Clone(got)
				spoil(set(a, b))
				same(t, name+" beside a later result", got, want)
				spoil(got)
				same(t, name+" again", set(a, b), want)
				same(t, "first argument of "+name, wholeA, oldA)
				same(t, "second argument of "+name, wholeB, oldB)
			}
			asked(a)
			same(t, "argument that was asked", wholeA, oldA)
		}
	}
}

// spoil overwrites all memory of a list.
func spoil(l []api.Span) {
	l = l[:cap(l)]
	for k := range l {
		l[k] = api.Span{Low: -7, High: -8}
	}
}

// asked calls the functions that return no set.
func asked(l []api.Span) {
	spans.Right(l)
	spans.Has(l, 4)
	spans.Count(l)
	spans.Low(l)
	spans.High(l)
	spans.IDs(l, 4)
}

// TestNumbersMemory: R2, lists of numbers are not changed, and their memory is
// not shared.
func TestNumbersMemory(t *testing.T) {
	whole := []int{9, 3, -1, 4, 3, 70, 60}
	old := slices.Clone(whole)
	spoil(spans.Of(whole[:5]))
	same(t, "Of", spans.Of(whole[:5]), of(3, 4, 9, 9))
	if !slices.Equal(whole, old) {
		t.Errorf("Of has changed its argument: %d", whole)
	}
	l := of(1, 3)
	ids := spans.IDs(l, 2)
	later := spans.IDs(l, 2)
	ids = ids[:cap(ids)]
	for k := range ids {
		ids[k] = -1
	}
	if !slices.Equal(later, []int{3, 2}) || !slices.Equal(spans.IDs(l, 2), []int{3, 2}) {
		t.Errorf("IDs shares memory: %d", later)
	}
}
