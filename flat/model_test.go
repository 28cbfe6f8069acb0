package flat_test

import (
	"maps"
	"math"
	"slices"
	"testing"

	"taproot/api"
	"taproot/flat"
)

// parentsOf returns the parents of each ID of a table.
func parentsOf(of flat.Table) map[int][]int {
	all := map[int][]int{}
	for k, parents := range of.Master {
		all[k] = parents
	}
	for k, parents := range of.Other {
		all[api.Split+k] = parents
	}
	return all
}

// isRight says what Right must say, as the chapter says it.
func isRight(of flat.Table) bool {
	all := parentsOf(of)
	for id, parents := range all {
		different := map[int]bool{}
		for _, p := range parents {
			if _, ok := all[p]; !ok || p >= id {
				return false
			}
			different[p] = true
		}
		if len(parents) > api.MaxParents || len(different) < len(parents) {
			return false
		}
	}
	return true
}

// reached returns an ID and its ancestors.
func reached(all map[int][]int, id int, found map[int]bool) map[int]bool {
	found[id] = true
	for _, p := range all[id] {
		if !found[p] {
			reached(all, p, found)
		}
	}
	return found
}

// isChain reports whether every ID but the first has exactly one parent, the ID
// before it.
func isChain(all map[int][]int, low, high int) bool {
	for id := low + 1; id <= high; id++ {
		if parents, ok := all[id]; !ok || len(parents) != 1 || parents[0] != id-1 {
			return false
		}
	}
	return true
}

// built returns what Build must return for a right table.
func built(of flat.Table) []api.Segment {
	var l []api.Segment
	all := parentsOf(of)
	for _, first := range []int{0, api.Split} {
		low := first
		for ; has(all, low); low = l[len(l)-1].High + 1 {
			high := low
			for isChain(all, low, high+1) {
				high++
			}
			found, head := reached(all, high, map[int]bool{}), true
			for id := first; id <= high; id++ {
				head = head && found[id]
			}
			l = append(l, api.Segment{Low: low, High: high, Parents: all[low], Root: len(all[low]) == 0, Head: head})
		}
	}
	return l
}

// has reports whether an ID is one of the table.
func has(all map[int][]int, id int) bool {
	_, ok := all[id]
	return ok
}

// agree reports an error unless all functions say of a right table what they
// must say.
func agree(t *testing.T, of flat.Table) []api.Segment {
	t.Helper()
	l, all := flat.Build(of), parentsOf(of)
	builds(t, of, text(built(of)))
	for _, low := range []int{0, api.Split} {
		for id := low - 2; id < low+len(all)+2; id++ {
			k, ok := flat.Find(l, id)
			if ok != has(all, id) || ok && (l[k].Low > id || l[k].High < id) || !ok && k != 0 {
				t.Errorf("Find of %s in %s: %d, %t", number(id), text(l), k, ok)
			}
			if got := flat.Parents(l, id); !slices.Equal(got, all[id]) {
				t.Errorf("Parents of %s in %s: %d, want %d", number(id), text(l), got, all[id])
			}
		}
	}
	if t.Failed() {
		t.FailNow()
	}
	return l
}

// choices returns all lists of at most most different ones of the IDs.
func choices(ids []int, most int) [][]int {
	l := [][]int{nil}
	for k := 0; k < len(l); k++ {
		for _, id := range ids {
			if len(l[k]) < most && !slices.Contains(l[k], id) {
				l = append(l, append(slices.Clone(l[k]), id))
			}
		}
	}
	return l
}

// rights calls visit for all right tables of these numbers of IDs.
func rights(masters, others int, visit func(of flat.Table)) {
	var grow func(of flat.Table)
	grow = func(of flat.Table) {
		n := len(of.Master) + len(of.Other)
		if n == masters+others {
			visit(of)
			return
		}
		ids := slices.Sorted(maps.Keys(parentsOf(of)))
		for _, parents := range choices(ids, api.MaxParents) {
			if n < masters {
				grow(flat.Table{Master: append(slices.Clone(of.Master), parents)})
			} else {
				grow(flat.Table{Master: of.Master, Other: append(slices.Clone(of.Other), parents)})
			}
		}
	}
	grow(flat.Table{})
}

// TestAll: 14.1 and 14.2, all right tables of at most five IDs.
func TestAll(t *testing.T) {
	for n := range 6 {
		for masters := range n + 1 {
			rights(masters, n-masters, func(of flat.Table) { agree(t, of) })
		}
	}
}

// TestRightAll: 14.1, all tables of two IDs with any of these numbers as
// parents, at most three of them.
func TestRightAll(t *testing.T) {
	var lists [][]int
	for _, l := range choices([]int{math.MinInt, -1, 0, 1, 2, api.Split - 1, api.Split, api.Split + 1, api.Split + 2, math.MaxInt}, 2) {
		lists = append(lists, l)
		for _, id := range l {
			lists = append(lists, append(slices.Clone(l), id))
		}
	}
	right := 0
	for _, a := range lists {
		for _, b := range lists {
			for _, of := range []flat.Table{{Master: [][]int{a, b}}, {Master: [][]int{a}, Other: [][]int{b}}, {Other: [][]int{a, b}}} {
				if want := isRight(of); want {
					right++
					agree(t, of)
				} else if flat.Right(of) || len(flat.Build(of)) > 0 {
					t.Fatalf("%s is right: %t", words(of), flat.Right(of))
				}
			}
		}
	}
	if right != 6 {
		t.Errorf("%d tables are right", right)
	}
}

// changed calls visit for segments that differ from those of l a little.
func changed(l []api.Segment, visit func(l []api.Segment)) {
	for k, s := range l {
		one := func(change func(s *api.Segment)) {
			other := slices.Clone(l)
			change(&other[k])
			visit(other)
		}
		one(func(s *api.Segment) { s.Root = !s.Root })
		one(func(s *api.Segment) { s.Head = !s.Head })
		for d := -2; d <= 2; d++ {
			one(func(s *api.Segment) { s.Low += d })
			one(func(s *api.Segment) { s.High += d })
			one(func(s *api.Segment) { s.Low, s.High = s.Low+d, s.High+d })
		}
		one(func(s *api.Segment) {
			s.Low, s.High = (s.Low+api.Split)%(2*api.Split), (s.High+api.Split)%(2*api.Split)
		})
		for _, id := range []int{-1, 0, 1, 2, 3, api.Split - 1, api.Split, api.Split + 1, api.Split + 2} {
			one(func(s *api.Segment) { s.Parents = append(slices.Clone(s.Parents), id) })
			one(func(s *api.Segment) { s.Parents = append([]int{id}, s.Parents...) })
			one(func(s *api.Segment) { s.Parents, s.Root = append([]int{id}, s.Parents...), false })
			one(func(s *api.Segment) { s.Parents = []int{id} })
			one(func(s *api.Segment) { s.Parents, s.Root = []int{id}, false })
		}
		one(func(s *api.Segment) { s.Parents = nil })
		one(func(s *api.Segment) { s.Parents, s.Root = nil, true })
		visit(slices.Delete(slices.Clone(l), k, k+1))
		visit(slices.Insert(slices.Clone(l), k, s))
		for mid := s.Low; mid < s.High; mid++ {
			lower, upper := s, api.Segment{Low: mid + 1, High: s.High, Parents: []int{mid}, Head: s.Head}
			lower.High = mid
			visit(slices.Replace(slices.Clone(l), k, k+1, lower, upper))
		}
		if k > 0 {
			other := slices.Clone(l)
			other[k-1], other[k] = other[k], other[k-1]
			visit(other)
			joined := l[k-1]
			joined.High = s.High
			visit(slices.Replace(slices.Clone(l), k-1, k+1, joined))
		}
	}
}

// TestBackAll: 14.2, of what differs a little from what Build makes of the
// tables of at most three IDs, Back takes only what Build makes of some table.
func TestBackAll(t *testing.T) {
	made := map[string]string{}
	for n := range 6 {
		for masters := range n + 1 {
			rights(masters, n-masters, func(of flat.Table) { made[text(flat.Build(of))] = words(of) })
		}
	}
	taken, refused := 0, 0
	check := func(l []api.Segment) {
		want, right := made[text(l)]
		if !right {
			want = "|"
			refused++
		} else {
			taken++
		}
		if of, ok := flat.Back(l); ok != right || words(of) != want {
			t.Fatalf("Back of %s: %s, %t, want %s, %t", text(l), words(of), ok, want, right)
		}
	}
	for n := range 4 {
		for masters := range n + 1 {
			rights(masters, n-masters, func(of flat.Table) { changed(flat.Build(of), check) })
		}
	}
	if taken < 100 || refused < 1000 {
		t.Errorf("%d are taken and %d refused", taken, refused)
	}
}

// chance tells numbers that look as if they were chosen at random.
type chance uint32

func (c *chance) below(n int) int {
	*c = *c*1664525 + 1013904223
	return int(*c>>12) % n
}

// parents returns parents of an ID of a group: often the ID before it alone, and
// otherwise any of all IDs before it.
func (c *chance) parents(all []int, first bool) []int {
	if len(all) == 0 {
		return nil
	}
	if !first && c.below(3) > 0 {
		return []int{all[len(all)-1]}
	}
	var l []int
	for range c.below(6) {
		near := max(0, len(all)-1-c.below(6))
		if c.below(4) == 0 {
			near = c.below(len(all))
		}
		if id := all[near]; len(l) < api.MaxParents && !slices.Contains(l, id) {
			l = append(l, id)
		}
	}
	return l
}

// table returns a right table.
func (c *chance) table() flat.Table {
	var of flat.Table
	var all []int
	for k := range c.below(30) {
		of.Master = append(of.Master, c.parents(all, k == 0))
		all = append(all, k)
	}
	for k := range c.below(30) {
		of.Other = append(of.Other, c.parents(all, k == 0))
		all = append(all, api.Split+k)
	}
	return of
}

// TestModel: 14.1 and 14.2, tables of many IDs.
func TestModel(t *testing.T) {
	heads, none, roots, long := 0, 0, 0, 0
	for seed := range 3000 {
		c := chance(seed)
		for _, s := range agree(t, c.table()) {
			if s.Low == 0 || s.Low == api.Split {
				continue
			}
			if s.Head {
				heads++
			} else {
				none++
			}
			if s.Root {
				roots++
			}
			if s.High > s.Low+2 {
				long++
			}
		}
	}
	if min(heads, none, roots, long) < 1000 {
		t.Errorf("%d segments are heads, %d are not, %d are roots and %d are long", heads, none, roots, long)
	}
}

// TestModelWrong: 14.1, tables of many IDs of which one parent is changed.
func TestModelWrong(t *testing.T) {
	right, wrong := 0, 0
	for seed := range 20000 {
		c := chance(seed)
		of := c.table()
		lists := slices.Concat(of.Master, of.Other)
		if len(lists) == 0 {
			continue
		}
		l := lists[c.below(len(lists))]
		if len(l) == 0 {
			continue
		}
		id := c.below(33)
		l[c.below(len(l))] = id - 1 + api.Split*c.below(2)
		if isRight(of) {
			right++
			agree(t, of)
			continue
		}
		wrong++
		if flat.Right(of) || len(flat.Build(of)) > 0 {
			t.Fatalf("%s is right: %t", words(of), flat.Right(of))
		}
	}
	if min(right, wrong) < 1000 {
		t.Errorf("%d tables are right and %d are not", right, wrong)
	}
}
