package radix_test

import (
	"bytes"
	"maps"
	"math"
	"slices"
	"strconv"
	"strings"
	"testing"

	"taproot/api"
	"taproot/disk"
	"taproot/hex"
	"taproot/log"
	"taproot/octet"
	"taproot/oops"
	"taproot/radix"
)

// entry is a record as the tests know it.
type entry struct {
	kind int
	body []byte
}

// fresh returns a log without records, and its disk.
func fresh(t *testing.T) (*log.Log, *disk.Disk) {
	t.Helper()
	d := disk.New(api.MaxFile)
	return reopened(t, d, 0), d
}

// reopened opens a log that must open, in the file f.
func reopened(t *testing.T, d *disk.Disk, length int) *log.Log {
	t.Helper()
	l, e := log.Open(d, "f", length)
	if e != nil {
		t.Fatalf("Open with length %d: %v", length, e)
	}
	return l
}

// filled returns a log of the records.
func filled(t *testing.T, records ...entry) *log.Log {
	t.Helper()
	l, _ := fresh(t)
	for _, one := range records {
		if e := l.Add(one.kind, one.body); e != nil {
			t.Fatal(e)
		}
	}
	return l
}

// records returns the records of a log.
func records(l *log.Log) []entry {
	var list []entry
	for k := range l.Count() {
		kind, body, _ := l.Record(k)
		list = append(list, entry{kind, body})
	}
	return list
}

// saved returns the number of a Save that must succeed and add at most this
// number of records.
func saved(t *testing.T, what string, x *radix.Tree, l *log.Log, most int) int {
	t.Helper()
	was := records(l)
	n, e := x.Save(l)
	expect(t, what, e, api.OK)
	if added := l.Count() - len(was); added > most || n < 0 || n > l.Count() {
		t.Errorf("%s: %d records more, at most %d may be; the number is %d", what, added, most, n)
	}
	if (n == 0) != (x.Count() == 0) {
		t.Errorf("%s: the number is %d for %d hashes", what, n, x.Count())
	}
	for k, one := range was {
		if kind, body, ok := l.Record(k); kind != one.kind || !bytes.Equal(body, one.body) || !ok {
			t.Errorf("%s: record %d has been changed", what, k)
		}
	}
	return n
}

// loaded returns the tree of a Load that must succeed.
func loaded(t *testing.T, what string, l *log.Log, number int, m model) *radix.Tree {
	t.Helper()
	x, e := radix.Load(l, number)
	expect(t, what, e, api.OK)
	holds(t, what, x, m)
	return x
}

// unloaded reports an error unless Load returns the error and nothing beside.
func unloaded(t *testing.T, what string, l *log.Log, number int, kind api.Errno) {
	t.Helper()
	x, e := radix.Load(l, number)
	expect(t, what, e, kind)
	if x != nil {
		t.Errorf("%s: there is a tree beside the error", what)
	}
}

// TestSaveEmpty: 9.2, an empty tree has the number 0, in any log.
func TestSaveEmpty(t *testing.T) {
	l, d := fresh(t)
	x := radix.New()
	if n := saved(t, "empty", x, l, 0); n != 0 || d.Works() != 0 {
		t.Errorf("the number %d, after %d works", n, d.Works())
	}
	x.Put(of("a"), -1)
	saved(t, "a refused hash", x, l, 0)
	saved(t, "another tree", grown(few()), l, 65*len(few()))
	if n := saved(t, "empty", x, l, 0); n != 0 {
		t.Errorf("the number %d", n)
	}
	loaded(t, "0", l, 0, model{})
	empty, _ := fresh(t)
	x = loaded(t, "0 of an empty log", empty, 0, model{})
	x.Put(of("a"), 3)
	loaded(t, "put into it", empty, saved(t, "put into it", x, empty, 65), model{of("a"): 3})
}

// TestSaveUnchanged: 9.2, no record is added for a tree that has not been
// changed since its Save or Load.
func TestSaveUnchanged(t *testing.T) {
	for _, m := range []model{few(), numbered("a"), many(500)} {
		l, d := fresh(t)
		x := grown(m)
		number := saved(t, "Save", x, l, 65*len(m))
		if l.Count() == 0 {
			t.Error("there is no record")
		}
		works := d.Works()
		for _, same := range []*radix.Tree{x, loaded(t, "Load", l, number, m), loaded(t, "reopened", reopened(t, d, l.Length()), number, m)} {
			for range 3 {
				for h, n := range m {
					if !same.Put(h, n) || same.Put(h, -1) {
						t.Fatal("Put")
					}
				}
				if n := saved(t, "unchanged", same, l, 0); n != number {
					t.Errorf("the number %d became %d", number, n)
				}
			}
		}
		if d.Works() != works {
			t.Error("the disk was accessed")
		}
	}
}

// TestSaveAdds: 9.2, at most 65 records for each Put, and one or more if there
// was something new.
func TestSaveAdds(t *testing.T) {
	for _, m := range []model{few(), many(200)} {
		for _, step := range []int{1, 2, 3, 7} {
			l, _ := fresh(t)
			x, had := radix.New(), model{}
			for list := range slices.Chunk(m.all(""), step) {
				for _, h := range list {
					x.Put(h, m[h])
					had[h] = m[h]
				}
				was := l.Count()
				number := saved(t, "new hashes", x, l, 65*len(list))
				if l.Count() == was {
					t.Error("nothing was added")
				}
				x = loaded(t, "new hashes", l, number, had)
			}
		}
	}
}

// TestSaveDeep: 9.2, at most 65 records if two hashes part at the digit k, for
// each k, whether the first one was saved before or not, and whichever is
// replaced.
func TestSaveDeep(t *testing.T) {
	for k := range 64 {
		common := strings.Repeat("5", k)
		m := numbered(common+"1", common+"2")
		l, _ := fresh(t)
		loaded(t, "both at once", l, saved(t, "both at once", grown(m), l, 130), m)
		for _, first := range m.all("") {
			l, _ := fresh(t)
			x := radix.New()
			x.Put(first, m[first])
			saved(t, "the first", x, l, 65)
			for h := range m {
				x.Put(h, m[h])
			}
			number := saved(t, "both", x, l, 65)
			x = loaded(t, "both", l, number, m)
			x.Put(first, 77)
			replaced := maps.Clone(m)
			replaced[first] = 77
			loaded(t, "replaced", l, saved(t, "replaced", x, l, 65), replaced)
			loaded(t, "both, as before", l, number, m)
		}
	}
}

// TestVersions: 9.3, each number gives the tree as it was then, also in a log
// that is opened again, with other trees and other records between.
func TestVersions(t *testing.T) {
	type version struct {
		number int
		holds  model
	}
	state := uint32(9)
	by := func(n int) int {
		state = state*1664525 + 1013904223
		return int(state>>16) % n
	}
	d := disk.New(api.MaxFile)
	l := reopened(t, d, 0)
	trees := []*radix.Tree{radix.New(), radix.New(), radix.New()}
	models := []model{{}, {}, {}}
	all := append(few().all(""), many(40).all("")...)
	var versions []version
	for range 600 {
		k := by(len(trees))
		switch by(8) {
		case 0:
			old := versions[by(max(1, len(versions))):]
			if len(old) > 0 {
				trees[k], models[k] = loaded(t, "an old one", l, old[0].number, old[0].holds), maps.Clone(old[0].holds)
			}
		case 1:
			l.Add(1+by(255), []byte("of somebody else"))
		case 2:
			l = reopened(t, d, l.Length())
		case 3, 4:
			number := saved(t, "a version", trees[k], l, 65*200)
			versions = append(versions, version{number, maps.Clone(models[k])})
		default:
			for range by(4) {
				h, n := all[by(len(all))], by(5)
				trees[k].Put(h, n)
				models[k][h] = n
			}
		}
	}
	for _, v := range versions {
		loaded(t, "at the end", l, v.number, v.holds)
	}
	l = reopened(t, d, l.Length())
	for _, v := range versions {
		saved(t, "reopened", loaded(t, "reopened", l, v.number, v.holds), l, 0)
	}
}

// TestTreeStays: 9.3, what is put into a tree behind a Save or a Load is not in
// other trees of the same log.
func TestTreeStays(t *testing.T) {
	l, _ := fresh(t)
	x := grown(few())
	number := saved(t, "Save", x, l, 65*len(few()))
	a, b := loaded(t, "a", l, number, few()), loaded(t, "b", l, number, few())
	for h := range few() {
		a.Put(h, 1000)
	}
	a.Put(of("5"), 5)
	holds(t, "the tree that was saved", x, few())
	holds(t, "the tree that was loaded twice", b, few())
	saved(t, "a", a, l, 65*(len(few())+1))
	loaded(t, "b", l, saved(t, "b", b, l, 0), few())
}

// TestNil: R1, a log must be given, even for the empty tree and for one that
// has nothing new.
func TestNil(t *testing.T) {
	l, _ := fresh(t)
	old := grown(few())
	saved(t, "Save", old, l, 65*len(few()))
	for _, x := range []*radix.Tree{radix.New(), grown(few()), old} {
		n, e := x.Save(nil)
		expect(t, "Save", e, api.ErrArg)
		if n != 0 {
			t.Errorf("Save: the number %d", n)
		}
	}
	for _, number := range []int{0, 1, -1, math.MaxInt} {
		unloaded(t, "Load", nil, number, api.ErrArg)
	}
	loaded(t, "as before", l, saved(t, "as before", old, l, 0), few())
}

// TestNumbers: 9.2, ErrForm if there is no record with this number.
func TestNumbers(t *testing.T) {
	l, d := fresh(t)
	number := saved(t, "Save", grown(few()), l, 65*len(few()))
	works := d.Works()
	for _, n := range []int{-1, -number, math.MinInt, math.MinInt + 1, l.Count() + 1, l.Count() + 2, 1 << 40, math.MaxInt} {
		unloaded(t, "number "+strconv.Itoa(n), l, n, api.ErrForm)
	}
	empty, _ := fresh(t)
	for _, n := range []int{-1, 1, 2} {
		unloaded(t, "empty log", empty, n, api.ErrForm)
	}
	if d.Works() != works {
		t.Error("the disk was accessed")
	}
}

// TestLimit: 9.2, ErrForm for more than twice MaxCommits hashes. Only Load has
// a limit.
func TestLimit(t *testing.T) {
	const most = 2 * api.MaxCommits
	m := many(most)
	x := grown(m)
	l, _ := fresh(t)
	number := saved(t, "just as many", x, l, 65*most)
	x.Put(of("77"), 1)
	more := saved(t, "one more", x, l, 65)
	unloaded(t, "one more", l, more, api.ErrForm)
	if x.Count() != most+1 {
		t.Errorf("%d hashes", x.Count())
	}
	again := loaded(t, "just as many", l, number, m)
	again.Put(m.all("")[0], 1<<40)
	unloaded(t, "one more", l, more, api.ErrForm)
	if _, e := radix.Load(l, saved(t, "a replaced number", again, l, 65)); e != nil {
		t.Errorf("a replaced number: %v", e)
	}
}

// single and fork return records as Save encodes them.
func single(h api.Hash, n int) entry {
	w := octet.NewWriter()
	w.Raw(h[:])
	w.Var(n)
	return entry{1, w.Bytes()}
}

func fork(below map[int]int) entry {
	w := octet.NewWriter()
	for k := range 16 {
		w.Var(below[k])
	}
	return entry{2, w.Bytes()}
}

// TestKnown: 9.2, records that are written by hand give a tree, so that those
// of TestUnknown are refused for what is wrong with them only.
func TestKnown(t *testing.T) {
	for what, c := range map[string]struct {
		list []entry
		want model
	}{
		"single": {[]entry{single(of("ab"), 7)}, model{of("ab"): 7}},
		"fork":   {[]entry{single(of("a"), 5), single(of("b"), 6), fork(map[int]int{10: 1, 11: 2})}, model{of("a"): 5, of("b"): 6}},
		"deep": {[]entry{single(of("00a"), 5), single(of("00b"), math.MaxInt), fork(map[int]int{10: 1, 11: 2}), fork(map[int]int{0: 3}), fork(map[int]int{0: 4})},
			model{of("00a"): 5, of("00b"): math.MaxInt}},
		"foreign records": {[]entry{{9, nil}, single(of("1"), 0), {1, nil}, single(of("a"), 0), {2, []byte("x")}, fork(map[int]int{1: 2, 10: 4})},
			model{of("1"): 0, of("a"): 0}},
	} {
		l := filled(t, c.list...)
		x := loaded(t, what, l, l.Count(), c.want)
		saved(t, what, x, l, 0)
	}
}

// TestUnknown: 9.2, ErrForm if a record is not one that Save writes there.
func TestUnknown(t *testing.T) {
	a, b, good := single(of("a"), 5), single(of("b"), 6), fork(map[int]int{10: 1, 11: 2})
	longer := func(one entry) entry { return entry{one.kind, append(bytes.Clone(one.body), 0)} }
	shorter := func(one entry) entry { return entry{one.kind, one.body[:len(one.body)-1]} }
	as := func(kind int, one entry) entry { return entry{kind, one.body} }
	long := append(bytes.Clone(a.body[:32]), 0x85, 0)
	for what, list := range map[string][]entry{
		"an empty record":                {{1, nil}},
		"an empty fork":                  {{2, nil}},
		"a negative number":              {single(of("a"), -1)},
		"the least number":               {single(of("a"), math.MinInt)},
		"a number in too many bytes":     {{1, long}},
		"a single hash, longer":          {longer(a)},
		"a single hash, shorter":         {shorter(a)},
		"a hash without a number":        {{1, a.body[:32]}},
		"a shorter hash":                 {{1, a.body[:31]}},
		"a single hash as a fork":        {as(2, a)},
		"a single hash of kind 3":        {as(3, a)},
		"a single hash of kind 255":      {as(255, a)},
		"a fork as a single hash":        {a, b, as(1, good)},
		"a fork of kind 3":               {a, b, as(3, good)},
		"a longer fork":                  {a, b, longer(good)},
		"a shorter fork":                 {a, b, shorter(good)},
		"a fork to nothing":              {a, b, fork(nil)},
		"a fork to a single hash":        {a, b, fork(map[int]int{10: 1})},
		"a fork to a fork to one":        {a, b, fork(map[int]int{0: 1}), fork(map[int]int{10: 3})},
		"a fork to itself":               {a, b, fork(map[int]int{10: 1, 11: 2, 12: 3})},
		"a fork to itself only":          {a, b, fork(map[int]int{10: 3})},
		"a fork to what comes next":      {b, fork(map[int]int{10: 3, 11: 1}), a},
		"a fork to no record":            {a, b, fork(map[int]int{10: 1, 11: 4})},
		"a fork to a far record":         {a, b, fork(map[int]int{10: 1, 11: math.MaxInt})},
		"a fork to a negative record":    {a, b, fork(map[int]int{10: 1, 11: -1})},
		"a fork to a foreign record":     {a, b, {7, b.body}, fork(map[int]int{10: 1, 11: 3})},
		"the wrong way":                  {a, b, fork(map[int]int{10: 1, 12: 2})},
		"the ways exchanged":             {a, b, fork(map[int]int{10: 2, 11: 1})},
		"the same hash twice":            {a, b, fork(map[int]int{10: 1, 11: 2, 12: 1})},
		"another number for it":          {a, single(of("a"), 6), fork(map[int]int{10: 1, 11: 2})},
		"a deeper fork than there it is": {a, b, good, fork(map[int]int{10: 3})},
		"a fork that is not the top": {single(of("0a"), 1), single(of("0b"), 2), single(of("1"), 3), fork(map[int]int{0: 4, 1: 3}),
			fork(map[int]int{10: 1, 11: 2})},
	} {
		l := filled(t, list...)
		number := l.Count()
		if what == "a fork to what comes next" {
			number = 2
		}
		unloaded(t, what, l, number, api.ErrForm)
	}
}

// TestTooDeep: 9.2, no fork is deeper than a hash has digits.
func TestTooDeep(t *testing.T) {
	zero, one := of(""), of(strings.Repeat("0", 63)+"1")
	list := []entry{single(zero, 1), single(one, 2), fork(map[int]int{0: 1, 1: 2})}
	for len(list) < 66 {
		list = append(list, fork(map[int]int{0: len(list)}))
	}
	loaded(t, "64 forks", filled(t, list...), 66, model{zero: 1, one: 2})
	unloaded(t, "63 forks", filled(t, list[:65]...), 65, api.ErrForm)
	for len(list) < 300 {
		list = append(list, fork(map[int]int{0: len(list)}))
		unloaded(t, "more forks", filled(t, list...), len(list), api.ErrForm)
	}
}

// TestManyPaths: 9.2, Load ends soon for records to which more ways lead than
// could be followed.
func TestManyPaths(t *testing.T) {
	zero, one := of(""), of(strings.Repeat("0", 63)+"1")
	for _, bottom := range []entry{fork(map[int]int{0: 1, 1: 2}), fork(nil), single(zero, 1)} {
		list := []entry{single(zero, 1), single(one, 2), bottom}
		for len(list) < 66 {
			all := map[int]int{}
			for k := range 16 {
				all[k] = len(list)
			}
			list = append(list, fork(all))
		}
		unloaded(t, "many paths", filled(t, list...), 66, api.ErrForm)
	}
}

// TestSpoiled: 9.2, whatever is changed in the records of a tree, Load says
// ErrForm, or gives a tree that agrees with itself.
func TestSpoiled(t *testing.T) {
	l, _ := fresh(t)
	number := saved(t, "Save", grown(numbered("a", "ab", "b1", "b2", "b")), l, 65*5)
	list := records(l)
	spoil := func(k int, one entry) {
		t.Helper()
		spoiled := slices.Clone(list)
		spoiled[k] = one
		m := filled(t, spoiled...)
		x, e := radix.Load(m, number)
		if e != nil {
			unloaded(t, "spoiled", m, number, api.ErrForm)
			return
		}
		agree(t, x)
		if n := saved(t, "spoiled", x, m, 0); n != number {
			t.Errorf("spoiled: the number %d", n)
		}
	}
	for k, one := range list {
		for kind := 1; kind < 6; kind++ {
			spoil(k, entry{kind, one.body})
		}
		for size := range one.body {
			spoil(k, entry{one.kind, one.body[:size]})
		}
		spoil(k, entry{one.kind, append(bytes.Clone(one.body), 1)})
		for at := range one.body {
			for by := 1; by < 256; by++ {
				body := bytes.Clone(one.body)
				body[at] ^= byte(by)
				spoil(k, entry{one.kind, body})
			}
		}
		for _, other := range list {
			spoil(k, other)
		}
	}
}

// agree reports an error unless the hashes that a tree tells are those that it
// finds.
func agree(t *testing.T, x *radix.Tree) {
	t.Helper()
	all := x.All("", math.MaxInt)
	if len(all) != x.Count() || !slices.Equal(hex.Sort(all), all) {
		t.Errorf("spoiled: %d hashes of %d", len(all), x.Count())
	}
	for _, h := range all {
		found, e := x.Prefix(hex.Text(h))
		if n, ok := x.Get(h); n < 0 || !ok || e != nil || found != h {
			t.Errorf("spoiled: Get of %s: %d, %t, %v", hex.Text(h), n, ok, e)
		}
	}
}

// TestNoSpace: 9.2 and R3, ErrSpace for each room that is not enough. Log and
// tree are as before, and Save can be tried again.
func TestNoSpace(t *testing.T) {
	whole := few()
	before := maps.Clone(whole)
	delete(before, of("abcd"))
	delete(before, of("70000001"))
	l, d := fresh(t)
	x := grown(before)
	saved(t, "before", x, l, 65*len(before))
	small := d.Used()
	full := func() *radix.Tree { return grown(whole) }
	l, d = fresh(t)
	saved(t, "all at once", full(), l, 65*len(whole))
	for room := range d.Used() {
		d := disk.New(room)
		l := reopened(t, d, 0)
		refuse(t, d, l, full(), whole)
	}
	// The rest of the file is left for the new records only.
	for rest := range 100 {
		d := disk.New(small + rest)
		l := reopened(t, d, 0)
		x := grown(before)
		number := saved(t, "before", x, l, 65*len(before))
		x.Put(of("abcd"), whole[of("abcd")])
		x.Put(of("70000001"), whole[of("70000001")])
		refuse(t, d, l, x, whole)
		loaded(t, "before", l, number, before)
	}
	retried(t, before, whole)
}

// refuse reports an error unless Save returns ErrSpace and changes nothing.
func refuse(t *testing.T, d *disk.Disk, l *log.Log, x *radix.Tree, m model) {
	t.Helper()
	count, length, was := l.Count(), l.Length(), records(l)
	file, _ := d.Read("f")
	for range 2 {
		n, e := x.Save(l)
		expect(t, "no room", e, api.ErrSpace)
		after, _ := d.Read("f")
		if n != 0 || l.Count() != count || l.Length() != length || !bytes.Equal(file, after) || d.Dead() {
			t.Errorf("no room: the number %d, %d records instead of %d", n, l.Count(), count)
		}
		for k, one := range records(l) {
			if one.kind != was[k].kind || !bytes.Equal(one.body, was[k].body) {
				t.Errorf("no room: record %d has been changed", k)
			}
		}
		holds(t, "no room", x, m)
	}
}

// TestNoSpaceAtAll: 9.2 and R3, the disk is not accessed if not even the first
// record fits.
func TestNoSpaceAtAll(t *testing.T) {
	l, d := fresh(t)
	saved(t, "Save", grown(few()), l, 65*len(few()))
	d = disk.New(d.Used())
	l = reopened(t, d, 0)
	x := grown(few())
	number := saved(t, "just enough", x, l, 65*len(few()))
	x.Put(of("5"), 5)
	d.Fuse(0)
	works := d.Works()
	for range 3 {
		n, e := x.Save(l)
		expect(t, "no room", e, api.ErrSpace)
		if n != 0 || d.Works() != works || d.Dead() {
			t.Errorf("no room: the number %d, %d works more, dead: %t", n, d.Works()-works, d.Dead())
		}
	}
	loaded(t, "as before", l, number, few())
}

// retried reports an error unless a Save that is refused works when there is
// room, and the log can then be opened again.
func retried(t *testing.T, before, whole model) {
	t.Helper()
	for room := 2000; room < 3000; room += 7 {
		d := disk.New(20000 + room)
		d.Append("other", make([]byte, 20000))
		l := reopened(t, d, 0)
		x := grown(before)
		old, e := x.Save(l)
		for h, n := range whole {
			x.Put(h, n)
		}
		if e == nil {
			_, e = x.Save(l)
		}
		expect(t, "no room", e, api.ErrSpace)
		d.Remove("other")
		number := saved(t, "again", x, l, 65*len(whole))
		l = reopened(t, d, l.Length())
		loaded(t, "again", l, number, whole)
		if old != 0 {
			loaded(t, "before", l, old, before)
		}
	}
}

// TestDown: 9.2, ErrDown, whichever operation fails. The tree is as before, and
// what was saved before can be loaded again.
func TestDown(t *testing.T) {
	before, whole := few(), few()
	whole[of("abce")], whole[of("70000001")] = 70, 71
	for works := range 40 {
		d := disk.New(api.MaxFile)
		l := reopened(t, d, 0)
		x := grown(before)
		number := saved(t, "before", x, l, 65*len(before))
		length := l.Length()
		d.Sync()
		for h, n := range whole {
			x.Put(h, n)
		}
		d.Fuse(works)
		n, e := x.Save(l)
		if !d.Dead() {
			loaded(t, "no failure", l, n, whole)
			if works < 3 {
				t.Errorf("%d works were enough", works)
			}
			continue
		}
		expect(t, "a failure", e, api.ErrDown)
		if n != 0 {
			t.Errorf("a failure: the number %d", n)
		}
		holds(t, "a failure", x, whole)
		if n, e = x.Save(l); n != 0 {
			t.Errorf("a dead disk: the number %d", n)
		}
		expect(t, "a dead disk", e, api.ErrDown)
		d.Crash(works, 5)
		l = reopened(t, d, length)
		x = loaded(t, "a crash", l, number, before)
		for h, n := range whole {
			x.Put(h, n)
		}
		loaded(t, "again", l, saved(t, "again", x, l, 130), whole)
	}
}

// TestDownBack: 9.2, ErrDown if the disk is full, and fails when the records
// that were added are removed again: the disk is dead then.
func TestDownBack(t *testing.T) {
	m := few()
	downs, spaces := 0, 0
	for works := range 300 {
		d := disk.New(2000)
		l := reopened(t, d, 0)
		x := grown(m)
		d.Fuse(works)
		n, e := x.Save(l)
		kind := oops.Kind(e)
		if n != 0 || kind != api.ErrDown && kind != api.ErrSpace || d.Dead() != (kind == api.ErrDown) {
			t.Fatalf("%d works: %d, %v, dead: %t", works, n, e, d.Dead())
		}
		holds(t, "refused", x, m)
		if kind == api.ErrDown {
			downs++
			continue
		}
		if spaces++; l.Count() != 0 {
			t.Errorf("%d works: %d records", works, l.Count())
		}
	}
	if downs == 0 || spaces == 0 {
		t.Errorf("%d times down, %d times full", downs, spaces)
	}
}

// TestDownKept: 9.2, if the disk fails, the log has the records that were added
// until then, as the disk does, so that Save can be tried again if a crash
// keeps them.
func TestDownKept(t *testing.T) {
	m := few()
	for works := range 20 {
		l, d := fresh(t)
		x := grown(m)
		d.Fuse(works)
		_, e := x.Save(l)
		expect(t, "a failure", e, api.ErrDown)
		d.Crash(works, 0)
		b, _ := d.Read("f")
		if _, _, length := log.Scan(b); l.Count() != works || l.Length() != length {
			t.Errorf("%d works: %d records, %d bytes; the file has %d", works, l.Count(), l.Length(), length)
		}
		number := saved(t, "again", x, l, 65*len(m))
		loaded(t, "again", reopened(t, d, l.Length()), number, m)
	}
}

// TestInvalidName: 9.2, ErrArg from a log whose file can't be.
func TestInvalidName(t *testing.T) {
	for _, name := range []string{"", strings.Repeat("n", 21)} {
		l, e := log.Open(disk.New(1000), name, 0)
		expect(t, "Open", e, api.OK)
		x := grown(few())
		n, e := x.Save(l)
		expect(t, "Save", e, api.ErrArg)
		if n != 0 || l.Count() != 0 {
			t.Errorf("Save: the number %d, %d records", n, l.Count())
		}
		holds(t, "Save", x, few())
		if n, e := radix.New().Save(l); n != 0 || e != nil {
			t.Errorf("the empty tree: %d, %v", n, e)
		}
	}
}
