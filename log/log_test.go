package log_test

import (
	"bytes"
	"errors"
	"math"
	"runtime"
	"slices"
	"strconv"
	"strings"
	"testing"

	"taproot/api"
	"taproot/disk"
	"taproot/frame"
	"taproot/log"
	"taproot/oops"
)

// entry is a record as the tests know it.
type entry struct {
	kind int
	body string
}

// encoded returns the bytes of the records.
func encoded(entries ...entry) []byte {
	var b []byte
	for _, one := range entries {
		next, _ := frame.Lay(one.kind, []byte(one.body))
		b = append(b, next...)
	}
	return b
}

// three are records of 10, 9 and 12 bytes, so that they end at 10, 19 and 31.
func three() []entry { return []entry{{1, "a"}, {255, ""}, {3, "ccc"}} }

// expect reports an error unless e is of the kind, as both oops and errors
// tell it, with these Steps around it.
func expect(t *testing.T, what string, e error, kind api.Errno, steps ...string) {
	t.Helper()
	if oops.Kind(e) != kind || (e == nil) != (kind == api.OK) || kind != api.OK && !errors.Is(e, kind) {
		t.Errorf("%s: %v, want %v", what, e, kind)
	}
	if got := oops.Steps(e); !slices.Equal(got, steps) {
		t.Errorf("%s: the steps %q, want %q", what, got, steps)
	}
}

// holds reports an error unless the log has exactly these records.
func holds(t *testing.T, what string, l *log.Log, want ...entry) {
	t.Helper()
	if l.Count() != len(want) || l.Length() != len(encoded(want...)) {
		t.Errorf("%s: %d records, %d bytes; want %d, %d", what, l.Count(), l.Length(), len(want), len(encoded(want...)))
		return
	}
	for k, one := range want {
		if kind, body, ok := l.Record(k); kind != one.kind || string(body) != one.body || !ok {
			t.Errorf("%s: record %d: %d %q, %t", what, k, kind, body, ok)
		}
	}
	for _, k := range []int{-1, len(want), len(want) + 1, math.MinInt, math.MaxInt} {
		if kind, body, ok := l.Record(k); kind != 0 || len(body) != 0 || ok {
			t.Errorf("%s: record %d: %d %q, %t", what, k, kind, body, ok)
		}
	}
}

// has reports an error unless the file f has these bytes and the disk has
// executed so many operations.
func has(t *testing.T, what string, d *disk.Disk, want []byte, works int) {
	t.Helper()
	if b, exists := d.Read("f"); !exists || !bytes.Equal(b, want) {
		t.Errorf("%s: the file: %q, %t, want %q", what, b, exists, want)
	}
	if d.Works() != works {
		t.Errorf("%s: %d works, want %d", what, d.Works(), works)
	}
}

// with returns a synced disk with the file f of these bytes. It has executed
// two operations.
func with(b []byte) *disk.Disk {
	d := disk.New(api.MaxFile)
	d.Append("f", b)
	d.Sync()
	return d
}

// opened opens a log that must open, in the file f.
func opened(t *testing.T, d *disk.Disk, length int) *log.Log {
	t.Helper()
	l, e := log.Open(d, "f", length)
	if e != nil || l == nil {
		t.Fatalf("Open with length %d: %v", length, e)
	}
	return l
}

// filled returns a log of the records, in the file f of its disk, which has
// executed an operation for each of them.
func filled(t *testing.T, entries ...entry) (*log.Log, *disk.Disk) {
	t.Helper()
	d := disk.New(api.MaxFile)
	l := opened(t, d, 0)
	for _, one := range entries {
		expect(t, "Add", l.Add(one.kind, []byte(one.body)), api.OK)
	}
	return l, d
}

// refused reports an error unless Open returns the error and nothing beside.
func refused(t *testing.T, what string, d *disk.Disk, name string, length int, kind api.Errno, steps ...string) {
	t.Helper()
	l, e := log.Open(d, name, length)
	expect(t, what, e, kind, steps...)
	if l != nil {
		t.Errorf("%s: there is a log beside the error", what)
	}
}

// invalid returns 12 bytes that are no record, for each error of frame.Next.
func invalid() map[api.Errno][]byte {
	sum := encoded(entry{1, "abc"})
	sum[11] ^= 1
	return map[api.Errno][]byte{
		api.ErrForm:  make([]byte, 12),
		api.ErrShort: encoded(entry{1, "abcd"})[:12],
		api.ErrSum:   sum,
	}
}

// TestExample: the example of chapter 7.
func TestExample(t *testing.T) {
	l, d := filled(t, entry{1, "abc"}, entry{2, "defg"})
	holds(t, "Add", l, entry{1, "abc"}, entry{2, "defg"})
	holds(t, "Open", opened(t, d, 12), entry{1, "abc"})
}

// TestScan: 7.1, the records from the beginning, and how many bytes they have.
func TestScan(t *testing.T) {
	all := encoded(three()...)
	ends := map[int]int{10: 1, 19: 2, 31: 3}
	count, length := 0, 0
	for size := range len(all) + 1 {
		if n, ends := ends[size]; ends {
			count, length = n, size
		}
		scanned(t, "a part", all[:size], length, three()[:count])
	}
	scanned(t, "nil", nil, 0, nil)
	for _, spoiled := range invalid() {
		scanned(t, "invalid alone", spoiled, 0, nil)
		scanned(t, "invalid behind", slices.Concat(all, spoiled), 31, three())
		scanned(t, "invalid between", slices.Concat(all[:19], spoiled, all), 19, three()[:2])
	}
	long := entry{7, strings.Repeat("long", api.MaxRecord/4)}
	scanned(t, "the longest", encoded(long, long), 2*(9+api.MaxRecord), []entry{long, long})
}

// scanned reports an error unless Scan of b returns these records.
func scanned(t *testing.T, what string, b []byte, size int, want []entry) {
	t.Helper()
	kinds, bodies, length := log.Scan(b)
	if len(kinds) != len(want) || len(bodies) != len(want) || length != size {
		t.Errorf("%s of %d bytes: %d kinds, %d bodies, length %d; want %d records, length %d", what, len(b), len(kinds), len(bodies), length, len(want), size)
		return
	}
	for k, one := range want {
		if kinds[k] != one.kind || string(bodies[k]) != one.body {
			t.Errorf("%s: record %d: %d, %d bytes", what, k, kinds[k], len(bodies[k]))
		}
	}
}

// TestScanChanged: 7.1, a changed bit is found, and the records in front of it
// are returned.
func TestScanChanged(t *testing.T) {
	all := encoded(three()...)
	for bit := range 8 * len(all) {
		changed := bytes.Clone(all)
		changed[bit/8] ^= 1 << (bit % 8)
		switch at := bit / 8; {
		case at < 10:
			scanned(t, "in the first", changed, 0, nil)
		case at < 19:
			scanned(t, "in the second", changed, 10, three()[:1])
		default:
			scanned(t, "in the third", changed, 19, three()[:2])
		}
	}
}

// TestOpenNoFile: 7.1, a file that does not exist is a log without records,
// and stays as it is.
func TestOpenNoFile(t *testing.T) {
	d := disk.New(100)
	holds(t, "no file", opened(t, d, 0))
	refused(t, "no file", d, "f", 1, api.ErrShort)
	refused(t, "no file", d, "f", math.MaxInt, api.ErrShort)
	if len(d.Names()) != 0 || d.Works() != 0 {
		t.Errorf("Open left %q and %d works", d.Names(), d.Works())
	}
	for _, name := range []string{"", strings.Repeat("n", 21)} {
		l, e := log.Open(d, name, 0)
		expect(t, "a name that is invalid", e, api.OK)
		expect(t, "Add to it", l.Add(1, nil), api.ErrArg)
		expect(t, "Cut of it", l.Cut(0), api.OK)
		holds(t, "a name that is invalid", l)
		refused(t, "a name that is invalid", d, name, 1, api.ErrShort)
	}
}

// TestOpen: 7.1, the first length bytes count. What is behind them is removed,
// whatever it is, and nothing is done if there is none.
func TestOpen(t *testing.T) {
	all := encoded(three()...)
	for count, length := range []int{0, 10, 19, 31} {
		for _, more := range [][]byte{all[length:], all, []byte("x"), make([]byte, 100), nil} {
			d := with(slices.Concat(all[:length], more))
			l := opened(t, d, length)
			holds(t, "Open", l, three()[:count]...)
			works := 2 + min(len(more), 1)
			has(t, "Open", d, all[:length], works)
			expect(t, "Add", l.Add(4, []byte("next")), api.OK)
			holds(t, "Add", l, append(three()[:count], entry{4, "next"})...)
			has(t, "Add", d, encoded(append(three()[:count], entry{4, "next"})...), works+1)
		}
	}
	d := with(nil)
	holds(t, "a file without bytes", opened(t, d, 0))
	has(t, "a file without bytes", d, nil, 2)
}

// TestOpenArg: 7.1, ErrArg goes ahead of all other errors.
func TestOpenArg(t *testing.T) {
	refused(t, "nil", nil, "f", 0, api.ErrArg)
	refused(t, "nil", nil, "f", 5, api.ErrArg)
	refused(t, "nil", nil, "", -1, api.ErrArg)
	d := with(encoded(three()...))
	for _, length := range []int{-1, math.MinInt} {
		refused(t, "negative", d, "f", length, api.ErrArg)
		refused(t, "negative, no file", d, "none", length, api.ErrArg)
		refused(t, "negative, no name", d, "", length, api.ErrArg)
	}
	has(t, "refused", d, encoded(three()...), 2)
}

// TestOpenShort: 7.1, ErrShort for a file with too few bytes, without a Step,
// and ahead of the errors of its records.
func TestOpenShort(t *testing.T) {
	for _, b := range append(slices.Collect(valuesOf(invalid())), encoded(three()...), nil) {
		d := with(b)
		for _, length := range []int{len(b) + 1, len(b) + 9, math.MaxInt} {
			refused(t, "too few bytes", d, "f", length, api.ErrShort)
		}
		refused(t, "another file", d, "g", 1, api.ErrShort)
		has(t, "refused", d, b, 2)
	}
}

// valuesOf returns what is invalid, without its errors.
func valuesOf(all map[api.Errno][]byte) func(func([]byte) bool) {
	return func(yield func([]byte) bool) {
		for _, b := range all {
			if !yield(b) {
				return
			}
		}
	}
}

// TestOpenInvalid: 7.1, the error of the first invalid record within the first
// length bytes, wrapped, and the file stays as it is.
func TestOpenInvalid(t *testing.T) {
	all := encoded(three()...)
	for kind, spoiled := range invalid() {
		for count, length := range []int{0, 10, 19, 31} {
			b := slices.Concat(all[:length], spoiled)
			d := with(b)
			refused(t, "the last one", d, "f", len(b), kind, "log")
			has(t, "the last one", d, b, 2)
			holds(t, "without it", opened(t, d, length), three()[:count]...)
			has(t, "without it", d, all[:length], 3)
		}
		_, e := log.Open(with(spoiled), "f", len(spoiled))
		var step *oops.Step
		if !errors.As(e, &step) || step.Name != "log" || step.Err != kind {
			t.Errorf("%v is not wrapped by a Step: %v", kind, e)
		}
		sum := slices.Concat(all, invalid()[api.ErrSum], spoiled)
		refused(t, "the second one", with(sum), "f", len(sum), api.ErrSum, "log")
		form := slices.Concat(all, invalid()[api.ErrForm], spoiled)
		refused(t, "the second one", with(form), "f", len(form), api.ErrForm, "log")
	}
}

// TestOpenWithin: 7.1, a record that does not end within the first length
// bytes is too short, although the file has the rest of it.
func TestOpenWithin(t *testing.T) {
	all := encoded(three()...)
	ends := map[int]int{0: 0, 10: 1, 19: 2, 31: 3}
	for length := range len(all) + 1 {
		d := with(all)
		if count, ok := ends[length]; ok {
			holds(t, "an end", opened(t, d, length), three()[:count]...)
			continue
		}
		refused(t, "no end", d, "f", length, api.ErrShort, "log")
		has(t, "no end", d, all, 2)
	}
}

// TestOpenDisk: 7.1, the error of the disk is returned as it is, and only if
// there are bytes to remove and no other error applies.
func TestOpenDisk(t *testing.T) {
	all := encoded(three()...)
	for _, length := range []int{0, 10, 19} {
		d := with(all)
		d.Fuse(0)
		refused(t, "the last operation", d, "f", length, api.ErrDown)
		d.Crash(0, 0)
		has(t, "the last operation", d, all, 2)
	}
	d := with(all)
	d.Fuse(0)
	holds(t, "nothing to remove", opened(t, d, 31), three()...)
	refused(t, "ahead of the disk", d, "f", 11, api.ErrShort, "log")
	refused(t, "ahead of the disk", d, "f", 32, api.ErrShort)
	if d.Dead() {
		t.Error("the disk was accessed")
	}
}

// TestOpenDead: 7.1, a dead disk says of each file that it does not exist.
func TestOpenDead(t *testing.T) {
	d := with(encoded(three()...))
	d.Fuse(0)
	d.Sync()
	holds(t, "dead", opened(t, d, 0))
	refused(t, "dead", d, "f", 31, api.ErrShort)
	refused(t, "dead", d, "f", -1, api.ErrArg)
	d.Crash(0, 0)
	has(t, "alive", d, encoded(three()...), 2)
	holds(t, "alive", opened(t, d, 31), three()...)
}

// TestAdd: 7.2, the record is the last one, in the log and in the file.
func TestAdd(t *testing.T) {
	l, d := filled(t)
	var all []entry
	for kind := 1; kind <= 255; kind++ {
		all = append(all, entry{kind, strings.Repeat("b", kind%7)})
		expect(t, "Add", l.Add(kind, []byte(all[kind-1].body)), api.OK)
	}
	holds(t, "Add", l, all...)
	has(t, "Add", d, encoded(all...), 255)
	if d.Pending() != 255 {
		t.Errorf("%d operations are pending", d.Pending())
	}
	expect(t, "nil", l.Add(1, nil), api.OK)
	expect(t, "empty", l.Add(2, []byte{}), api.OK)
	long := strings.Repeat("long", api.MaxRecord/4)
	expect(t, "the longest", l.Add(3, []byte(long)), api.OK)
	all = append(all, entry{1, ""}, entry{2, ""}, entry{3, long})
	holds(t, "short and long", l, all...)
	has(t, "short and long", d, encoded(all...), 258)
	holds(t, "Open", opened(t, d, l.Length()), all...)
}

// TestAddErrors: 7.2, the errors of frame.Lay, then those of the disk, without
// a Step; nothing is added then.
func TestAddErrors(t *testing.T) {
	d := disk.New(31)
	l := opened(t, d, 0)
	arg := func(what string) {
		t.Helper()
		for _, kind := range []int{0, -1, 256, math.MinInt, math.MaxInt} {
			expect(t, what, l.Add(kind, nil), api.ErrArg)
		}
		expect(t, what, l.Add(1, make([]byte, api.MaxRecord+1)), api.ErrArg)
	}
	arg("no file")
	if len(d.Names()) != 0 {
		t.Errorf("there is %q", d.Names())
	}
	for _, one := range three() {
		expect(t, "Add", l.Add(one.kind, []byte(one.body)), api.OK)
	}
	arg("a full disk")
	expect(t, "a full disk", l.Add(1, nil), api.ErrSpace)
	d.Fuse(0)
	arg("an armed failure")
	expect(t, "an armed failure", l.Add(1, nil), api.ErrSpace)
	expect(t, "Sync", d.Sync(), api.ErrDown)
	arg("a dead disk")
	expect(t, "a dead disk", l.Add(1, nil), api.ErrDown)
	holds(t, "refused", l, three()...)
	d.Crash(3, 0)
	has(t, "refused", d, encoded(three()...), 3)
}

// TestAddFuse: 7.2, the operation at which the disk fails adds nothing.
func TestAddFuse(t *testing.T) {
	l, d := filled(t, three()...)
	d.Fuse(1)
	expect(t, "good", l.Add(4, []byte("d")), api.OK)
	expect(t, "failing", l.Add(5, []byte("e")), api.ErrDown)
	holds(t, "failed", l, append(three(), entry{4, "d"})...)
	d.Crash(4, 0)
	expect(t, "again", l.Add(6, nil), api.OK)
	holds(t, "again", l, append(three(), entry{4, "d"}, entry{6, ""})...)
	has(t, "again", d, encoded(append(three(), entry{4, "d"}, entry{6, ""})...), 5)
}

// TestCut: 7.2, records remain up to where one of them ends, and the next one
// is added there.
func TestCut(t *testing.T) {
	for count, length := range []int{0, 10, 19, 31} {
		l, d := filled(t, three()...)
		left := three()[:count]
		expect(t, "Cut", l.Cut(length), api.OK)
		holds(t, "Cut", l, left...)
		has(t, "Cut", d, encoded(left...), 4)
		expect(t, "again", l.Cut(length), api.OK)
		holds(t, "again", l, left...)
		has(t, "again", d, encoded(left...), 5)
		expect(t, "Add", l.Add(4, []byte("next")), api.OK)
		left = append(left, entry{4, "next"})
		holds(t, "Add", l, left...)
		has(t, "Add", d, encoded(left...), 6)
		holds(t, "Open", opened(t, d, length+13), left...)
		expect(t, "where it was", l.Cut(length), api.OK)
		holds(t, "where it was", l, left[:count]...)
	}
}

// TestCutOpened: 7.2, the records that Open found are cut like added ones.
func TestCutOpened(t *testing.T) {
	for count, length := range []int{0, 10, 19, 31} {
		d := with(encoded(three()...))
		l := opened(t, d, 31)
		expect(t, "Cut", l.Cut(length), api.OK)
		holds(t, "Cut", l, three()[:count]...)
		has(t, "Cut", d, encoded(three()[:count]...), 3)
	}
}

// TestCutArg: 7.2, ErrArg where no record ends, ahead of the errors of the
// disk, and nothing is changed.
func TestCutArg(t *testing.T) {
	l, d := filled(t, three()...)
	check := func(what string) {
		t.Helper()
		for length := -2; length < 100; length++ {
			if !slices.Contains([]int{0, 10, 19, 31}, length) {
				expect(t, what, l.Cut(length), api.ErrArg)
			}
		}
		expect(t, what, l.Cut(math.MinInt), api.ErrArg)
		expect(t, what, l.Cut(math.MaxInt), api.ErrArg)
		holds(t, what, l, three()...)
	}
	check("no end")
	has(t, "no end", d, encoded(three()...), 3)
	d.Fuse(0)
	check("an armed failure")
	if d.Sync(); !d.Dead() {
		t.Error("the failure was not armed")
	}
	check("a dead disk")
	l, _ = filled(t)
	for _, length := range []int{-1, 1, 9, 10} {
		expect(t, "no records", l.Cut(length), api.ErrArg)
	}
	holds(t, "no records", l)
}

// TestCutDisk: 7.2, the errors of the disk, without a Step; no records are
// removed then.
func TestCutDisk(t *testing.T) {
	for _, length := range []int{0, 10, 19, 31} {
		l, d := filled(t, three()...)
		d.Fuse(0)
		expect(t, "the last operation", l.Cut(length), api.ErrDown)
		holds(t, "the last operation", l, three()...)
		d.Crash(3, 0)
		has(t, "the last operation", d, encoded(three()...), 3)
		if length == 0 {
			continue
		}
		d.Truncate("f", length-1)
		expect(t, "a shorter file", l.Cut(length), api.ErrArg)
		d.Remove("f")
		expect(t, "no file", l.Cut(length), api.ErrUnknown)
		d.Fuse(0)
		d.Sync()
		expect(t, "a dead disk", l.Cut(length), api.ErrDown)
		holds(t, "refused", l, three()...)
	}
}

// TestCutNoFile: 7.2, the disk is not accessed for the length 0 if the file
// does not exist, but the records are removed.
func TestCutNoFile(t *testing.T) {
	l, d := filled(t)
	d.Fuse(0)
	expect(t, "no records", l.Cut(0), api.OK)
	if d.Works() != 0 || d.Dead() || len(d.Names()) != 0 {
		t.Errorf("%d works, dead: %t, %q", d.Works(), d.Dead(), d.Names())
	}
	l, d = filled(t, three()...)
	d.Remove("f")
	d.Fuse(0)
	expect(t, "removed", l.Cut(0), api.OK)
	holds(t, "removed", l)
	if d.Works() != 4 || d.Dead() || len(d.Names()) != 0 {
		t.Errorf("%d works, dead: %t, %q", d.Works(), d.Dead(), d.Names())
	}
	d.Fuse(-1)
	expect(t, "Add", l.Add(9, []byte("new")), api.OK)
	holds(t, "Add", l, entry{9, "new"})
	has(t, "Add", d, encoded(entry{9, "new"}), 5)
}

// TestCutDead: 7.2, a dead disk says that the file does not exist, so that
// the records are removed from the log alone.
func TestCutDead(t *testing.T) {
	l, d := filled(t, three()...)
	d.Fuse(0)
	d.Sync()
	holds(t, "dead", l, three()...)
	expect(t, "dead", l.Cut(0), api.OK)
	holds(t, "cut", l)
	if !d.Dead() || d.Works() != 3 {
		t.Errorf("%d works, dead: %t", d.Works(), d.Dead())
	}
	d.Crash(3, 0)
	has(t, "alive", d, encoded(three()...), 3)
	expect(t, "alive", l.Cut(0), api.OK)
	has(t, "alive", d, nil, 4)
}

// TestCutBehind: 7.2, the file is truncated even if no records are removed.
func TestCutBehind(t *testing.T) {
	l, d := filled(t, three()...)
	d.Append("f", []byte("something else"))
	expect(t, "behind all", l.Cut(31), api.OK)
	holds(t, "behind all", l, three()...)
	has(t, "behind all", d, encoded(three()...), 5)
	d = with(nil)
	l = opened(t, d, 0)
	d.Append("f", []byte("something else"))
	expect(t, "behind none", l.Cut(0), api.OK)
	has(t, "behind none", d, nil, 4)
}

// TestMemory: R2, what is given is neither changed nor kept, up to its
// capacity, and what is returned is not shared.
func TestMemory(t *testing.T) {
	l, d := filled(t)
	given := []byte("abc and more")
	l.Add(1, given[:3])
	l.Add(2, given[4:7])
	if string(given) != "abc and more" {
		t.Errorf("the argument became %q", given)
	}
	clear(given)
	want := []entry{{1, "abc"}, {2, "and"}}
	for _, l := range []*log.Log{l, opened(t, d, l.Length())} {
		for range 2 {
			holds(t, "memory", l, want...)
			for k := range want {
				_, body, _ := l.Record(k)
				clear(body[:cap(body)])
			}
		}
	}
	has(t, "memory", d, encoded(want...), 2)
}

// TestScanMemory: R2, Scan changes nothing, and its results share no memory.
func TestScanMemory(t *testing.T) {
	all := append(three(), entry{4, strings.Repeat("long", 100)}, entry{5, ""})
	b := encoded(all...)
	_, bodies, _ := log.Scan(b)
	if !bytes.Equal(b, encoded(all...)) {
		t.Errorf("the argument became %q", b)
	}
	clear(b)
	for k, body := range bodies {
		if string(body) != all[k].body {
			t.Errorf("body %d became %q", k, body)
		}
		clear(body[:cap(body)])
	}
	b = encoded(all...)
	kinds, bodies, _ := log.Scan(b)
	clear(kinds[:cap(kinds)])
	for _, body := range bodies {
		clear(body[:cap(body)])
	}
	scanned(t, "again", b, len(b), all)
}

// TestIndependent: R7, logs have nothing to do with one another, in files of
// one disk or of several.
func TestIndependent(t *testing.T) {
	l, d := filled(t, three()...)
	g, e := log.Open(d, "g", 0)
	expect(t, "Open", e, api.OK)
	other, far := filled(t, entry{7, "far"})
	g.Add(8, []byte("near"))
	holds(t, "f", l, three()...)
	holds(t, "g", g, entry{8, "near"})
	l.Cut(10)
	g.Add(9, nil)
	holds(t, "f", l, three()[:1]...)
	holds(t, "g", g, entry{8, "near"}, entry{9, ""})
	holds(t, "far", other, entry{7, "far"})
	has(t, "f", d, encoded(three()[:1]...), 6)
	has(t, "far", far, encoded(entry{7, "far"}), 1)
	if b, _ := d.Read("g"); !bytes.Equal(b, encoded(entry{8, "near"}, entry{9, ""})) {
		t.Errorf("g: %q", b)
	}
}

// TestCrash: 7.1, whatever a crash leaves behind the synced bytes, the log
// opens with the length that it had then.
func TestCrash(t *testing.T) {
	for done := range 3 {
		for cut := range 20 {
			l, d := filled(t, three()...)
			d.Sync()
			l.Add(4, []byte("more"))
			l.Add(5, []byte("and more"))
			d.Crash(done, cut)
			b, _ := d.Read("f")
			if _, _, length := log.Scan(b); length < 31 || length > len(b) {
				t.Errorf("Scan after Crash(%d, %d): %d of %d", done, cut, length, len(b))
			}
			holds(t, "Open", opened(t, d, 31), three()...)
		}
	}
}

// TestModel: 7.1 and 7.2, long runs of adding, cutting, opening and failing,
// compared with a plain list.
func TestModel(t *testing.T) {
	state := uint32(1)
	by := func(n int) int {
		state = state*1664525 + 1013904223
		return int(state>>16) % n
	}
	for range 200 {
		d := disk.New(400)
		l := opened(t, d, 0)
		var want []entry
		for range 200 {
			switch by(8) {
			case 0:
				length := by(l.Length() + 2)
				count := slices.Index(ends(want), length)
				if e := l.Cut(length); (e == nil) != (count >= 0) {
					t.Fatalf("Cut(%d) of %v: %v", length, ends(want), e)
				}
				if count >= 0 {
					want = want[:count]
				}
			case 1:
				count := by(len(want) + 1)
				want = want[:count]
				l = opened(t, d, ends(want)[count])
			case 2:
				d.Sync()
				d.Fuse(0)
				expect(t, "a dying disk", l.Add(1, nil), dying(d, want))
				d.Crash(0, 0)
			default:
				one := entry{1 + by(255), "0123456789abcdefghij"[by(20):]}
				kind := api.OK
				if len(encoded(append(slices.Clip(want), one)...)) > 400 {
					kind = api.ErrSpace
				} else {
					want = append(slices.Clip(want), one)
				}
				expect(t, "Add", l.Add(one.kind, []byte(one.body)), kind)
			}
			holds(t, "a run", l, want...)
			if b, _ := d.Read("f"); !bytes.Equal(b, encoded(want...)) {
				t.Fatalf("the file: %q, want %q", b, encoded(want...))
			}
		}
	}
}

// ends returns 0 and where each of the records ends.
func ends(entries []entry) []int {
	all := []int{0}
	for k := range entries {
		all = append(all, len(encoded(entries[:k+1]...)))
	}
	return all
}

// dying returns the error of adding a record without a body to a disk whose
// next operation fails.
func dying(d *disk.Disk, entries []entry) api.Errno {
	if len(encoded(append(slices.Clip(entries), entry{1, ""})...)) > 400 {
		return api.ErrSpace
	}
	return api.ErrDown
}

// TestMany: R1, each record costs what it has itself, however many there are:
// otherwise this would take until the test is stopped.
func TestMany(t *testing.T) {
	const many = 1 << 18
	l, d := filled(t)
	for k := range many {
		expect(t, "Add", l.Add(1+k%255, nil), api.OK)
		if l.Length() != 9*(k+1) || l.Count() != k+1 {
			t.Fatalf("%d bytes, %d records", l.Length(), l.Count())
		}
	}
	l = opened(t, d, 9*many)
	for k := range many {
		if kind, _, ok := l.Record(k); kind != 1+k%255 || !ok {
			t.Fatalf("record %d: %d, %t", k, kind, ok)
		}
	}
	for k := range many / 2 {
		expect(t, "Cut", l.Cut(9*(many-k-1)), api.OK)
		expect(t, "Add", l.Add(7, nil), api.OK)
		expect(t, "Cut", l.Cut(9*(many-k-1)), api.OK)
	}
	b, _ := d.Read("f")
	if kinds, _, length := log.Scan(b); len(kinds) != many/2 || length != 9*many/2 || l.Count() != many/2 {
		t.Errorf("%d kinds, length %d, %d records", len(kinds), length, l.Count())
	}
}

// heap returns how many bytes are in use.
func heap() int {
	var stats runtime.MemStats
	runtime.GC()
	runtime.ReadMemStats(&stats)
	return int(stats.HeapAlloc)
}

// TestKept: R2, a log keeps neither the records that it has no more nor the
// text that its name was taken from.
func TestKept(t *testing.T) {
	const size, times = 1 << 20, 32
	for _, c := range []struct {
		what string
		run  func(d *disk.Disk, name string) *log.Log
	}{
		{"long records", func(d *disk.Disk, name string) *log.Log {
			l, _ := log.Open(d, name, 0)
			l.Add(1, nil)
			l.Add(2, make([]byte, size))
			l.Cut(9)
			return l
		}},
		{"many records", func(d *disk.Disk, name string) *log.Log {
			l, _ := log.Open(d, name, 0)
			for range size / 64 {
				l.Add(1, nil)
			}
			l.Cut(0)
			return l
		}},
		{"bytes behind", func(d *disk.Disk, name string) *log.Log {
			d.Append(name, encoded(entry{1, ""}, entry{2, strings.Repeat("long", size/4)}))
			l, _ := log.Open(d, name, 9)
			return l
		}},
		{"named", func(d *disk.Disk, name string) *log.Log {
			text := name + strings.Repeat(" ", size)
			l, _ := log.Open(d, text[:len(name)], 0)
			return l
		}},
	} {
		d := disk.New(api.MaxFile)
		before := heap()
		var all []*log.Log
		for k := range times {
			all = append(all, c.run(d, "file "+strconv.Itoa(k)))
			d.Sync()
		}
		if kept := heap() - before; kept > 4*size {
			t.Errorf("%s: %d bytes are kept", c.what, kept)
		}
		runtime.KeepAlive(all)
		runtime.KeepAlive(d)
	}
}
