package root_test

import (
	"bytes"
	"errors"
	"math"
	"slices"
	"strconv"
	"strings"
	"testing"

	"taproot/api"
	"taproot/disk"
	"taproot/frame"
	"taproot/octet"
	"taproot/oops"
	"taproot/root"
)

// most is the greatest number that a root may have in it.
const most = 1 << 40

// expect reports an error unless e is of the kind, as both oops and errors
// tell it, with these Steps around it.
func expect(t *testing.T, what string, e error, kind api.Errno, steps ...string) {
	t.Helper()
	if oops.Kind(e) != kind || (e == nil) != (kind == api.OK) || kind != api.OK && !errors.Is(e, kind) {
		t.Errorf("%s: %v, want %v", what, e, kind)
	}
	if got := oops.Steps(e); !slices.Equal(got, steps) {
		t.Errorf("%s: the steps %q, want %q", what, got, steps)
	}
}

func same(a, b root.Root) bool {
	return a.Generation == b.Generation && a.Index == b.Index && slices.Equal(a.Logs, b.Logs)
}

// numbered returns a root that differs from those with other numbers, in the
// length of its encoding too.
func numbered(n int) root.Root {
	return root.Root{Generation: n, Logs: make([]int, n%9), Index: n * n * n}
}

// laid returns the encoding of a root that must have one.
func laid(t *testing.T, r root.Root) []byte {
	t.Helper()
	b, e := root.Lay(r)
	expect(t, "Lay", e, api.OK)
	return b
}

// framed returns a frame of the kind with these numbers.
func framed(kind int, numbers ...int) []byte {
	w := octet.NewWriter()
	for _, n := range numbers {
		w.Var(n)
	}
	b, _ := frame.Lay(kind, w.Bytes())
	return b
}

// body returns a frame of kind 1 with these bytes.
func body(bytes ...byte) []byte {
	b, _ := frame.Lay(1, bytes)
	return b
}

// with returns a synced disk with a file of these bytes. It has executed two
// operations.
func with(name string, b []byte) *disk.Disk {
	d := disk.New(api.MaxFile)
	d.Append(name, b)
	d.Sync()
	return d
}

// saved returns a disk on which this root has been saved.
func saved(t *testing.T, r root.Root) *disk.Disk {
	t.Helper()
	d := disk.New(api.MaxFile)
	expect(t, "Save", root.Save(d, r), api.OK)
	return d
}

// loads reports an error unless Load returns the root.
func loads(t *testing.T, what string, d *disk.Disk, want root.Root) {
	t.Helper()
	r, e := root.Load(d)
	expect(t, what, e, api.OK)
	if !same(r, want) {
		t.Errorf("%s: %+v, want %+v", what, r, want)
	}
}

// unloaded reports an error unless Load returns the error and nothing beside.
func unloaded(t *testing.T, what string, d *disk.Disk, kind api.Errno) {
	t.Helper()
	r, e := root.Load(d)
	expect(t, what, e, kind)
	if !same(r, root.Root{}) {
		t.Errorf("%s: %+v beside the error", what, r)
	}
}

// holds reports an error unless the disk has exactly these files, given in the
// order of their names, and these numbers of pending and good operations.
func holds(t *testing.T, what string, d *disk.Disk, pending, works int, want ...file) {
	t.Helper()
	var got []file
	for _, name := range d.Names() {
		b, _ := d.Read(name)
		got = append(got, file{name, string(b)})
	}
	if !slices.Equal(got, want) {
		t.Errorf("%s: %q, want %q", what, got, want)
	}
	if d.Pending() != pending || d.Works() != works {
		t.Errorf("%s: %d pending, %d works, want %d, %d", what, d.Pending(), d.Works(), pending, works)
	}
}

// file is a file as the tests know it.
type file struct{ name, content string }

// TestExample: the example of chapter 8.
func TestExample(t *testing.T) {
	unloaded(t, "an empty disk", disk.New(100), api.ErrUnknown)
}

// TestLay: 8.1, a frame of kind 1 with the numbers in their order.
func TestLay(t *testing.T) {
	for _, c := range []struct {
		r    root.Root
		want []byte
	}{
		{root.Root{}, []byte{0, 0, 0}},
		{root.Root{Generation: 1, Logs: []int{3, 4}, Index: 2}, []byte{1, 2, 2, 3, 4}},
		{root.Root{Generation: 300, Logs: []int{5}, Index: 7}, []byte{0xac, 2, 7, 1, 5}},
		{root.Root{Logs: []int{}, Index: 128}, []byte{0, 0x80, 1, 0}},
		{root.Root{Logs: []int{1, 2, 3, 4, 5, 6, 7, 8}}, []byte{0, 0, 8, 1, 2, 3, 4, 5, 6, 7, 8}},
		{root.Root{Generation: most, Logs: []int{most}, Index: most - 1}, []byte{0x80, 0x80, 0x80, 0x80, 0x80, 0x20, 0xff, 0xff, 0xff, 0xff, 0xff, 0x1f, 1, 0x80, 0x80, 0x80, 0x80, 0x80, 0x20}},
	} {
		if b := laid(t, c.r); !bytes.Equal(b, body(c.want...)) {
			t.Errorf("%+v: %x, want %x", c.r, b, body(c.want...))
		}
	}
	if b := laid(t, root.Root{}); !bytes.Equal(b[:5], []byte{1, 0, 0, 0, 3}) || len(b) != 12 {
		t.Errorf("no frame of kind 1: %x", b)
	}
}

// unlaid returns roots that may not be encoded.
func unlaid() []root.Root {
	var all []root.Root
	for _, n := range []int{-1, most + 1, math.MinInt, math.MaxInt} {
		all = append(all, root.Root{Generation: n}, root.Root{Index: n}, root.Root{Generation: n, Index: n})
		for k := range 8 {
			first, last := make([]int, k+1), make([]int, 8)
			first[k], last[k] = n, n
			all = append(all, root.Root{Logs: first}, root.Root{Generation: 1, Logs: last, Index: 1})
		}
	}
	return append(all, root.Root{Logs: make([]int, 9)}, root.Root{Logs: make([]int, 1000)})
}

// TestLayArg: 8.1, ErrArg for each number out of range, and for nine Logs.
func TestLayArg(t *testing.T) {
	for _, r := range unlaid() {
		b, e := root.Lay(r)
		expect(t, "Lay", e, api.ErrArg)
		if len(b) != 0 {
			t.Errorf("%+v: %x beside the error", r, b)
		}
	}
}

// TestReadLaid: 8.1, Read is the inverse of Lay.
func TestReadLaid(t *testing.T) {
	all := []root.Root{{}, {Generation: most}, {Index: most}, {Generation: most, Logs: slices.Repeat([]int{most}, 8), Index: most}}
	for n := range 9 {
		all = append(all, root.Root{Generation: n, Logs: make([]int, n), Index: 1}, root.Root{Logs: slices.Repeat([]int{1000 * n}, n)})
	}
	for shift := range 41 {
		n := 1 << shift
		all = append(all, root.Root{Generation: n, Logs: []int{n - 1, n}, Index: n - 1}, root.Root{Generation: n - 1, Logs: []int{0, n}, Index: n})
	}
	for _, want := range all {
		r, e := root.Read(laid(t, want))
		expect(t, "Read", e, api.OK)
		if !same(r, want) {
			t.Errorf("%+v, want %+v", r, want)
		}
	}
}

// unread reports an error unless Read returns the error and nothing beside.
func unread(t *testing.T, what string, b []byte, kind api.Errno) {
	t.Helper()
	r, e := root.Read(b)
	expect(t, what, e, kind)
	if !same(r, root.Root{}) {
		t.Errorf("%s: %+v beside the error", what, r)
	}
}

// full is a root with all that may be in one.
func full() root.Root {
	return root.Root{Generation: 1, Logs: []int{1, 300, 0, 4, 5, 6, 7, most}, Index: 9}
}

// TestReadFrame: 8.1, the errors of frame.Next, for each part of an encoding
// and for each bit of it that is changed.
func TestReadFrame(t *testing.T) {
	unread(t, "nil", nil, api.ErrShort)
	for _, r := range []root.Root{{}, numbered(3), full()} {
		b := laid(t, r)
		for n := range b {
			unread(t, "a part", b[:n], api.ErrShort)
		}
		for bit := range 8 * len(b) {
			changed := bytes.Clone(b)
			changed[bit/8] ^= 1 << (bit % 8)
			_, _, _, e := frame.Next(changed)
			if e == nil {
				t.Errorf("bit %d: frame.Next finds no error", bit)
			}
			unread(t, "a changed bit", changed, oops.Kind(e))
		}
	}
	wrong := laid(t, full())
	wrong[8] ^= 1
	long := body(make([]byte, api.MaxRecord)...)
	for what, b := range map[string][]byte{
		"the checksum":       wrong,
		"more behind it":     append(slices.Clip(wrong), 0),
		"of the longest":     append(long[:len(long)-1:len(long)-1], 1),
		"of another kind":    append([]byte{2}, wrong[1:]...),
		"of what is no root": {1, 0, 0, 0, 0, 1, 2, 3, 4},
	} {
		unread(t, what, b, api.ErrSum)
	}
	unread(t, "kind 0", append([]byte{0}, wrong[1:]...), api.ErrForm)
	unread(t, "too long for a frame", []byte{1, 0, 16, 0, 1, 0, 0, 0, 0}, api.ErrForm)
	unread(t, "no end", long[:len(long)-1], api.ErrShort)
}

// TestReadForm: 8.1, ErrForm for a frame that is not exactly the encoding of a
// root.
func TestReadForm(t *testing.T) {
	for kind := 2; kind <= 255; kind++ {
		unread(t, "another kind", framed(kind, 1, 2, 1, 4), api.ErrForm)
	}
	good := framed(1, 1, 2, 1, 4)
	for what, more := range map[string][]byte{"a byte": {0}, "another byte": {1}, "a root": good, "half a root": good[:7], "many": make([]byte, 1000)} {
		unread(t, what+" behind the frame", slices.Concat(good, more), api.ErrForm)
	}
	for what, b := range map[string][]byte{
		"no body":                     body(),
		"no Index":                    body(1),
		"no number of Logs":           body(1, 2),
		"no Logs":                     body(1, 2, 1),
		"a log less":                  body(1, 2, 3, 4, 5),
		"a log more":                  body(1, 2, 1, 4, 5),
		"a log of none":               body(1, 2, 0, 0),
		"half a Generation":           body(0x80),
		"half an Index":               body(1, 0x80),
		"half a number of Logs":       body(1, 2, 0x80),
		"half a log":                  body(1, 2, 1, 0x80),
		"half a last log":             body(0, 0, 2, 5, 0x80),
		"a longer Generation":         body(0x81, 0, 2, 1, 4),
		"a longer Index":              body(1, 0x82, 0, 1, 4),
		"a longer number of Logs":     body(1, 2, 0x81, 0, 4),
		"a longer log":                body(1, 2, 1, 0x84, 0),
		"zero in two bytes":           body(0x80, 0, 0, 0),
		"ten bytes and more":          body(bytes.Repeat([]byte{0x80}, 20)...),
		"more than 64 bits":           body(0, 0, 1, 0xff, 0xff, 0xff, 0xff, 0xff, 0xff, 0xff, 0xff, 0xff, 2),
		"zeros behind":                body(0, 0, 0, 0, 0),
		"nine Logs":                   framed(1, 1, 2, 9, 0, 0, 0, 0, 0, 0, 0, 0, 0),
		"nine Logs of which are 8":    framed(1, 1, 2, 9, 0, 0, 0, 0, 0, 0, 0, 0),
		"nine Logs of which is none":  framed(1, 1, 2, 9),
		"many Logs":                   framed(1, 1, 2, math.MaxInt, 0, 0, 0, 0, 0, 0, 0, 0),
		"-1 Logs":                     framed(1, 1, 2, -1),
		"a negative number of Logs":   framed(1, 1, 2, math.MinInt),
		"8 Logs more than 2^64":       framed(1, 1, 2, 1<<62+8, 0, 0, 0, 0, 0, 0, 0, 0),
		"a thousand Logs":             framed(1, append([]int{1, 2, 1000}, make([]int, 1000)...)...),
		"the longest of all, of zero": body(make([]byte, api.MaxRecord)...),
	} {
		unread(t, what, b, api.ErrForm)
	}
	for _, n := range []int{-1, most + 1, math.MinInt, math.MaxInt} {
		unread(t, "Generation", framed(1, n, 0, 0), api.ErrForm)
		unread(t, "Index", framed(1, 0, n, 0), api.ErrForm)
		for k := range 8 {
			numbers := []int{0, 0, 8, 0, 0, 0, 0, 0, 0, 0, 0}
			numbers[3+k] = n
			unread(t, "a log", framed(1, numbers...), api.ErrForm)
		}
	}
}

// TestReadAny: 8.1, of all bodies with few bytes, Read takes exactly those that
// Lay makes.
func TestReadAny(t *testing.T) {
	some := []byte{0, 1, 2, 3, 8, 9, 0x7f, 0x80, 0x81, 0xff}
	bodies := [][]byte{nil}
	for from := 0; len(bodies) < 11111; from++ {
		for _, last := range some {
			bodies = append(bodies, append(slices.Clip(bodies[from]), last))
		}
	}
	taken := 0
	for _, one := range bodies {
		b := body(one...)
		r, e := root.Read(b)
		if e == nil {
			taken++
			if !bytes.Equal(laid(t, r), b) {
				t.Errorf("%x is not the encoding of %+v", b, r)
			}
			continue
		}
		unread(t, "a body", b, api.ErrForm)
	}
	// 7 of these bytes are numbers by themselves, 6 of which may end a longer
	// one, and the other 3 begin longer ones. The number of Logs is 0 in three
	// bytes. In four, it is 0 too, behind two numbers of which one has two
	// bytes, or it is 1.
	if want := 7*7 + 2*(3*6*7) + 7*7*7; taken != want {
		t.Errorf("%d of the bodies are taken, want %d", taken, want)
	}
}

// TestLoad: 8.2, the root in the file, whoever put it there; the disk is only
// read.
func TestLoad(t *testing.T) {
	for _, r := range []root.Root{{}, numbered(5), full()} {
		d := with("root", laid(t, r))
		d.Append("root.new", []byte("other"))
		d.Fuse(0)
		loads(t, "Load", d, r)
		loads(t, "again", d, r)
		holds(t, "Load", d, 1, 3, file{"root", string(laid(t, r))}, file{"root.new", "other"})
		if d.Dead() {
			t.Error("the disk was accessed")
		}
	}
	d := disk.New(100)
	d.Append("root", laid(t, numbered(2)))
	loads(t, "a pending root", d, numbered(2))
}

// TestLoadErrors: 8.2, ErrArg, ErrUnknown, and the errors of Read, without a
// Step.
func TestLoadErrors(t *testing.T) {
	unloaded(t, "nil", nil, api.ErrArg)
	good := laid(t, full())
	for _, name := range []string{"root.new", "roo", "Root", "roots", " root"} {
		d := with(name, good)
		unloaded(t, name, d, api.ErrUnknown)
		holds(t, name, d, 0, 2, file{name, string(good)})
	}
	wrong := bytes.Clone(good)
	wrong[len(wrong)-1] ^= 1
	for what, c := range map[string]struct {
		b    []byte
		want api.Errno
	}{
		"empty":        {nil, api.ErrShort},
		"cut":          {good[:len(good)-1], api.ErrShort},
		"no frame":     {make([]byte, 20), api.ErrForm},
		"checksum":     {wrong, api.ErrSum},
		"another kind": {framed(2, 1, 2, 0), api.ErrForm},
		"twice":        {slices.Concat(good, good), api.ErrForm},
		"nine Logs":    {framed(1, 1, 2, 9, 0, 0, 0, 0, 0, 0, 0, 0, 0), api.ErrForm},
	} {
		d := with("root", c.b)
		d.Append("root.new", good)
		unloaded(t, what, d, c.want)
		holds(t, what, d, 1, 3, file{"root", string(c.b)}, file{"root.new", string(good)})
	}
	d := saved(t, full())
	d.Fuse(0)
	d.Sync()
	unloaded(t, "a dead disk", d, api.ErrUnknown)
	d.Crash(0, 0)
	loads(t, "alive", d, full())
}

// TestSave: 8.2, the file is written, synced, renamed and synced.
func TestSave(t *testing.T) {
	d := disk.New(api.MaxFile)
	for n := range 20 {
		expect(t, "Save", root.Save(d, numbered(n)), api.OK)
		loads(t, "Save", d, numbered(n))
		holds(t, "Save", d, 0, 4*(n+1), file{"root", string(laid(t, numbered(n)))})
	}
	d.Append("f", []byte("abc"))
	expect(t, "the same again", root.Save(d, numbered(19)), api.OK)
	holds(t, "the same again", d, 0, 85, file{"f", "abc"}, file{"root", string(laid(t, numbered(19)))})
	d.Append("root", []byte("garbage"))
	expect(t, "onto garbage", root.Save(d, numbered(1)), api.OK)
	holds(t, "onto garbage", d, 0, 90, file{"f", "abc"}, file{"root", string(laid(t, numbered(1)))})
}

// TestSaveLeft: 8.2, a file root.new that exists is removed first.
func TestSaveLeft(t *testing.T) {
	for _, left := range []string{"", "old", string(laid(t, full())), strings.Repeat("long", 1000)} {
		for _, synced := range []bool{true, false} {
			d := saved(t, numbered(1))
			d.Append("root.new", []byte(left))
			works := 10
			if synced {
				d.Sync()
				works++
			}
			expect(t, "Save", root.Save(d, numbered(2)), api.OK)
			holds(t, "Save", d, 0, works, file{"root", string(laid(t, numbered(2)))})
		}
	}
	// Nothing but the removed file makes room for the new root.
	d := disk.New(40)
	d.Append("root.new", make([]byte, 40))
	expect(t, "the room of root.new", root.Save(d, root.Root{}), api.OK)
	loads(t, "the room of root.new", d, root.Root{})
}

// TestSaveArg: 8.2, the errors of Lay, without a Step; nothing is changed, and
// the disk is not accessed.
func TestSaveArg(t *testing.T) {
	for _, r := range append(unlaid(), root.Root{}) {
		expect(t, "nil", root.Save(nil, r), api.ErrArg)
	}
	d := saved(t, numbered(1))
	d.Append("root.new", []byte("old"))
	d.Fuse(0)
	for _, r := range unlaid() {
		expect(t, "Lay", root.Save(d, r), api.ErrArg)
	}
	holds(t, "refused", d, 1, 5, file{"root", string(laid(t, numbered(1)))}, file{"root.new", "old"})
	if d.Dead() {
		t.Error("the disk was accessed")
	}
	d.Sync()
	for _, r := range unlaid() {
		expect(t, "a dead disk", root.Save(d, r), api.ErrArg)
	}
	d.Crash(1, 0)
	holds(t, "refused", d, 0, 5, file{"root", string(laid(t, numbered(1)))}, file{"root.new", "old"})
}

// TestSaveSpace: 8.2, ErrSpace in a Step if the new root does not fit beside
// the other files. The old one remains.
func TestSaveSpace(t *testing.T) {
	old, next := laid(t, numbered(1)), laid(t, full())
	for _, room := range []int{len(old) + 12, len(old) + len(next) - 1, len(old) + len(next)} {
		for _, left := range []string{"", "rest"} {
			d := disk.New(room)
			expect(t, "the first", root.Save(d, numbered(1)), api.OK)
			works := 4
			if left != "" {
				d.Append("root.new", []byte(left))
				works += 2
			}
			if room == len(old)+len(next) {
				expect(t, "just enough", root.Save(d, full()), api.OK)
				holds(t, "just enough", d, 0, works+4, file{"root", string(next)})
				continue
			}
			expect(t, "no room", root.Save(d, full()), api.ErrSpace, "root")
			holds(t, "no room", d, works-4, works, file{"root", string(old)})
			loads(t, "no room", d, numbered(1))
			expect(t, "a root for which there is room", root.Save(d, root.Root{Generation: 5}), api.OK)
			holds(t, "a root for which there is room", d, 0, works+4, file{"root", string(laid(t, root.Root{Generation: 5}))})
		}
	}
	d := disk.New(0)
	expect(t, "no room at all", root.Save(d, root.Root{}), api.ErrSpace, "root")
	holds(t, "no room at all", d, 0, 0)
}

// TestSaveDown: 8.2, ErrDown in a Step, whichever operation fails, and what is
// pending then.
func TestSaveDown(t *testing.T) {
	before, after := file{"root", string(laid(t, numbered(1)))}, file{"root", string(laid(t, numbered(2)))}
	old, draft := file{"root.new", "old"}, file{"root.new", after.content}
	for works, c := range []struct {
		pending int
		kept    []file
	}{
		{0, []file{before, old}},
		{1, []file{before}},
		{2, []file{before, draft}},
		{0, []file{before, draft}},
		{1, []file{after}},
		{0, []file{after}},
	} {
		d := saved(t, numbered(1))
		d.Append("root.new", []byte("old"))
		d.Sync()
		d.Fuse(works)
		e := root.Save(d, numbered(2))
		if works == 5 {
			expect(t, "no failure", e, api.OK)
		} else {
			expect(t, "works: "+strconv.Itoa(works), e, api.ErrDown, "root")
			unloaded(t, "dead", d, api.ErrUnknown)
			expect(t, "dead", root.Save(d, numbered(3)), api.ErrDown, "root")
		}
		what := "works: " + strconv.Itoa(works)
		if d.Pending() != c.pending {
			t.Errorf("%s: %d pending, want %d", what, d.Pending(), c.pending)
		}
		d.Crash(c.pending, 0)
		holds(t, what, d, 0, 6+works, c.kept...)
		expect(t, "again", root.Save(d, numbered(3)), api.OK)
		loads(t, "again", d, numbered(3))
	}
}

// crashes calls check for all that a crash can leave of the pending operations
// of the disk that prepare returns, if none of them appends longest bytes.
func crashes(prepare func() *disk.Disk, longest int, check func(d *disk.Disk)) {
	for done := range prepare().Pending() + 1 {
		for cut := range longest {
			d := prepare()
			d.Crash(done, cut)
			check(d)
		}
	}
}

// TestCrash: 8.3, Load returns the root that was saved last or the one that was
// being saved, wherever a crash occurs, whatever is pending ahead of Save, and
// whatever was left of root.new.
func TestCrash(t *testing.T) {
	const saves = 3
	for _, left := range []string{"", "old", string(laid(t, full())), string(laid(t, full())[:12])} {
		for works := range 5*saves + 3 {
			last := 0
			prepare := func() *disk.Disk {
				d := saved(t, numbered(10))
				d.Append("root.new", []byte(left))
				d.Append("f", []byte("pending"))
				d.Fuse(works)
				last = 10
				for k := range saves {
					d.Append("f", []byte("more"))
					if root.Save(d, numbered(11+k)) != nil {
						break
					}
					last = 11 + k
				}
				return d
			}
			crashes(prepare, 70, func(d *disk.Disk) {
				r, e := root.Load(d)
				expect(t, "a crash", e, api.OK)
				if !same(r, numbered(last)) && !same(r, numbered(last+1)) {
					t.Errorf("%d works: %+v, but %d was saved last", works, r, last)
				}
				if last == 10+saves && r.Generation != last {
					t.Errorf("%d works: %+v, but none was being saved behind %d", works, r, last)
				}
				expect(t, "again", root.Save(d, numbered(20)), api.OK)
				loads(t, "again", d, numbered(20))
				d.Crash(0, 0)
				loads(t, "and a crash", d, numbered(20))
			})
		}
	}
}

// TestCrashFirst: 8.3, there is no root, or the first one that was being saved.
func TestCrashFirst(t *testing.T) {
	for works := range 5 {
		prepare := func() *disk.Disk {
			d := disk.New(1000)
			d.Fuse(works)
			root.Save(d, full())
			return d
		}
		crashes(prepare, 70, func(d *disk.Disk) {
			r, e := root.Load(d)
			if works < 4 && r.Generation == 0 {
				unloaded(t, "none", d, api.ErrUnknown)
				return
			}
			expect(t, "the first", e, api.OK)
			if works < 3 || !same(r, full()) {
				t.Errorf("%d works: %+v", works, r)
			}
		})
	}
}

// TestCrashRefused: 8.3, a Save that is refused for lack of space leaves the
// root that was saved last, wherever a crash occurs.
func TestCrashRefused(t *testing.T) {
	prepare := func() *disk.Disk {
		d := disk.New(42)
		root.Save(d, numbered(1))
		d.Append("root.new", []byte("old"))
		d.Append("f", []byte("more"))
		expect(t, "no room", root.Save(d, full()), api.ErrSpace, "root")
		return d
	}
	crashes(prepare, 10, func(d *disk.Disk) { loads(t, "refused", d, numbered(1)) })
}

// TestModel: 8.2 and 8.3, long runs of saving, loading, failing and crashing.
func TestModel(t *testing.T) {
	state := uint32(1)
	by := func(n int) int {
		state = state*1664525 + 1013904223
		return int(state>>16) % n
	}
	for range 50 {
		d := disk.New(120)
		d.Fuse(by(20))
		last, next := 0, 1
		root.Save(d, numbered(0))
		d.Crash(0, 0)
		if _, e := root.Load(d); e != nil {
			root.Save(d, numbered(0))
		}
		for range 300 {
			switch by(6) {
			case 0:
				d.Append("f", make([]byte, by(20)))
			case 1:
				d.Remove("f")
			case 2:
				d.Fuse(by(8))
			default:
				e := root.Save(d, numbered(next))
				if e == nil {
					last, next = next, next+1
				} else if kind := oops.Kind(e); kind != api.ErrDown && kind != api.ErrSpace || d.Dead() != (kind == api.ErrDown) {
					t.Fatalf("Save: %v, dead: %t", e, d.Dead())
				}
			}
			if !d.Dead() && by(10) > 0 {
				loads(t, "a run", d, numbered(last))
				continue
			}
			dead := d.Dead()
			d.Crash(by(10), by(30))
			r, e := root.Load(d)
			expect(t, "a crash", e, api.OK)
			if dead && same(r, numbered(next)) {
				last, next = next, next+1
			}
			loads(t, "a crash", d, numbered(last))
		}
	}
}

// TestMemory: R2, what is given is neither changed nor kept, up to its
// capacity, and what is returned is not shared.
func TestMemory(t *testing.T) {
	given := []int{1, 2, 3, 4, 5}
	want := root.Root{Generation: 7, Logs: []int{1, 2, 3}, Index: 8}
	r := root.Root{Generation: 7, Logs: given[:3], Index: 8}
	d := saved(t, r)
	b := laid(t, r)
	if !slices.Equal(given, []int{1, 2, 3, 4, 5}) {
		t.Errorf("the argument became %v", given)
	}
	clear(given)
	loads(t, "a changed argument", d, want)
	for range 2 {
		spare := append(bytes.Clone(b), "spare"...)
		r, e := root.Read(spare[:len(b)])
		if e != nil || !same(r, want) || !bytes.Equal(spare, append(bytes.Clone(b), "spare"...)) {
			t.Errorf("Read: %+v, %v, and the argument became %x", r, e, spare)
		}
		clear(spare)
		if !same(r, want) {
			t.Errorf("Read: became %+v", r)
		}
		clear(r.Logs[:cap(r.Logs)])
		loads(t, "Load", d, want)
		r, _ = root.Load(d)
		clear(r.Logs[:cap(r.Logs)])
		again := laid(t, want)
		clear(again[:cap(again)])
	}
}

// TestIndependent: R7, disks have nothing to do with one another.
func TestIndependent(t *testing.T) {
	a, b := saved(t, numbered(1)), saved(t, numbered(2))
	a.Fuse(0)
	expect(t, "a dying disk", root.Save(a, numbered(3)), api.ErrDown, "root")
	expect(t, "the other one", root.Save(b, numbered(4)), api.OK)
	a.Crash(0, 0)
	loads(t, "a", a, numbered(1))
	loads(t, "b", b, numbered(4))
}
