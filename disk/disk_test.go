package disk_test

import (
	"bytes"
	"errors"
	"maps"
	"math"
	"runtime"
	"slices"
	"strconv"
	"strings"
	"testing"

	"taproot/api"
	"taproot/disk"
	"taproot/oops"
)

// expect reports an error unless e is of the kind, as both oops and errors
// tell it.
func expect(t *testing.T, what string, e error, kind api.Errno) {
	t.Helper()
	if oops.Kind(e) != kind || (e == nil) != (kind == api.OK) || kind != api.OK && !errors.Is(e, kind) {
		t.Errorf("%s: %v, want %v", what, e, kind)
	}
}

// files reads all files of a disk through Names and Read.
func files(d *disk.Disk) map[string]string {
	all := map[string]string{}
	for _, name := range d.Names() {
		b, _ := d.Read(name)
		all[name] = string(b)
	}
	return all
}

// holds reports an error unless the disk has exactly these files, given as
// name=content with spaces between, and these numbers of pending and good
// operations.
func holds(t *testing.T, what string, d *disk.Disk, want string, pending, works int) {
	t.Helper()
	var list []string
	used := 0
	for _, name := range d.Names() {
		b, exists := d.Read(name)
		if !exists {
			t.Errorf("%s: %s does not exist", what, name)
		}
		used += len(b)
		list = append(list, name+"="+string(b))
	}
	if got := strings.Join(list, " "); got != want {
		t.Errorf("%s: %s, want %s", what, got, want)
	}
	if d.Used() != used || d.Pending() != pending || d.Works() != works || d.Dead() {
		t.Errorf("%s: %d used of %d, %d pending, %d works, dead: %t; want %d pending, %d works", what, d.Used(), used, d.Pending(), d.Works(), d.Dead(), pending, works)
	}
}

// missing reports an error if the file exists, or has bytes all the same.
func missing(t *testing.T, d *disk.Disk, name string) {
	t.Helper()
	if b, exists := d.Read(name); exists || len(b) != 0 {
		t.Errorf("%q: %q, %t", name, b, exists)
	}
}

// TestExample: the example of chapter 6.
func TestExample(t *testing.T) {
	d := disk.New(api.MaxFile)
	expect(t, "Append", d.Append("f", []byte("abc")), api.OK)
	d.Crash(0, 2)
	holds(t, "Crash(0, 2)", d, "f=ab", 0, 1)
}

// TestNew: 6.1, a disk is empty at first.
func TestNew(t *testing.T) {
	for _, room := range []int{math.MinInt, -1, 0, 1, api.MaxFile, math.MaxInt} {
		d := disk.New(room)
		holds(t, "New", d, "", 0, 0)
		missing(t, d, "f")
		missing(t, d, "")
	}
}

// TestAppend: 6.1, the bytes are behind the previous ones, and the file is
// created, even for no bytes.
func TestAppend(t *testing.T) {
	d := disk.New(100)
	expect(t, "new", d.Append("f", []byte("ab")), api.OK)
	holds(t, "new", d, "f=ab", 1, 1)
	expect(t, "again", d.Append("f", []byte("c")), api.OK)
	holds(t, "again", d, "f=abc", 2, 2)
	expect(t, "nothing", d.Append("f", nil), api.OK)
	holds(t, "nothing", d, "f=abc", 3, 3)
	expect(t, "nil", d.Append("n", nil), api.OK)
	expect(t, "empty", d.Append("e", []byte{}), api.OK)
	holds(t, "empty files", d, "e= f=abc n=", 5, 5)
	expect(t, "zeros", d.Append("e", []byte{0, 255}), api.OK)
	holds(t, "zeros", d, "e=\x00\xff f=abc n=", 6, 6)
}

// TestTruncate: 6.1, the first bytes stay, from none of them to all.
func TestTruncate(t *testing.T) {
	for n, want := range []string{"", "a", "ab", "abc"} {
		d := disk.New(100)
		d.Append("f", []byte("abc"))
		d.Append("g", []byte("other"))
		expect(t, want, d.Truncate("f", n), api.OK)
		holds(t, want, d, "f="+want+" g=other", 3, 3)
		expect(t, want, d.Append("f", []byte("xyz")), api.OK)
		holds(t, want, d, "f="+want+"xyz g=other", 4, 4)
	}
	d := disk.New(100)
	d.Append("f", []byte("abc"))
	for _, n := range []int{-1, 4, math.MinInt, math.MaxInt} {
		expect(t, "range", d.Truncate("f", n), api.ErrArg)
		expect(t, "no file", d.Truncate("g", n), api.ErrUnknown)
	}
	expect(t, "no file", d.Truncate("g", 0), api.ErrUnknown)
	holds(t, "refused", d, "f=abc", 1, 1)
}

// TestRename: 6.1, the content moves to the other name and replaces what is
// there, and nothing changes if the names are the same.
func TestRename(t *testing.T) {
	d := disk.New(100)
	d.Append("f", []byte("abc"))
	d.Append("g", []byte("other"))
	expect(t, "to a new name", d.Rename("f", "h"), api.OK)
	holds(t, "to a new name", d, "g=other h=abc", 3, 3)
	missing(t, d, "f")
	expect(t, "to a file", d.Rename("h", "g"), api.OK)
	holds(t, "to a file", d, "g=abc", 4, 4)
	expect(t, "to itself", d.Rename("g", "g"), api.OK)
	holds(t, "to itself", d, "g=abc", 5, 5)
	expect(t, "from nowhere", d.Rename("f", "g"), api.ErrUnknown)
	expect(t, "nowhere to itself", d.Rename("f", "f"), api.ErrUnknown)
	holds(t, "refused", d, "g=abc", 5, 5)
	expect(t, "behind it", d.Append("g", []byte("d")), api.OK)
	expect(t, "under the old name", d.Append("f", []byte("x")), api.OK)
	holds(t, "behind it", d, "f=x g=abcd", 7, 7)
}

// TestRemove: 6.1, a file that is removed does not exist, and begins anew.
func TestRemove(t *testing.T) {
	d := disk.New(100)
	d.Append("f", []byte("abc"))
	d.Append("g", nil)
	expect(t, "f", d.Remove("f"), api.OK)
	holds(t, "f", d, "g=", 3, 3)
	missing(t, d, "f")
	expect(t, "again", d.Remove("f"), api.ErrUnknown)
	expect(t, "truncate", d.Truncate("f", 0), api.ErrUnknown)
	expect(t, "rename", d.Rename("f", "g"), api.ErrUnknown)
	expect(t, "empty", d.Remove("g"), api.OK)
	holds(t, "empty", d, "", 4, 4)
	expect(t, "anew", d.Append("f", []byte("z")), api.OK)
	holds(t, "anew", d, "f=z", 5, 5)
}

// TestSync: 6.1, nothing is pending behind it, and the files stay.
func TestSync(t *testing.T) {
	d := disk.New(100)
	expect(t, "of nothing", d.Sync(), api.OK)
	holds(t, "of nothing", d, "", 0, 1)
	d.Append("f", []byte("abc"))
	d.Rename("f", "f")
	d.Truncate("f", 3)
	holds(t, "pending", d, "f=abc", 3, 4)
	expect(t, "Sync", d.Sync(), api.OK)
	holds(t, "Sync", d, "f=abc", 0, 5)
	d.Remove("f")
	holds(t, "Remove", d, "", 1, 6)
}

// operation is one of the five, or a refusal of one, under a name to report.
type operation struct {
	what string
	run  func(d *disk.Disk) error
}

// withName returns each operation that takes a name, with this one, in each
// of its places.
func withName(name string) []operation {
	return []operation{
		{"Append", func(d *disk.Disk) error { return d.Append(name, make([]byte, 1000)) }},
		{"Truncate", func(d *disk.Disk) error { return d.Truncate(name, -1) }},
		{"Rename from", func(d *disk.Disk) error { return d.Rename(name, "none") }},
		{"Rename to", func(d *disk.Disk) error { return d.Rename("none", name) }},
		{"Rename both", func(d *disk.Disk) error { return d.Rename(name, name) }},
		{"Remove", func(d *disk.Disk) error { return d.Remove(name) }},
	}
}

// TestNames: 6.1, names have 1 to 20 bytes of any value; a wrong one is the
// first error of all, on a dead disk too, and does not burn a fuse down.
func TestNames(t *testing.T) {
	for _, name := range []string{"", strings.Repeat("n", 21), strings.Repeat("é", 11), strings.Repeat("n", 1<<20)} {
		for _, o := range withName(name) {
			d := disk.New(10)
			d.Append("f", []byte("abc"))
			d.Fuse(0)
			expect(t, o.what, o.run(d), api.ErrArg)
			holds(t, o.what, d, "f=abc", 1, 1)
			missing(t, d, name)
			expect(t, "Sync", d.Sync(), api.ErrDown)
			expect(t, "dead "+o.what, o.run(d), api.ErrArg)
		}
	}
	for _, name := range []string{"n", strings.Repeat("n", 20), strings.Repeat("é", 10), " ", "\x00", "\xff\xfe", "../a", "a/b\n"} {
		d := disk.New(10)
		expect(t, name, d.Append(name, []byte("ab")), api.OK)
		expect(t, name, d.Truncate(name, 1), api.OK)
		expect(t, name, d.Rename(name, "f"), api.OK)
		holds(t, name, d, "f=a", 3, 3)
		expect(t, name, d.Rename("f", name), api.OK)
		holds(t, name, d, name+"=a", 4, 4)
		expect(t, name, d.Remove(name), api.OK)
		holds(t, name, d, "", 5, 5)
	}
}

// TestNamesOrder: 6.1, names are told in bytewise order, whatever the order in
// which the files were made.
func TestNamesOrder(t *testing.T) {
	want := []string{"\x00", " ", "-", "10", "2", "A", "Z", "Za", "a", "a\x00", "aa", "ab", "b", "z", "é", "ﬀ", "\U0001f333", "\xfe", "\xff", "\xff\xff"}
	for shift := range want {
		d := disk.New(100)
		for k := range want {
			d.Append(want[(k*7+shift)%len(want)], []byte("x"))
		}
		if got := d.Names(); !slices.Equal(got, want) {
			t.Fatalf("%q, want %q", got, want)
		}
	}
}

// TestSpace: 6.1, the bytes of all files together fill the room and not more;
// bytes that are removed make room, pending or not.
func TestSpace(t *testing.T) {
	d := disk.New(10)
	expect(t, "4", d.Append("f", make([]byte, 4)), api.OK)
	expect(t, "4 and 7", d.Append("g", make([]byte, 7)), api.ErrSpace)
	expect(t, "4 and 7 in one", d.Append("f", make([]byte, 7)), api.ErrSpace)
	missing(t, d, "g")
	expect(t, "4 and 6", d.Append("g", make([]byte, 6)), api.OK)
	expect(t, "and 1", d.Append("h", make([]byte, 1)), api.ErrSpace)
	expect(t, "and none", d.Append("h", nil), api.OK)
	if d.Used() != 10 || d.Pending() != 3 || d.Works() != 3 {
		t.Errorf("%d used, %d pending, %d works", d.Used(), d.Pending(), d.Works())
	}
	expect(t, "Truncate", d.Truncate("f", 1), api.OK)
	expect(t, "and 4", d.Append("h", make([]byte, 4)), api.ErrSpace)
	expect(t, "and 3", d.Append("h", make([]byte, 3)), api.OK)
	expect(t, "Rename", d.Rename("h", "g"), api.OK)
	expect(t, "and 7", d.Append("h", make([]byte, 7)), api.ErrSpace)
	expect(t, "and 6", d.Append("h", make([]byte, 6)), api.OK)
	expect(t, "Rename to itself", d.Rename("h", "h"), api.OK)
	expect(t, "full", d.Append("f", make([]byte, 1)), api.ErrSpace)
	expect(t, "Remove", d.Remove("h"), api.OK)
	expect(t, "too much", d.Append("f", make([]byte, 7)), api.ErrSpace)
	expect(t, "all", d.Append("f", make([]byte, 6)), api.OK)
	d.Crash(0, 0)
	holds(t, "Crash", d, "", 0, 10)
	expect(t, "too much", d.Append("f", make([]byte, 11)), api.ErrSpace)
	expect(t, "all", d.Append("f", make([]byte, 10)), api.OK)
}

// TestRoom: 6.1, the room is limited to the range 0 to MaxFile.
func TestRoom(t *testing.T) {
	for _, room := range []int{math.MinInt, -1, 0} {
		d := disk.New(room)
		expect(t, "no room", d.Append("f", []byte("x")), api.ErrSpace)
		expect(t, "no bytes", d.Append("f", nil), api.OK)
		holds(t, "no bytes", d, "f=", 1, 1)
	}
	most := make([]byte, api.MaxFile+1)
	for room, fits := range map[int]int{1: 1, api.MaxFile - 1: api.MaxFile - 1, api.MaxFile: api.MaxFile, api.MaxFile + 1: api.MaxFile, math.MaxInt: api.MaxFile} {
		d := disk.New(room)
		expect(t, strconv.Itoa(room), d.Append("f", most[:fits+1]), api.ErrSpace)
		expect(t, strconv.Itoa(room), d.Append("f", most[:fits]), api.OK)
		expect(t, strconv.Itoa(room), d.Append("f", most[:1]), api.ErrSpace)
		if d.Used() != fits {
			t.Errorf("room %d: %d used", room, d.Used())
		}
	}
}

// TestErrorOrder: 6.1, a wrong name is ahead of a dead disk, that ahead of
// the errors of the operation, and these ahead of the fuse.
func TestErrorOrder(t *testing.T) {
	for _, c := range []struct {
		operation
		alive api.Errno
	}{
		{operation{"no room", func(d *disk.Disk) error { return d.Append("f", make([]byte, 8)) }}, api.ErrSpace},
		{operation{"no file to truncate", func(d *disk.Disk) error { return d.Truncate("g", -1) }}, api.ErrUnknown},
		{operation{"negative", func(d *disk.Disk) error { return d.Truncate("f", -1) }}, api.ErrArg},
		{operation{"too long", func(d *disk.Disk) error { return d.Truncate("f", 4) }}, api.ErrArg},
		{operation{"no file to rename", func(d *disk.Disk) error { return d.Rename("g", "f") }}, api.ErrUnknown},
		{operation{"no file to remove", func(d *disk.Disk) error { return d.Remove("g") }}, api.ErrUnknown},
	} {
		d := disk.New(10)
		d.Append("f", []byte("abc"))
		expect(t, c.what, c.run(d), c.alive)
		d.Fuse(0)
		expect(t, c.what+" at the fuse", c.run(d), c.alive)
		holds(t, c.what, d, "f=abc", 1, 1)
		expect(t, "Sync", d.Sync(), api.ErrDown)
		expect(t, c.what+" dead", c.run(d), api.ErrDown)
		d.Crash(1, 0)
		expect(t, c.what+" after a crash", c.run(d), c.alive)
		holds(t, c.what, d, "f=abc", 0, 1)
	}
}

// TestMemory: R2, what is given is neither changed nor kept, up to its
// capacity, and what is returned is not shared.
func TestMemory(t *testing.T) {
	d := disk.New(100)
	given := []byte("abc and more")
	d.Append("f", given[:3])
	d.Append("g", given[4:7])
	d.Append("f", []byte("def"))
	if string(given) != "abc and more" {
		t.Errorf("the argument became %q", given)
	}
	clear(given)
	for range 2 {
		got, _ := d.Read("f")
		if string(got) != "abcdef" {
			t.Errorf("%q", got)
		}
		clear(got[:cap(got)])
	}
	names := d.Names()
	clear(names[:cap(names)])
	holds(t, "memory", d, "f=abcdef g=and", 3, 3)
	first, _ := d.Read("f")
	_ = append(first, "more"...)
	d.Truncate("f", 1)
	d.Append("f", []byte("xyz"))
	if string(first) != "abcdef" {
		t.Errorf("an earlier result became %q", first)
	}
	d.Crash(0, 0)
	if string(first) != "abcdef" {
		t.Errorf("an earlier result became %q", first)
	}
}

// TestOwnBytes: 6.1 and 6.2, a file shares its bytes with no other one, and
// not with what a crash brings back.
func TestOwnBytes(t *testing.T) {
	d := disk.New(1000)
	d.Append("f", []byte("abcdefgh"))
	d.Sync()
	d.Truncate("f", 6)
	d.Append("f", []byte("XY"))
	d.Rename("f", "g")
	d.Append("f", []byte("12"))
	d.Append("g", []byte("Z"))
	holds(t, "all", d, "f=12 g=abcdefXYZ", 5, 7)
	d.Crash(3, 0)
	holds(t, "Crash", d, "g=abcdefXY", 0, 7)
	d.Truncate("g", 7)
	d.Append("g", []byte("!"))
	d.Append("f", []byte("?"))
	d.Rename("g", "f")
	d.Append("g", []byte("new"))
	d.Crash(0, 0)
	holds(t, "undone", d, "g=abcdefXY", 0, 12)
}

// prepared returns a disk with files that are synced and with pending
// operations of all kinds, among them some that change nothing to see.
func prepared() *disk.Disk {
	d := disk.New(100)
	d.Append("a", []byte("alpha"))
	d.Append("b", []byte("beta"))
	d.Append("c", nil)
	d.Sync()
	d.Append("a", []byte("123"))
	d.Rename("b", "a")
	d.Append("d", []byte("xy"))
	d.Rename("d", "d")
	d.Append("c", nil)
	d.Append("e", nil)
	d.Truncate("d", 1)
	d.Remove("a")
	d.Append("a", []byte("new"))
	d.Truncate("a", 3)
	d.Rename("c", "b")
	return d
}

// TestCrash: 6.2, the first operations stay, and of the next one the first
// bytes if it is an Append.
func TestCrash(t *testing.T) {
	for _, c := range []struct {
		done, cut int
		want      string
	}{
		{0, 0, "a=alpha b=beta c="},
		{0, 1, "a=alpha1 b=beta c="},
		{0, 2, "a=alpha12 b=beta c="},
		{0, 3, "a=alpha123 b=beta c="},
		{1, 0, "a=alpha123 b=beta c="},
		{1, 1, "a=alpha123 b=beta c="},
		{2, 0, "a=beta c="},
		{2, 1, "a=beta c= d=x"},
		{2, 2, "a=beta c= d=xy"},
		{3, 0, "a=beta c= d=xy"},
		{3, 1, "a=beta c= d=xy"},
		{4, 0, "a=beta c= d=xy"},
		{4, 1, "a=beta c= d=xy"},
		{5, 0, "a=beta c= d=xy"},
		{5, 1, "a=beta c= d=xy"},
		{6, 0, "a=beta c= d=xy e="},
		{6, 1, "a=beta c= d=xy e="},
		{7, 0, "a=beta c= d=x e="},
		{8, 0, "c= d=x e="},
		{8, 1, "a=n c= d=x e="},
		{8, 2, "a=ne c= d=x e="},
		{8, 3, "a=new c= d=x e="},
		{9, 0, "a=new c= d=x e="},
		{10, 7, "a=new c= d=x e="},
		{11, 0, "a=new b= d=x e="},
		{11, 5, "a=new b= d=x e="},
	} {
		appended := c.done == 0 || c.done == 2 || c.done == 8
		for _, round := range []int{-2, -1, 0, 1, 1000} {
			for _, turn := range []int{-3, -1, 0, 1, 1000} {
				size := map[int]int{0: 3, 2: 2, 8: 3}[c.done]
				done, cut := c.done+12*round, c.cut+(size+1)*turn
				if !appended {
					cut = c.cut + turn
				}
				d := prepared()
				d.Crash(done, cut)
				holds(t, "Crash("+strconv.Itoa(done)+", "+strconv.Itoa(cut)+")", d, c.want, 0, 15)
			}
		}
	}
}

// TestCrashNumbers: 6.2, the remainders of the greatest numbers.
func TestCrashNumbers(t *testing.T) {
	for _, c := range []struct {
		done, cut int
		want      string
	}{
		{math.MaxInt, 0, "f=abc"},               // 2^63 - 1 = 1 modulo 2
		{math.MinInt, 0, ""},                    // -2^63 = 0 modulo 2
		{math.MinInt, math.MaxInt, "f=abc"},     // 2^63 - 1 = 3 modulo 4
		{0, math.MinInt, ""},                    // -2^63 = 0 modulo 4
		{0, math.MinInt + 1, "f=a"},             //
		{-2, -2, "f=ab"},                        //
		{-1, -1, "f=abc"},                       //
		{math.MinInt + 1, math.MinInt, "f=abc"}, //
	} {
		d := disk.New(100)
		d.Append("f", []byte("abc"))
		d.Crash(c.done, c.cut)
		holds(t, "Crash("+strconv.Itoa(c.done)+", "+strconv.Itoa(c.cut)+")", d, c.want, 0, 1)
	}
}

// TestCrashOfNothing: 6.2, without pending operations all stays as it is.
func TestCrashOfNothing(t *testing.T) {
	for _, done := range []int{0, 1, -1, 100, math.MaxInt, math.MinInt} {
		d := disk.New(100)
		d.Crash(done, done)
		holds(t, "empty", d, "", 0, 0)
		d.Append("f", []byte("abc"))
		d.Sync()
		d.Crash(done, done)
		d.Crash(done, done)
		holds(t, "synced", d, "f=abc", 0, 2)
	}
}

// TestCrashAgain: 6.2, what a crash has kept is not pending any more, so a
// second one leaves it.
func TestCrashAgain(t *testing.T) {
	d := disk.New(100)
	d.Append("f", []byte("abc"))
	d.Append("g", []byte("def"))
	d.Crash(1, 1)
	holds(t, "first", d, "f=abc g=d", 0, 2)
	d.Crash(0, 0)
	holds(t, "second", d, "f=abc g=d", 0, 2)
	d.Append("g", []byte("x"))
	d.Crash(0, 0)
	holds(t, "third", d, "f=abc g=d", 0, 3)
}

// TestFuse: 6.3, the disk fails at the operation behind the n next ones that
// return OK, and that one is not executed.
func TestFuse(t *testing.T) {
	run := []operation{
		{"Append", func(d *disk.Disk) error { return d.Append("f", []byte("abc")) }},
		{"Append nothing", func(d *disk.Disk) error { return d.Append("e", nil) }},
		{"Truncate", func(d *disk.Disk) error { return d.Truncate("f", 2) }},
		{"Sync", func(d *disk.Disk) error { return d.Sync() }},
		{"Rename", func(d *disk.Disk) error { return d.Rename("f", "g") }},
		{"Rename to itself", func(d *disk.Disk) error { return d.Rename("g", "g") }},
		{"Remove", func(d *disk.Disk) error { return d.Remove("g") }},
		{"Sync again", func(d *disk.Disk) error { return d.Sync() }},
	}
	states := []string{"", "f=abc", "e= f=abc", "e= f=ab", "e= f=ab", "e= g=ab", "e= g=ab", "e=", "e="}
	pending := []int{0, 1, 2, 3, 0, 1, 2, 3, 0}
	for n := range run {
		d := disk.New(100)
		d.Fuse(n)
		for k := range n {
			expect(t, "no file", d.Remove("none"), api.ErrUnknown)
			expect(t, run[k].what, run[k].run(d), api.OK)
			holds(t, run[k].what, d, states[k+1], pending[k+1], k+1)
		}
		expect(t, run[n].what+" fails", run[n].run(d), api.ErrDown)
		for _, o := range append(run, withName("f")...) {
			expect(t, o.what+" dead", o.run(d), api.ErrDown)
		}
		isDead(t, d, pending[n], n)
		d.Crash(pending[n], 0)
		holds(t, run[n].what+" was not executed", d, states[n], 0, n)
		expect(t, run[n].what+" once more", run[n].run(d), api.OK)
	}
}

// isDead reports an error unless the disk is dead and tells nothing.
func isDead(t *testing.T, d *disk.Disk, pending, works int) {
	t.Helper()
	if !d.Dead() || len(d.Names()) != 0 || d.Used() != 0 || d.Pending() != pending || d.Works() != works {
		t.Errorf("dead: %t, %q, %d used, %d pending, %d works; want %d and %d", d.Dead(), d.Names(), d.Used(), d.Pending(), d.Works(), pending, works)
	}
	for _, name := range []string{"e", "f", "g", "none", ""} {
		missing(t, d, name)
	}
}

// TestFuseAgain: 6.3, arming counts anew, and a negative number disarms; a
// dead disk stays dead until a crash, which disarms too.
func TestFuseAgain(t *testing.T) {
	for _, off := range []int{-1, -2, math.MinInt} {
		d := disk.New(100)
		d.Append("f", []byte("abc"))
		d.Fuse(1)
		expect(t, "one", d.Sync(), api.OK)
		d.Fuse(1)
		expect(t, "one more", d.Sync(), api.OK)
		d.Fuse(off)
		for range 10 {
			expect(t, "disarmed", d.Sync(), api.OK)
		}
		d.Fuse(0)
		expect(t, "armed", d.Append("f", []byte("d")), api.ErrDown)
		d.Fuse(off)
		expect(t, "dead", d.Sync(), api.ErrDown)
		d.Fuse(5)
		expect(t, "dead", d.Sync(), api.ErrDown)
		isDead(t, d, 0, 13)
		d.Fuse(0)
		d.Crash(0, 0)
		holds(t, "Crash", d, "f=abc", 0, 13)
		for range 10 {
			expect(t, "behind the crash", d.Sync(), api.OK)
		}
		d.Fuse(math.MaxInt)
		expect(t, "much later", d.Sync(), api.OK)
		d.Fuse(0)
		d.Crash(0, 0)
		expect(t, "disarmed by the crash", d.Sync(), api.OK)
	}
}

// TestIndependent: R7, one disk has nothing to do with another one.
func TestIndependent(t *testing.T) {
	one, other := disk.New(5), disk.New(100)
	one.Append("f", []byte("abc"))
	other.Append("g", []byte("other"))
	one.Fuse(0)
	one.Sync()
	holds(t, "other", other, "g=other", 1, 1)
	one.Crash(0, 0)
	expect(t, "Sync", other.Sync(), api.OK)
	holds(t, "one", one, "", 0, 1)
}

// model is a disk that keeps the files as of each pending operation, so that
// a crash only has to choose.
type model struct {
	states []map[string]string // of which the first one is synced
	bytes  []string            // of the Appends among the operations
	names  []string
	fuse   int
	dead   bool
	works  int
}

func (m *model) now() map[string]string { return m.states[len(m.states)-1] }

// step lays down what an operation makes of the files, or why it does not.
func (m *model) step(change func(all map[string]string) api.Errno, name, b string) api.Errno {
	if m.dead {
		return api.ErrDown
	}
	next := maps.Clone(m.now())
	if kind := change(next); kind != api.OK {
		return kind
	}
	if m.fuse == 0 {
		m.dead = true
		return api.ErrDown
	}
	m.fuse--
	m.works++
	m.states, m.names, m.bytes = append(m.states, next), append(m.names, name), append(m.bytes, b)
	return api.OK
}

func (m *model) settle(all map[string]string) {
	m.states, m.names, m.bytes = []map[string]string{all}, nil, nil
}

func (m *model) crash(done, cut int) {
	all := maps.Clone(m.states[done])
	if done < len(m.bytes) && cut%(len(m.bytes[done])+1) > 0 {
		all[m.names[done]] += m.bytes[done][:cut%(len(m.bytes[done])+1)]
	}
	m.settle(all)
	m.fuse, m.dead = -1, false
}

const modelRoom = 60

// change runs one operation, chosen by a number, on the disk and the model.
func (m *model) change(d *disk.Disk, by func(int) int) (error, api.Errno) {
	name, to := string(rune('a'+by(4))), string(rune('a'+by(4)))
	switch kind := by(9); {
	case kind < 4:
		b := "0123456789abcdefghijklmnopqrstuvwxyz"[by(20):][:by(16)]
		return d.Append(name, []byte(b)), m.step(func(all map[string]string) api.Errno {
			all[name] += b
			total := 0
			for _, content := range all {
				total += len(content)
			}
			if total > modelRoom {
				return api.ErrSpace
			}
			return api.OK
		}, name, b)
	case kind < 6:
		n := by(12) - 1
		return d.Truncate(name, n), m.step(func(all map[string]string) api.Errno {
			content, exists := all[name]
			if !exists {
				return api.ErrUnknown
			}
			if n < 0 || n > len(content) {
				return api.ErrArg
			}
			all[name] = content[:n]
			return api.OK
		}, name, "")
	case kind < 8:
		return d.Rename(name, to), m.step(func(all map[string]string) api.Errno {
			content, exists := all[name]
			if !exists {
				return api.ErrUnknown
			}
			delete(all, name)
			all[to] = content
			return api.OK
		}, name, "")
	default:
		return d.Remove(name), m.step(func(all map[string]string) api.Errno {
			if _, exists := all[name]; !exists {
				return api.ErrUnknown
			}
			delete(all, name)
			return api.OK
		}, name, "")
	}
}

// compare reports whether the disk is as the model tells it.
func (m *model) compare(t *testing.T, d *disk.Disk) bool {
	t.Helper()
	want := m.now()
	if m.dead {
		want = nil
	}
	used := 0
	for _, content := range want {
		used += len(content)
	}
	if got := files(d); !maps.Equal(got, want) || d.Used() != used || d.Pending() != len(m.bytes) || d.Works() != m.works || d.Dead() != m.dead {
		t.Errorf("%q, %d used, %d pending, %d works, dead: %t; want %q, %d, %d, %d, %t", got, d.Used(), d.Pending(), d.Works(), d.Dead(), want, used, len(m.bytes), m.works, m.dead)
		return false
	}
	return true
}

// TestModel: 6.1 to 6.3, long runs of operations, crashes and failures.
func TestModel(t *testing.T) {
	state := uint32(1)
	by := func(n int) int {
		state = state*1664525 + 1013904223
		return int(state>>16) % n
	}
	for run := range 300 {
		d, m := disk.New(modelRoom), &model{fuse: -1}
		m.settle(map[string]string{})
		for range 200 {
			switch choice := by(40); {
			case choice == 0:
				done, cut := by(len(m.bytes)+1), by(30)
				d.Crash(done, cut)
				m.crash(done, cut)
			case choice == 1:
				n := by(20)
				d.Fuse(n)
				m.fuse = n
			case choice < 4:
				got, want := d.Sync(), m.step(func(map[string]string) api.Errno { return api.OK }, "", "")
				expect(t, "Sync", got, want)
				if want == api.OK {
					m.settle(m.now())
				}
			default:
				got, want := m.change(d, by)
				expect(t, "operation", got, want)
			}
			if !m.compare(t, d) {
				t.Fatalf("in run %d", run)
			}
		}
	}
}

// TestMany: R1, many small operations on a long file and on many files end
// soon, and a crash in the middle of them too.
func TestMany(t *testing.T) {
	const times = 1 << 17
	d := disk.New(api.MaxFile)
	d.Append("f", make([]byte, api.MaxFile/2))
	d.Sync()
	for k := range times {
		d.Append("f", []byte{byte(k), 1})
		d.Truncate("f", api.MaxFile/2+k+1)
		d.Append(strconv.Itoa(k%1000), []byte{byte(k)})
	}
	d.Crash(times/2*3, 0)
	b, _ := d.Read("f")
	if len(b) != api.MaxFile/2+times/2 || b[len(b)-1] != 0xff || len(d.Names()) != 1001 || d.Used() != len(b)+times/2 {
		t.Errorf("%d bytes, %d files, %d used", len(b), len(d.Names()), d.Used())
	}
	d.Truncate("f", 1)
	d.Crash(0, 0)
	if again, _ := d.Read("f"); !bytes.Equal(again, b) {
		t.Error("the bytes did not come back")
	}
}

// heap returns how many bytes are in use.
func heap() int {
	var stats runtime.MemStats
	runtime.GC()
	runtime.ReadMemStats(&stats)
	return int(stats.HeapAlloc)
}

// TestKept: R2, a disk keeps neither the bytes that files have no more nor
// the texts that names were taken from.
func TestKept(t *testing.T) {
	const size, times = 1 << 20, 64
	for _, c := range []struct {
		what string
		run  func(d *disk.Disk, name string)
	}{
		{"truncated", func(d *disk.Disk, name string) {
			d.Append(name, make([]byte, size))
			d.Truncate(name, 1)
			d.Truncate(name, 0)
			d.Sync()
		}},
		{"undone", func(d *disk.Disk, name string) {
			d.Append(name, nil)
			d.Sync()
			d.Append(name, make([]byte, size))
			d.Crash(0, 0)
		}},
		{"removed", func(d *disk.Disk, name string) {
			d.Append(name, make([]byte, size))
			d.Remove(name)
			d.Sync()
		}},
		{"named", func(d *disk.Disk, name string) {
			text := name + strings.Repeat(" ", size)
			d.Append(text[:len(name)], nil)
			d.Truncate(text[:len(name)], 0)
			d.Rename(text[:len(name)], text[:len(name)])
		}},
		{"named and removed", func(d *disk.Disk, name string) {
			text := name + strings.Repeat(" ", size)
			d.Append(name, nil)
			d.Remove(text[:len(name)])
		}},
	} {
		d := disk.New(size)
		before := heap()
		for k := range times {
			c.run(d, "file "+strconv.Itoa(k))
		}
		if kept := heap() - before; kept > 8*size {
			t.Errorf("%s: %d bytes are kept for %d used ones", c.what, kept, d.Used())
		}
		runtime.KeepAlive(d)
	}
}
