package frame_test

import (
	"bytes"
	"encoding/binary"
	"errors"
	"hash/crc32"
	"math"
	"slices"
	"testing"

	"taproot/api"
	"taproot/frame"
	"taproot/oops"
)

// head is how many bytes are in front of a body.
const head = 9

// record returns a record as chapter 4 lays it out, with any kind and any
// length of the body in front, and with the right checksum.
func record(kind byte, length uint32, body []byte) []byte {
	b := binary.BigEndian.AppendUint32([]byte{kind}, length)
	sum := crc32.ChecksumIEEE(slices.Concat(b, body))
	return append(binary.BigEndian.AppendUint32(b, sum), body...)
}

// mixed returns size bytes without a short period.
func mixed(size int) []byte {
	b := make([]byte, size)
	state := uint32(1)
	for i := range b {
		state = state*1664525 + 1013904223
		b[i] = byte(state >> 24)
	}
	return b
}

// bodies are what records are laid of.
func bodies() [][]byte {
	return [][]byte{nil, {}, {0}, {255}, []byte("abc"), make([]byte, 255), mixed(256), mixed(65537), mixed(api.MaxRecord - 1), mixed(api.MaxRecord)}
}

// checkNext reports an error unless Next of b answers this record.
func checkNext(t *testing.T, name string, b []byte, kind int, body []byte, size int) {
	t.Helper()
	k, got, n, e := frame.Next(b)
	if k != kind || !bytes.Equal(got, body) || n != size || e != nil {
		t.Errorf("%s: Next: kind %d, %d bytes of body, size %d, %v", name, k, len(got), n, e)
	}
}

// checkFails reports an error unless Next of b returns the error want, and
// nothing beside it.
func checkFails(t *testing.T, name string, b []byte, want api.Errno) {
	t.Helper()
	kind, body, size, e := frame.Next(b)
	if oops.Kind(e) != want || !errors.Is(e, want) {
		t.Errorf("%s: Next: %v, want %v", name, e, want)
	}
	if kind != 0 || len(body) != 0 || size != 0 {
		t.Errorf("%s: beside %v: kind %d, body %x, size %d", name, e, kind, body, size)
	}
}

// TestExample: the example of chapter 4.
func TestExample(t *testing.T) {
	checkFails(t, "nil", nil, api.ErrShort)
	checkFails(t, "empty", []byte{}, api.ErrShort)
}

// TestKnownRecord: 4.1, a record byte by byte.
func TestKnownRecord(t *testing.T) {
	// The sum is that of zlib.crc32(b"\x01\0\0\0\x03abc") in Python.
	want := []byte{1, 0, 0, 0, 3, 0x71, 0x58, 0xe8, 0xc9, 'a', 'b', 'c'}
	got, e := frame.Lay(1, []byte("abc"))
	if !bytes.Equal(got, want) || e != nil {
		t.Errorf("Lay: %x, %v", got, e)
	}
	checkNext(t, "abc", want, 1, []byte("abc"), 12)
}

// TestLay: 4.1, records of each kind and of short and long bodies, there and
// back.
func TestLay(t *testing.T) {
	for kind := 1; kind <= 255; kind++ {
		b, e := frame.Lay(kind, []byte{7, 8})
		if want := record(byte(kind), 2, []byte{7, 8}); !bytes.Equal(b, want) || e != nil {
			t.Errorf("Lay of kind %d: %x, want %x, %v", kind, b, want, e)
		}
		checkNext(t, "each kind", b, kind, []byte{7, 8}, head+2)
	}
	for _, body := range bodies() {
		for _, kind := range []int{1, 255} {
			b, e := frame.Lay(kind, body)
			if !bytes.Equal(b, record(byte(kind), uint32(len(body)), body)) || e != nil {
				t.Errorf("Lay of kind %d, %d bytes: %d bytes, %v", kind, len(body), len(b), e)
			}
			checkNext(t, "each body", b, kind, body, head+len(body))
		}
	}
}

// TestLayArg: 4.1, ErrArg for a kind out of its range, and for a body that is
// too long.
func TestLayArg(t *testing.T) {
	long := make([]byte, api.MaxRecord+1)
	for _, c := range []struct {
		kind int
		body []byte
	}{
		{0, nil}, {-1, nil}, {256, nil}, {257, []byte("abc")}, {-255, nil}, {1 << 32, nil}, {1<<32 + 1, nil}, {math.MinInt, nil}, {math.MaxInt, nil},
		{1, long}, {255, long}, {1, make([]byte, 2*api.MaxRecord)}, {0, long},
	} {
		b, e := frame.Lay(c.kind, c.body)
		if oops.Kind(e) != api.ErrArg || !errors.Is(e, api.ErrArg) || len(b) != 0 {
			t.Errorf("Lay of kind %d, %d bytes: %d bytes, %v", c.kind, len(c.body), len(b), e)
		}
	}
}

// TestNextOfSeveral: 4.1, only the record at the beginning counts, whatever is
// behind it; its size leads to the next one.
func TestNextOfSeveral(t *testing.T) {
	first, second, third := record(1, 3, []byte("abc")), record(255, 0, nil), record(7, 1, []byte{0})
	checkNext(t, "ahead of a part", slices.Concat(first, second[:4]), 1, []byte("abc"), 12)
	checkNext(t, "ahead of anything", slices.Concat(second, []byte{0, 0xff}), 255, nil, 9)
	rest := slices.Concat(first, second, third)
	for _, want := range []struct {
		kind int
		body string
	}{{1, "abc"}, {255, ""}, {7, "\x00"}} {
		checkNext(t, "one of several", rest, want.kind, []byte(want.body), head+len(want.body))
		rest = rest[head+len(want.body):]
	}
	checkFails(t, "behind the last one", rest, api.ErrShort)
}

// TestNextShort: 4.1, ErrShort for each part of a record, wherever it ends.
func TestNextShort(t *testing.T) {
	for _, body := range [][]byte{nil, []byte("abc"), mixed(300)} {
		b := record(5, uint32(len(body)), body)
		for size := range b {
			checkFails(t, "a part", b[:size], api.ErrShort)
			// What is between the length and the capacity does not count.
			checkFails(t, "a part alone", slices.Clone(b[:size]), api.ErrShort)
		}
	}
	whole := record(5, api.MaxRecord, mixed(api.MaxRecord))
	checkFails(t, "one byte less than the greatest", whole[:len(whole)-1], api.ErrShort)
}

// TestNextForm: 4.1, ErrForm for the kind 0 and for lengths that are too great,
// although the checksum is right.
func TestNextForm(t *testing.T) {
	checkFails(t, "kind 0", record(0, 0, nil), api.ErrForm)
	checkFails(t, "kind 0 of zeros", make([]byte, head), api.ErrForm)
	checkFails(t, "kind 0 with a body", record(0, 3, []byte("abc")), api.ErrForm)
	for _, length := range []uint32{api.MaxRecord + 1, 1 << 24, 1 << 31, math.MaxUint32} {
		checkFails(t, "too long", record(1, length, []byte("abc")), api.ErrForm)
	}
	checkFails(t, "too long and complete", record(1, api.MaxRecord+1, mixed(api.MaxRecord+1)), api.ErrForm)
}

// TestNextSum: 4.1, ErrSum if any bit of the kind, of the checksum or of the
// body has changed, and if one of the length has such that a shorter record is
// left.
func TestNextSum(t *testing.T) {
	b := record(5, 7, []byte("content"))
	for bit := range 8 * len(b) {
		changed := bytes.Clone(b)
		changed[bit/8] ^= 1 << (bit % 8)
		switch length := binary.BigEndian.Uint32(changed[1:]); {
		case length > api.MaxRecord:
			checkFails(t, "a changed bit", changed, api.ErrForm)
		case length > 7:
			checkFails(t, "a changed bit", changed, api.ErrShort)
		default:
			checkFails(t, "a changed bit", changed, api.ErrSum)
		}
	}
	bodySum := binary.BigEndian.AppendUint32([]byte{5, 0, 0, 0, 3}, crc32.ChecksumIEEE([]byte("abc")))
	checkFails(t, "the sum of the body alone", append(bodySum, "abc"...), api.ErrSum)
	long := record(5, api.MaxRecord, mixed(api.MaxRecord))
	long[len(long)-1] ^= 1
	checkFails(t, "the last byte of the greatest", long, api.ErrSum)
}

// TestNextOrder: 4.1, the first error that applies is returned.
func TestNextOrder(t *testing.T) {
	for _, c := range []struct {
		name string
		b    []byte
		want api.Errno
	}{
		{"8 bytes of kind 0", make([]byte, 8), api.ErrShort},
		{"8 bytes, too long", []byte{1, 255, 255, 255, 255, 0, 0, 0}, api.ErrShort},
		{"kind 0 without its body", record(0, 3, nil), api.ErrForm},
		{"kind 0, too long", record(0, math.MaxUint32, nil), api.ErrForm},
		{"kind 0 with a wrong sum", []byte{0, 0, 0, 0, 0, 1, 2, 3, 4}, api.ErrForm},
		{"too long with a wrong sum", []byte{1, 0, 16, 0, 1, 0, 0, 0, 0}, api.ErrForm},
		{"the greatest without its body", []byte{1, 0, 16, 0, 0, 0, 0, 0, 0}, api.ErrShort},
		{"a part with a wrong sum", []byte{1, 0, 0, 0, 2, 0, 0, 0, 0, 9}, api.ErrShort},
		{"no body and a wrong sum", []byte{1, 0, 0, 0, 0, 0, 0, 0, 0}, api.ErrSum},
	} {
		checkFails(t, c.name, c.b, c.want)
	}
}

// TestMemory: R2, arguments are not changed, and results share no memory with
// them or with one another, spare capacity included.
func TestMemory(t *testing.T) {
	given := []byte("abc and more")
	first, _ := frame.Lay(1, given[:3])
	second, _ := frame.Lay(1, given[:3])
	if string(given) != "abc and more" {
		t.Errorf("Lay changed its argument: %q", given)
	}
	clear(given)
	clear(first[:cap(first)])
	if want := record(1, 3, []byte("abc")); !bytes.Equal(second, want) {
		t.Errorf("the second result: %x, want %x", second, want)
	}
	for _, size := range []int{0, 1, 3, 300} {
		content := mixed(size)
		all := slices.Concat(record(1, uint32(size), content), second)
		kept := bytes.Clone(all)
		_, body, _, _ := frame.Next(all)
		_, other, _, _ := frame.Next(all)
		clear(body[:cap(body)])
		if !bytes.Equal(all, kept) {
			t.Errorf("the argument of Next: %x, want %x", all, kept)
		}
		clear(all)
		if !bytes.Equal(other, content) {
			t.Errorf("the second body: %x, want %x", other, content)
		}
	}
}

// TestManyRecords: each record costs what it has itself, however much is
// behind it. Otherwise a whole file of the shortest ones would take until the
// test is stopped.
func TestManyRecords(t *testing.T) {
	one := record(1, 0, nil)
	b := bytes.Repeat(one, api.MaxFile/len(one))
	count := 0
	for len(b) > 0 {
		kind, _, size, e := frame.Next(b)
		if kind != 1 || size != len(one) || e != nil {
			t.Fatalf("record %d: kind %d, size %d, %v", count, kind, size, e)
		}
		b = b[size:]
		count++
	}
	if count != api.MaxFile/len(one) {
		t.Errorf("%d records", count)
	}
}
