package octet_test

import (
	"bytes"
	"math"
	"slices"
	"testing"

	"taproot/octet"
)

// cases are numbers with the bytes that each method of a Writer appends for
// them.
var cases = []struct {
	n        int
	u8       byte
	u32, u64 string
	leb      string
}{
	{0, 0, "\x00\x00\x00\x00", "\x00\x00\x00\x00\x00\x00\x00\x00", "\x00"},
	{1, 1, "\x00\x00\x00\x01", "\x00\x00\x00\x00\x00\x00\x00\x01", "\x01"},
	{127, 127, "\x00\x00\x00\x7f", "\x00\x00\x00\x00\x00\x00\x00\x7f", "\x7f"},
	{128, 128, "\x00\x00\x00\x80", "\x00\x00\x00\x00\x00\x00\x00\x80", "\x80\x01"},
	{255, 255, "\x00\x00\x00\xff", "\x00\x00\x00\x00\x00\x00\x00\xff", "\xff\x01"},
	{256, 0, "\x00\x00\x01\x00", "\x00\x00\x00\x00\x00\x00\x01\x00", "\x80\x02"},
	{300, 0x2c, "\x00\x00\x01\x2c", "\x00\x00\x00\x00\x00\x00\x01\x2c", "\xac\x02"},
	{16383, 255, "\x00\x00\x3f\xff", "\x00\x00\x00\x00\x00\x00\x3f\xff", "\xff\x7f"},
	{16384, 0, "\x00\x00\x40\x00", "\x00\x00\x00\x00\x00\x00\x40\x00", "\x80\x80\x01"},
	{0x01020304, 4, "\x01\x02\x03\x04", "\x00\x00\x00\x00\x01\x02\x03\x04", "\x84\x86\x88\x08"},
	{math.MaxUint32, 255, "\xff\xff\xff\xff", "\x00\x00\x00\x00\xff\xff\xff\xff", "\xff\xff\xff\xff\x0f"},
	{1 << 32, 0, "\x00\x00\x00\x00", "\x00\x00\x00\x01\x00\x00\x00\x00", "\x80\x80\x80\x80\x10"},
	{0x0102030405060708, 8, "\x05\x06\x07\x08", "\x01\x02\x03\x04\x05\x06\x07\x08", "\x88\x8e\x98\xa8\xc0\xe0\x80\x81\x01"},
	{math.MaxInt, 255, "\xff\xff\xff\xff", "\x7f\xff\xff\xff\xff\xff\xff\xff", "\xff\xff\xff\xff\xff\xff\xff\xff\x7f"},
	{math.MinInt, 0, "\x00\x00\x00\x00", "\x80\x00\x00\x00\x00\x00\x00\x00", "\x80\x80\x80\x80\x80\x80\x80\x80\x80\x01"},
	{-1, 255, "\xff\xff\xff\xff", "\xff\xff\xff\xff\xff\xff\xff\xff", "\xff\xff\xff\xff\xff\xff\xff\xff\xff\x01"},
	{-256, 0, "\xff\xff\xff\x00", "\xff\xff\xff\xff\xff\xff\xff\x00", "\x80\xfe\xff\xff\xff\xff\xff\xff\xff\x01"},
}

// written returns what a new Writer holds after write.
func written(write func(w *octet.Writer)) []byte {
	w := octet.NewWriter()
	write(w)
	return w.Bytes()
}

// TestWriterIsEmpty: 1.1, at first a Writer holds nothing.
func TestWriterIsEmpty(t *testing.T) {
	if b := octet.NewWriter().Bytes(); len(b) != 0 {
		t.Errorf("new Writer: %x", b)
	}
}

// TestExample: the example of chapter 1.
func TestExample(t *testing.T) {
	got := written(func(w *octet.Writer) {
		w.U8(1)
		w.Var(300)
	})
	if want := []byte{0x01, 0xac, 0x02}; !bytes.Equal(got, want) {
		t.Errorf("got %x, want %x", got, want)
	}
}

// TestWriterNumbers: 1.1, each number as each method appends it.
func TestWriterNumbers(t *testing.T) {
	for _, c := range cases {
		if got := written(func(w *octet.Writer) { w.U8(c.n) }); !bytes.Equal(got, []byte{c.u8}) {
			t.Errorf("U8(%d): %x", c.n, got)
		}
		if got := written(func(w *octet.Writer) { w.U32(c.n) }); string(got) != c.u32 {
			t.Errorf("U32(%d): %x", c.n, got)
		}
		if got := written(func(w *octet.Writer) { w.U64(c.n) }); string(got) != c.u64 {
			t.Errorf("U64(%d): %x", c.n, got)
		}
		if got := written(func(w *octet.Writer) { w.Var(c.n) }); string(got) != c.leb {
			t.Errorf("Var(%d): %x", c.n, got)
		}
	}
}

// TestWriterAppends: 1.1, what is appended comes behind what is held.
func TestWriterAppends(t *testing.T) {
	w := octet.NewWriter()
	var want []byte
	for _, c := range cases {
		w.U8(c.n)
		w.Raw([]byte(c.leb))
		w.Raw(nil)
		w.U64(c.n)
		w.Raw([]byte{})
		w.U32(c.n)
		w.Var(c.n)
		want = append(want, c.u8)
		want = append(want, c.leb+c.u64+c.u32+c.leb...)
		if got := w.Bytes(); !bytes.Equal(got, want) {
			t.Fatalf("after %d: got %x, want %x", c.n, got, want)
		}
	}
}

// TestVarLength: 1.1, Var needs one byte for each started group of seven bits.
func TestVarLength(t *testing.T) {
	for bit := range 64 {
		n := int(uint64(1) << bit)
		if got := written(func(w *octet.Writer) { w.Var(n) }); len(got) != bit/7+1 {
			t.Errorf("Var(1<<%d): %x", bit, got)
		}
	}
}

// TestWriterMemory: R2, a Writer shares no memory with what it was given and
// what it has returned, spare capacity included.
func TestWriterMemory(t *testing.T) {
	w := octet.NewWriter()
	given := []byte{1, 2, 3, 4, 5}
	w.Raw(given[:3])
	w.U8(9)
	if !bytes.Equal(given, []byte{1, 2, 3, 4, 5}) {
		t.Errorf("Raw changed its argument: %x", given)
	}
	clear(given)
	first, second := w.Bytes(), w.Bytes()
	clear(first[:cap(first)])
	w.U32(0x06070809)
	clear(first[:cap(first)])
	if want := []byte{1, 2, 3, 9}; !bytes.Equal(second, want) {
		t.Errorf("second result: got %x, want %x", second, want)
	}
	if got, want := w.Bytes(), []byte{1, 2, 3, 9, 6, 7, 8, 9}; !bytes.Equal(got, want) {
		t.Errorf("Bytes: got %x, want %x", got, want)
	}
}

// TestObjectsAreIndependent: R7.
func TestObjectsAreIndependent(t *testing.T) {
	v, w := octet.NewWriter(), octet.NewWriter()
	v.U8(1)
	w.U8(2)
	if !bytes.Equal(v.Bytes(), []byte{1}) || !bytes.Equal(w.Bytes(), []byte{2}) {
		t.Errorf("Writers: %x, %x", v.Bytes(), w.Bytes())
	}
	b := []byte{1, 2}
	q, r := octet.NewReader(b), octet.NewReader(b)
	q.U32()
	if r.Lack() || r.Left() != 2 || r.U8() != 1 || r.U8() != 2 {
		t.Error("a Reader failed with another one")
	}
}

// TestReaderNumbers: 1.2, each method reads its number, exactly its bytes, and
// leaves the byte behind it.
func TestReaderNumbers(t *testing.T) {
	for _, c := range cases {
		for _, m := range []struct {
			name string
			b    []byte
			read func(r *octet.Reader) int
			want int
		}{
			{"U8", []byte{c.u8}, (*octet.Reader).U8, c.n & math.MaxUint8},
			{"U32", []byte(c.u32), (*octet.Reader).U32, c.n & math.MaxUint32},
			{"U64", []byte(c.u64), (*octet.Reader).U64, c.n},
			{"Var", []byte(c.leb), (*octet.Reader).Var, c.n},
		} {
			r := octet.NewReader(slices.Concat(m.b, []byte{0xa5}))
			if got := m.read(r); got != m.want || r.Lack() || r.Left() != 1 || r.U8() != 0xa5 {
				t.Errorf("%s of %x: got %d, want %d", m.name, m.b, got, m.want)
			}
			r = octet.NewReader(m.b)
			if got := m.read(r); got != m.want || r.Lack() || r.Left() != 0 {
				t.Errorf("%s of just %x: got %d, want %d", m.name, m.b, got, m.want)
			}
		}
	}
}

// TestReaderFromTheFront: 1.2, calls read one behind the other, and Left
// counts down.
func TestReaderFromTheFront(t *testing.T) {
	w := octet.NewWriter()
	w.U8(7)
	w.Raw([]byte{1, 2, 3})
	w.Var(-5)
	w.U32(70000)
	w.U64(-6)
	w.Var(0)
	r := octet.NewReader(w.Bytes())
	for _, m := range []struct {
		name       string
		read       func(r *octet.Reader) int
		want, left int
	}{
		{"U8", (*octet.Reader).U8, 7, 26},
		{"Raw", func(r *octet.Reader) int { return len(r.Raw(3)) }, 3, 23},
		{"Var", (*octet.Reader).Var, -5, 13},
		{"U32", (*octet.Reader).U32, 70000, 9},
		{"U64", (*octet.Reader).U64, -6, 1},
		{"Var", (*octet.Reader).Var, 0, 0},
	} {
		if n := m.read(r); n != m.want || r.Left() != m.left || r.Lack() {
			t.Errorf("%s: got %d, want %d; %d left, want %d", m.name, n, m.want, r.Left(), m.left)
		}
	}
}

// TestReaderRaw: 1.2, Raw returns the next bytes; none are no failure, at the
// end either.
func TestReaderRaw(t *testing.T) {
	r := octet.NewReader([]byte{1, 2, 3})
	if b := r.Raw(0); len(b) != 0 || r.Lack() || r.Left() != 3 {
		t.Errorf("Raw(0): %x", b)
	}
	if b := r.Raw(2); !bytes.Equal(b, []byte{1, 2}) || r.Lack() || r.Left() != 1 {
		t.Errorf("Raw(2): %x", b)
	}
	if b := r.Raw(1); !bytes.Equal(b, []byte{3}) || r.Lack() || r.Left() != 0 {
		t.Errorf("Raw(1): %x", b)
	}
	if b := r.Raw(0); len(b) != 0 || r.Lack() {
		t.Errorf("Raw(0) at the end: %x", b)
	}
	if r = octet.NewReader(nil); len(r.Raw(0)) != 0 || r.Lack() || r.Left() != 0 {
		t.Error("Raw(0) of no bytes")
	}
}

// readings are all reading calls, with what they return as a number: 0 for no
// bytes.
var readings = []struct {
	name string
	read func(r *octet.Reader) int
}{
	{"U8", (*octet.Reader).U8},
	{"U32", (*octet.Reader).U32},
	{"U64", (*octet.Reader).U64},
	{"Var", (*octet.Reader).Var},
	{"Raw(0)", func(r *octet.Reader) int { return len(r.Raw(0)) }},
	{"Raw(1)", func(r *octet.Reader) int { return len(r.Raw(1)) }},
	{"Raw(-1)", func(r *octet.Reader) int { return len(r.Raw(-1)) }},
}

// checkFailed reports an error unless read fails for b, and every call after
// it reads nothing.
func checkFailed(t *testing.T, name string, b []byte, read func(r *octet.Reader) int) {
	t.Helper()
	for _, next := range readings {
		r := octet.NewReader(b)
		if n := read(r); n != 0 || !r.Lack() || r.Left() != 0 {
			t.Errorf("%s of %x: %d, lack %t, %d left", name, b, n, r.Lack(), r.Left())
		}
		if n := next.read(r); n != 0 || !r.Lack() || r.Left() != 0 {
			t.Errorf("%s after a failing %s of %x: %d, lack %t, %d left", next.name, name, b, n, r.Lack(), r.Left())
		}
	}
}

// TestBeyondTheEnd: 1.2, a number that is not complete fails.
func TestBeyondTheEnd(t *testing.T) {
	full := []byte{0x81, 0x82, 0x83, 0x84, 0x85, 0x86, 0x87, 0x88}
	for _, m := range []struct {
		name string
		size int
		read func(r *octet.Reader) int
	}{
		{"U8", 1, (*octet.Reader).U8},
		{"U32", 4, (*octet.Reader).U32},
		{"U64", 8, (*octet.Reader).U64},
		{"Var", 9, (*octet.Reader).Var},
	} {
		for size := range m.size {
			checkFailed(t, m.name, full[:size], m.read)
		}
	}
}

// TestRawFails: 1.2, Raw with a negative count or too great a one.
func TestRawFails(t *testing.T) {
	for _, b := range [][]byte{nil, {1}, {1, 2, 3}} {
		for _, n := range []int{math.MinInt, -len(b) - 1, -1, len(b) + 1, 1 << 32, math.MaxInt} {
			checkFailed(t, "Raw", b, func(r *octet.Reader) int { return len(r.Raw(n)) })
		}
	}
}

// TestVarFails: 1.2, a tenth byte that is greater than 1, and a last byte that
// is 0.
func TestVarFails(t *testing.T) {
	nine := bytes.Repeat([]byte{0x80}, 9)
	for tenth := 2; tenth < 256; tenth++ {
		checkFailed(t, "Var", slices.Concat(nine, []byte{byte(tenth)}), (*octet.Reader).Var)
		checkFailed(t, "Var", slices.Concat(nine, []byte{byte(tenth), 1}), (*octet.Reader).Var)
	}
	for size := 1; size <= 9; size++ {
		checkFailed(t, "Var", slices.Concat(nine[:size], []byte{0}), (*octet.Reader).Var)
		checkFailed(t, "Var", slices.Concat(bytes.Repeat([]byte{0xff}, size), []byte{0, 1}), (*octet.Reader).Var)
	}
}

// TestFailsInTheMiddle: 1.2, a failure stays one although bytes remained, and
// what was read ahead of it does not matter.
func TestFailsInTheMiddle(t *testing.T) {
	for _, m := range readings {
		r := octet.NewReader([]byte{1, 2, 3, 4, 5, 6, 7, 8, 9, 10})
		if r.U8() != 1 || r.Lack() {
			t.Fatal("first byte")
		}
		if b := r.Raw(10); len(b) != 0 || !r.Lack() || r.Left() != 0 {
			t.Errorf("Raw(10) of nine bytes: %x", b)
		}
		if n := m.read(r); n != 0 || !r.Lack() || r.Left() != 0 {
			t.Errorf("%s after it: %d", m.name, n)
		}
	}
}

// TestReaderMemory: R2, a Reader shares no memory with what it was given and
// what it has returned, spare capacity included.
func TestReaderMemory(t *testing.T) {
	given := []byte{1, 2, 3, 4, 5, 6}
	r := octet.NewReader(given[:5])
	clear(given)
	first := r.Raw(2)
	if !bytes.Equal(first, []byte{1, 2}) {
		t.Errorf("first bytes: %x", first)
	}
	clear(first[:cap(first)])
	if second := r.Raw(3); !bytes.Equal(second, []byte{3, 4, 5}) {
		t.Errorf("second bytes: %x", second)
	}
	given = []byte{1, 2, 3}
	r = octet.NewReader(given[:2])
	b := r.Raw(1)
	clear(b[:cap(b)])
	if !bytes.Equal(given, []byte{1, 2, 3}) || r.U8() != 2 {
		t.Errorf("a result reaches into the argument: %x", given)
	}
}
