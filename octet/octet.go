// Package octet encodes integers as bytes, most significant byte first: see
// DOC.md, chapter 1.
package octet

import "bytes"

const (
	// groupBits is how many bits of a number each byte of Var carries.
	groupBits = 7
	// more marks a byte of Var that another one follows.
	more = 1 << groupBits
	// lastGroup is the index of the tenth byte of Var, the last one that 64
	// bits can need. Only their top bit is left for it.
	lastGroup = 9
)

// Writer holds the bytes that were appended to it.
type Writer struct {
	held []byte
}

func NewWriter() *Writer { return &Writer{} }

func (w *Writer) U8(n int)  { w.fixed(n, 1) }
func (w *Writer) U32(n int) { w.fixed(n, 4) }
func (w *Writer) U64(n int) { w.fixed(n, 8) }

func (w *Writer) fixed(n, size int) {
	for left := size - 1; left >= 0; left-- {
		w.held = append(w.held, byte(n>>(8*left)))
	}
}

func (w *Writer) Var(n int) {
	// A signed shift would fill negative numbers with ones and never end.
	rest := uint64(n)
	for rest >= more {
		w.held = append(w.held, byte(rest)|more)
		rest >>= groupBits
	}
	w.held = append(w.held, byte(rest))
}

func (w *Writer) Raw(b []byte) { w.held = append(w.held, b...) }

// Bytes returns a copy of all bytes, so that the caller may change it.
func (w *Writer) Bytes() []byte { return bytes.Clone(w.held) }

// Reader reads from the front of a sequence of bytes. Once a call has failed,
// all later ones read nothing.
type Reader struct {
	rest []byte
	lack bool
}

// NewReader returns a Reader of a copy of b, so that the caller may go on to
// change b.
func NewReader(b []byte) *Reader { return &Reader{rest: bytes.Clone(b)} }

func (r *Reader) U8() int  { return r.fixed(1) }
func (r *Reader) U32() int { return r.fixed(4) }
func (r *Reader) U64() int { return r.fixed(8) }

func (r *Reader) fixed(size int) int {
	n := 0
	for _, b := range r.take(size) {
		n = n<<8 | int(b)
	}
	return n
}

// Var reads what Var of a Writer appends, and fails for any other encoding of
// a number, so that each number has only one.
func (r *Reader) Var() int {
	n := 0
	for i := 0; ; i++ {
		b := r.U8()
		// A final 0 adds nothing: fewer bytes would have done. Beyond the end
		// U8 gives 0 too, and has failed already.
		if i > 0 && b == 0 || i == lastGroup && b > 1 {
			r.fail()
			return 0
		}
		n |= b % more << (groupBits * i)
		if b < more {
			return n
		}
	}
}

// Raw reads n bytes and returns a copy of them.
func (r *Reader) Raw(n int) []byte { return bytes.Clone(r.take(n)) }

func (r *Reader) Lack() bool { return r.lack }
func (r *Reader) Left() int  { return len(r.rest) }

// take removes the next n bytes from the front, or fails if they do not exist.
func (r *Reader) take(n int) []byte {
	if n < 0 || n > len(r.rest) {
		r.fail()
		return nil
	}
	taken := r.rest[:n]
	r.rest = r.rest[n:]
	return taken
}

// fail drops the remaining bytes: without any, every later call fails by
// itself or reads nothing.
func (r *Reader) fail() {
	r.rest, r.lack = nil, true
}
