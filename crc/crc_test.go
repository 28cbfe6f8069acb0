package crc_test

import (
	"bytes"
	"hash/crc32"
	"slices"
	"strings"
	"testing"

	"taproot/crc"
)

// TestExample: the example of chapter 2.
func TestExample(t *testing.T) {
	if got := crc.Sum([]byte("123456789")); got != 0xcbf43926 {
		t.Errorf("got %08x", got)
	}
}

// TestNoBytes: 2.1, the sum of no bytes at all, be they nil or empty.
func TestNoBytes(t *testing.T) {
	for _, b := range [][]byte{nil, {}, make([]byte, 0, 8), []byte("ab")[2:]} {
		if got := crc.Sum(b); got != 0 {
			t.Errorf("%#v: %08x", b, got)
		}
	}
}

// TestKnownSums: 2.1, sums that were published elsewhere.
func TestKnownSums(t *testing.T) {
	for _, c := range []struct {
		text string
		want uint32
	}{
		{"\x00", 0xd202ef8d},
		{"\xff", 0xff000000},
		{"a", 0xe8b7be43},
		{"abc", 0x352441c2},
		{"\x00\x00\x00\x00", 0x2144df1c},
		{"\xff\xff\xff\xff", 0xffffffff},
		{"message digest", 0x20159d7f},
		{"abcdefghijklmnopqrstuvwxyz", 0x4c2750bd},
		{"The quick brown fox jumps over the lazy dog", 0x414fa339},
		{strings.Repeat("\x00", 32), 0x190a55ad},
		{strings.Repeat("\xff", 32), 0xff6cab0b},
		{strings.Repeat("1234567890", 8), 0x7ca94a72},
	} {
		if got := crc.Sum([]byte(c.text)); got != c.want {
			t.Errorf("%q: got %08x, want %08x", c.text, got, c.want)
		}
	}
}

// check reports an error unless the sum of b is that of the standard library.
func check(t *testing.T, b []byte) {
	t.Helper()
	if got, want := crc.Sum(b), crc32.ChecksumIEEE(b); got != want {
		t.Errorf("%d bytes, first %x: got %08x, want %08x", len(b), b[:min(len(b), 8)], got, want)
	}
}

// mixed returns size bytes without a short period.
func mixed(size int) []byte {
	b := make([]byte, size)
	state := uint32(1)
	for i := range b {
		state = state*1664525 + 1013904223
		b[i] = byte(state >> 24)
	}
	return b
}

// TestEachByte: 2.1, each value of a byte, alone and between others.
func TestEachByte(t *testing.T) {
	for value := range 256 {
		check(t, []byte{byte(value)})
		check(t, []byte{0, byte(value), 0xff})
	}
}

// TestEachBit: 2.1, each bit counts, wherever it is: changing one of them
// changes the sum as it must.
func TestEachBit(t *testing.T) {
	b := mixed(64)
	whole := crc.Sum(b)
	for bit := range 8 * len(b) {
		other := bytes.Clone(b)
		other[bit/8] ^= 1 << (bit % 8)
		check(t, other)
		if crc.Sum(other) == whole {
			t.Errorf("bit %d does not count", bit)
		}
	}
}

// TestEachLength: 2.1, short and long ones, and what zeros add in front of the
// other bytes and behind them.
func TestEachLength(t *testing.T) {
	all := mixed(600)
	for size := range all {
		check(t, all[:size])
		check(t, all[size:])
		check(t, make([]byte, size))
		check(t, slices.Concat(make([]byte, size), []byte("1"), make([]byte, size)))
	}
	check(t, mixed(1<<20+1))
}

// TestArgument: R2, the argument is not changed, the memory between its length
// and its capacity included, and that memory does not count.
func TestArgument(t *testing.T) {
	given := []byte("123456789 and more")
	if got := crc.Sum(given[:9]); got != 0xcbf43926 {
		t.Errorf("got %08x", got)
	}
	if string(given) != "123456789 and more" {
		t.Errorf("the argument became %q", given)
	}
}

// TestAgain: R4, a sum does not depend on the calls ahead of it.
func TestAgain(t *testing.T) {
	first := crc.Sum([]byte("abc"))
	crc.Sum(mixed(100))
	crc.Sum(nil)
	if again := crc.Sum([]byte("abc")); again != first {
		t.Errorf("first %08x, then %08x", first, again)
	}
}
