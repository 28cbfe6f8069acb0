package hex_test

import (
	stdhex "encoding/hex"
	"errors"
	"slices"
	"strings"
	"testing"

	"taproot/api"
	"taproot/hex"
	"taproot/oops"
)

const digits = "0123456789abcdef"

// hashes returns n hashes without a short period. Their first bytes are the
// same again and again, so that the later ones count too.
func hashes(n int) []api.Hash {
	l := make([]api.Hash, n)
	state := uint32(1)
	for i := range l {
		for k := range l[i] {
			state = state*1664525 + 1013904223
			l[i][k] = byte(state>>24) % byte(2+8*k)
		}
	}
	return l
}

// TestExamples: the examples of chapter 5.
func TestExamples(t *testing.T) {
	if !hex.IsPrefix("dead") || hex.IsPrefix("Dead") || hex.IsPrefix("") {
		t.Error("IsPrefix")
	}
}

// TestText: 5.1, 64 digits, two for each byte, there and back, for each byte at
// each place.
func TestText(t *testing.T) {
	for place := range 32 {
		for b := range 256 {
			h := api.Hash{}
			h[place], h[31-place] = byte(b), byte(b)^0x5a
			text := hex.Text(h)
			if want := stdhex.EncodeToString(h[:]); text != want {
				t.Fatalf("Text: %s, want %s", text, want)
			}
			if got, e := hex.Parse(text); got != h || e != nil {
				t.Fatalf("Parse of %s: %x, %v", text, got, e)
			}
		}
	}
	for _, h := range hashes(100) {
		if got, e := hex.Parse(hex.Text(h)); got != h || e != nil {
			t.Errorf("%x: %x, %v", h, got, e)
		}
	}
}

// TestParseForm: 5.1, ErrForm for each text that is not one of a hash, and no
// hash beside it.
func TestParseForm(t *testing.T) {
	good := strings.Repeat("0123456789abcdef", 4)
	bad := []string{
		"", "0", good[:2], good[:62], good[:63], good + "0", good + good, good + " ", " " + good[1:], "\n" + good, good + "\n",
		strings.ToUpper(good), "0x" + good[2:], "0x" + good, "+" + good[1:], strings.Repeat("é", 32), strings.Repeat("é", 64),
		strings.Repeat("\x00", 64), strings.Repeat("\xff", 64), strings.Repeat("０", 64), strings.Repeat("f", 1<<20),
	}
	for place := range len(good) {
		for c := range 256 {
			if strings.IndexByte(digits, byte(c)) < 0 {
				bad = append(bad, good[:place]+string([]byte{byte(c)})+good[place+1:])
			}
		}
	}
	for _, s := range bad {
		if h, e := hex.Parse(s); oops.Kind(e) != api.ErrForm || !errors.Is(e, api.ErrForm) || h != (api.Hash{}) {
			t.Errorf("Parse of %.70q: %x, %v", s, h, e)
		}
	}
}

// TestDigit: 5.1, the value of each digit, and -1 for any other byte.
func TestDigit(t *testing.T) {
	for c := range 256 {
		if got, want := hex.Digit(byte(c)), strings.IndexByte(digits, byte(c)); got != want {
			t.Errorf("Digit(%q): %d, want %d", byte(c), got, want)
		}
	}
}

// TestIsPrefix: 5.1, 1 to 64 digits and nothing else.
func TestIsPrefix(t *testing.T) {
	for size := range 200 {
		if got, want := hex.IsPrefix(strings.Repeat("a", size)), size >= 1 && size <= 64; got != want {
			t.Errorf("%d digits: %t", size, got)
		}
	}
	for c := range 256 {
		want := strings.IndexByte(digits, byte(c)) >= 0
		for _, around := range [][2]string{{"", ""}, {"", "0"}, {"0", ""}, {"dead", "beef"}, {strings.Repeat("f", 63), ""}, {"", strings.Repeat("f", 63)}} {
			if s := around[0] + string([]byte{byte(c)}) + around[1]; hex.IsPrefix(s) != want {
				t.Errorf("%q: %t", s, !want)
			}
		}
	}
	for _, s := range []string{"é", "0é", "０", "-1", "0x1", "dead beef", strings.Repeat("0", 1<<20)} {
		if hex.IsPrefix(s) {
			t.Errorf("%.70q is one", s)
		}
	}
}

// TestBegins: 5.1, the text of a hash begins with each part of its beginning,
// the empty one and the whole one included, and with nothing else.
func TestBegins(t *testing.T) {
	for _, h := range append(hashes(20), api.Hash{}, api.Hash{0xab, 0xcd, 31: 0xef}) {
		text := hex.Text(h)
		for size := range len(text) + 1 {
			if !hex.Begins(h, text[:size]) {
				t.Errorf("%s does not begin with %s", text, text[:size])
			}
			if size == 0 {
				continue
			}
			for c := range 256 {
				if byte(c) != text[size-1] && hex.Begins(h, text[:size-1]+string([]byte{byte(c)})) {
					t.Errorf("%s begins with %s and %q", text, text[:size-1], byte(c))
				}
			}
		}
		for _, prefix := range []string{text + "0", text + text, text + " ", " ", " " + text, text[1:] + "g", "é"} {
			if hex.Begins(h, prefix) {
				t.Errorf("%s begins with %q", text, prefix)
			}
		}
	}
	if hex.Begins(api.Hash{0xab}, "AB") || hex.Begins(api.Hash{0xab}, "aB") {
		t.Error("a capital letter is a digit")
	}
}

// TestLess: 5.1, the first byte that differs decides, and is not negative.
func TestLess(t *testing.T) {
	for place := range 32 {
		for _, pair := range [][2]byte{{0, 1}, {1, 2}, {0, 255}, {127, 128}, {254, 255}, {9, 16}} {
			a, b := api.Hash{}, api.Hash{}
			a[place], b[place] = pair[0], pair[1]
			for k := place + 1; k < 32; k++ {
				a[k] = 255
			}
			if !hex.Less(a, b) || hex.Less(b, a) {
				t.Errorf("%x and %x", a, b)
			}
		}
	}
	l := hashes(60)
	for _, a := range l {
		if hex.Less(a, a) {
			t.Errorf("%x is less than itself", a)
		}
		for _, b := range l {
			if got, want := hex.Less(a, b), hex.Text(a) < hex.Text(b); got != want {
				t.Errorf("%x and %x: %t", a, b, got)
			}
		}
	}
}

// TestSort: 5.1, all hashes in the order of Less, each once.
func TestSort(t *testing.T) {
	a, b, c, d := api.Hash{}, api.Hash{31: 1}, api.Hash{1}, api.Hash{0: 255}
	for _, given := range [][]api.Hash{
		{a, b, c, d}, {d, c, b, a}, {c, a, d, b, a, c, c, d, b}, {a, a, b, c, d}, {d, d, d, c, b, a, a},
	} {
		if got := hex.Sort(given); !slices.Equal(got, []api.Hash{a, b, c, d}) {
			t.Errorf("%x: %x", given, got)
		}
	}
	for _, given := range [][]api.Hash{{a}, {a, a}, {a, a, a}} {
		if got := hex.Sort(given); !slices.Equal(got, []api.Hash{a}) {
			t.Errorf("%x: %x", given, got)
		}
	}
	if len(hex.Sort(nil)) != 0 || len(hex.Sort([]api.Hash{})) != 0 {
		t.Error("of none")
	}
	many := hashes(500)
	many = append(many, many[100:400]...)
	got := hex.Sort(many)
	held := map[api.Hash]struct{}{}
	for _, h := range many {
		held[h] = struct{}{}
	}
	if len(got) != len(held) {
		t.Errorf("%d hashes, want %d", len(got), len(held))
	}
	for i, h := range got {
		if _, ok := held[h]; !ok || i > 0 && !hex.Less(got[i-1], h) {
			t.Errorf("%x at %d", h, i)
		}
	}
}

// TestSortMemory: R2, what is given is not changed, up to its capacity, and the
// result shares no memory with it.
func TestSortMemory(t *testing.T) {
	for _, size := range []int{0, 1, 2, 5, 8} {
		given := slices.Concat(hashes(5), hashes(4))
		slices.Reverse(given)
		kept := slices.Clone(given)
		got := hex.Sort(given[:size])
		if !slices.Equal(given, kept) {
			t.Errorf("%d hashes: Sort changed its argument", size)
		}
		clear(got[:cap(got)])
		if !slices.Equal(given, kept) {
			t.Errorf("%d hashes: the result shares memory with the argument", size)
		}
	}
}
