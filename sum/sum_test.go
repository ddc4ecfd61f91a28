package sum

import (
	"hash/crc32"
	"math"
	"math/rand/v2"
	"slices"
	"strings"
	"testing"

	"parclose/word"
)

// noise is a row of numbers that are the same in each run.
func noise(seed uint64) *rand.Rand {
	return rand.New(rand.NewPCG(seed, 2))
}

// defined is c, updated with the bytes of s as the definition says it, bit by bit.
func defined(c uint32, s string) uint32 {
	for _, b := range []byte(s) {
		c ^= uint32(b)
		for range 8 {
			if c%2 == 1 {
				c = c/2 ^ 0xEDB88320
			} else {
				c /= 2
			}
		}
	}
	return c
}

// texts are of all lengths up to a few words, and a few long ones, with bytes of all kinds.
func texts() []string {
	l := []string{"", "a", "123456789", "parclose", "äöü€𝄞", "\xff\xfe\x80\x00\x7f", "\x00a", "a\x00", strings.Repeat("\x00", 33), strings.Repeat("\xff", 33)}
	for b := range 256 {
		l = append(l, string([]byte{byte(b)}))
	}
	n := noise(1)
	for _, size := range []int{0, 1, 2, 3, 4, 5, 7, 8, 9, 15, 16, 17, 31, 32, 33, 255, 256, 257, 5000} {
		b := make([]byte, size)
		for i := range b {
			b[i] = byte(n.Uint32())
		}
		l = append(l, string(b))
	}
	return l
}

// starts are checksums to go on from.
func starts() []uint32 {
	l := []uint32{0, 1, 0x7FFFFFFF, 0x80000000, 0xEDB88320, 0xCBF43926, math.MaxUint32}
	n := noise(2)
	for range 5 {
		l = append(l, n.Uint32())
	}
	return l
}

// rows are words with 0s and 1s at all kinds of places.
func rows() [][]uint64 {
	const all = math.MaxUint64
	l := [][]uint64{nil, {}, {0}, {1}, {1 << 63}, {1 << 32}, {all}, {0, 0}, {0, all}, {all, 0}, {0xFFFFFFFF00000000}, {1, 2, 3}, {0x0807060504030201}}
	n := noise(3)
	for _, size := range []int{1, 2, 3, 7, 8, 31, 32, 128, 135} {
		row := make([]uint64, size)
		for i := range row {
			row[i] = n.Uint64()
		}
		l = append(l, row)
	}
	return l
}

// P2.1: Of of texts, of one byte after another as of many.
func TestOf(t *testing.T) {
	for _, s := range texts() {
		want := ^defined(0xFFFFFFFF, s)
		if lib := crc32.ChecksumIEEE([]byte(s)); lib != want {
			t.Fatalf("the test's own sums differ for %q: %#x, %#x", s, want, lib)
		}
		if got := Of(s); got != want {
			t.Errorf("Of(%q) = %#x, want %#x", s, got, want)
		}
	}
}

// P2.1: the chapter's examples, and sums that are known elsewhere.
func TestKnown(t *testing.T) {
	for _, x := range []struct {
		s    string
		want uint32
	}{{"123456789", 0xCBF43926}, {"", 0}, {"a", 0xE8B7BE43}, {"\x00", 0xD202EF8D}, {"\xff", 0xFF000000}, {"\xff\xff\xff\xff", 0xFFFFFFFF}} {
		if got := Of(x.s); got != x.want {
			t.Errorf("Of(%q) = %#x, want %#x", x.s, got, x.want)
		}
	}
	if got := Words(nil); got != 0 {
		t.Errorf("Words of none = %#x", got)
	}
	if got := Seal(nil); !slices.Equal(got, []uint64{0xFFFFFFFF00000000}) {
		t.Errorf("Seal of none = %#x", got)
	}
	if got, ok := Open([]uint64{0xFFFFFFFF00000000}); len(got) != 0 || !ok {
		t.Errorf("Open of none, sealed = %#x, %v", got, ok)
	}
}

// P2.1: More from any checksum on, also from one that no short text has.
func TestMore(t *testing.T) {
	for _, c := range starts() {
		for _, s := range texts() {
			want := ^defined(^c, s)
			if lib := crc32.Update(c, crc32.IEEETable, []byte(s)); lib != want {
				t.Fatalf("the test's own sums differ for %#x, %q: %#x, %#x", c, s, want, lib)
			}
			if got := More(c, s); got != want {
				t.Errorf("More(%#x, %q) = %#x, want %#x", c, s, got, want)
			}
		}
		if got := More(c, ""); got != c {
			t.Errorf("More(%#x) of nothing = %#x", c, got)
		}
	}
}

// P2.1: Words is the checksum of the words' bytes, as layer 1 tells them.
func TestWords(t *testing.T) {
	for _, l := range rows() {
		was := slices.Clone(l)
		s, _ := word.Text(l, 8*len(l))
		if got, want := Words(l), ^defined(0xFFFFFFFF, s); got != want {
			t.Errorf("Words(%#x) = %#x, want %#x", l, got, want)
		}
		if !slices.Equal(l, was) {
			t.Errorf("%#x was turned to %#x", was, l)
		}
	}
	if Words([]uint64{1, 0}) == Words([]uint64{0, 1}) || Words([]uint64{0}) == Words([]uint64{0, 0}) {
		t.Error("order and number of the words do not matter")
	}
}

// P2.2: sealed words are the words, and the seal behind them.
func TestSeal(t *testing.T) {
	for _, l := range rows() {
		was := slices.Clone(l)
		got := Seal(l)
		if len(got) != len(l)+1 || !slices.Equal(got[:len(l)], l) {
			t.Fatalf("Seal(%#x) = %#x", l, got)
		}
		s, _ := word.Text(l, 8*len(l))
		c := ^defined(0xFFFFFFFF, s)
		low, _ := word.Get(got[len(l)], 0, 32)
		high, _ := word.Get(got[len(l)], 32, 32)
		if low != uint64(c) || high != uint64(^c) {
			t.Errorf("Seal(%#x): the seal is %#x, of the checksum %#x", l, got[len(l)], c)
		}
		if !slices.Equal(l, was) {
			t.Errorf("%#x was turned to %#x", was, l)
		}
	}
}

// P2.2, P2.3: Open is what was sealed.
func TestOpen(t *testing.T) {
	for _, l := range rows() {
		sealed := Seal(l)
		was := slices.Clone(sealed)
		got, ok := Open(sealed)
		if !slices.Equal(got, l) || !ok {
			t.Errorf("Open(%#x) = %#x, %v", sealed, got, ok)
		}
		if !slices.Equal(sealed, was) {
			t.Errorf("%#x was turned to %#x", was, sealed)
		}
		twice, ok := Open(Seal(sealed))
		if !slices.Equal(twice, sealed) || !ok {
			t.Errorf("sealed twice, %#x is opened to %#x, %v", l, twice, ok)
		}
	}
}

// refused holds that Open has nothing to tell of l.
func refused(t *testing.T, what string, l []uint64) {
	t.Helper()
	if got, ok := Open(l); len(got) != 0 || ok {
		t.Errorf("%s: Open(%#x) = %#x, %v", what, l, got, ok)
	}
}

// P2.2: words that are no sealed ones.
func TestOpenRefuses(t *testing.T) {
	refused(t, "nothing", nil)
	refused(t, "nothing", []uint64{})
	for _, w := range []uint64{0, 1, math.MaxUint64, 0x00000000FFFFFFFF, 0xFFFFFFFF00000001, 0xFFFFFFFE00000000, 0x7FFFFFFF00000000} {
		refused(t, "one word, not the seal of none", []uint64{w})
	}
	for _, l := range rows() {
		if len(l) == 0 {
			continue
		}
		c := uint64(Words(l))
		for what, s := range map[string]uint64{
			"the checksum alone":              c,
			"its inverse alone":               (^c) << 32,
			"the checksum twice":              c<<32 | c,
			"the inverse twice":               (^c)<<32 | (^c)<<32>>32,
			"both the wrong way round":        c<<32 | (^c)<<32>>32,
			"a seal of another checksum":      (^(c + 1))<<32 | (c+1)<<32>>32,
			"the checksum, a bit of the rest": ((^c)<<32 | c) ^ 1<<63,
			"the inverse, a bit of the rest":  ((^c)<<32 | c) ^ 1,
			"no seal":                         0,
			"only ones":                       math.MaxUint64,
		} {
			refused(t, what, append(slices.Clone(l), s))
		}
		sealed := Seal(l)
		refused(t, "without its last word", sealed[:len(l)-1:len(l)-1])
		refused(t, "without its first word", sealed[1:])
		refused(t, "with one word more", append(slices.Clone(sealed), 0))
		refused(t, "with one word more ahead", append([]uint64{0}, sealed...))
		refused(t, "with its seal twice", append(slices.Clone(sealed), sealed[len(l)]))
	}
}

// P2.2: what stands behind the words in the same memory is neither looked at nor touched.
func TestBehind(t *testing.T) {
	under := append(Seal([]uint64{1, 2, 3}), 9, 9)
	was := slices.Clone(under)
	refused(t, "its seal is behind it", under[:3])
	if got := Seal(under[:2]); len(got) != 3 || got[2] == 3 {
		t.Errorf("%#x", got)
	}
	got, _ := Open(under[:4])
	_ = append(got, 7, 7)
	if !slices.Equal(under, was) {
		t.Errorf("%#x was turned to %#x", was, under)
	}
}

// P2.2: results are new memory.
func TestNewMemory(t *testing.T) {
	l := []uint64{1, 2, 3}
	one, two := Seal(l), Seal(l)
	l[0] = 9
	one[1] = 9
	if !slices.Equal(two[:3], []uint64{1, 2, 3}) {
		t.Errorf("%#x", two)
	}
	got, _ := Open(two)
	two[0] = 9
	if !slices.Equal(got, []uint64{1, 2, 3}) {
		t.Errorf("%#x", got)
	}
	got[1] = 9
	if two[1] != 2 {
		t.Errorf("%#x", two)
	}
}

// P2.3: the checksum of two texts, one behind the other, is that of the first, continued with the second.
func TestConcatenated(t *testing.T) {
	n := noise(4)
	for _, s := range texts() {
		cuts := []int{0, len(s)}
		for range 20 {
			cuts = append(cuts, n.IntN(len(s)+1))
		}
		for _, k := range cuts {
			if got, want := More(Of(s[:k]), s[k:]), Of(s); got != want {
				t.Errorf("%q, cut at %d: %#x, want %#x", s, k, got, want)
			}
		}
		for _, c := range starts() {
			k := n.IntN(len(s) + 1)
			if got, want := More(More(c, s[:k]), s[k:]), More(c, s); got != want {
				t.Errorf("%q from %#x on, cut at %d: %#x, want %#x", s, c, k, got, want)
			}
		}
	}
}

// flipped is l with those bits flipped that the pattern has, from bit at on; whether all of them are in l.
func flipped(l []uint64, at int, pattern uint32) ([]uint64, bool) {
	row := slices.Clone(l)
	for k := range 32 {
		if pattern>>k&1 == 0 {
			continue
		}
		if at+k >= 64*len(row) {
			return nil, false
		}
		row[(at+k)/64] ^= 1 << ((at + k) % 64)
	}
	return row, true
}

// patterns are bits, from the lowest on, of each width up to 32.
func patterns(n *rand.Rand) []uint32 {
	var l []uint32
	for width := 1; width <= 32; width++ {
		ends := uint32(1)<<(width-1) | 1
		most := uint32(math.MaxUint32) >> (32 - width)
		l = append(l, ends, most, n.Uint32()&most|ends, n.Uint32()&most|ends)
	}
	return append(l, 0xEDB88320, 0x04C11DB7, 0xDB710641, 0x82608EDB)
}

// P2.3: no burst of flipped bits within 32 is taken for sealed words, wherever it is, also across words and in the seal.
func TestBursts(t *testing.T) {
	n := noise(5)
	for _, l := range rows() {
		sealed := Seal(l)
		if len(sealed) > 10 {
			continue
		}
		for at := range 64 * len(sealed) {
			for _, p := range patterns(n) {
				row, ok := flipped(sealed, at, p)
				if !ok {
					continue
				}
				if got, ok := Open(row); len(got) != 0 || ok {
					t.Fatalf("%#x, flipped from bit %d on by %#x, is opened to %#x, %v", sealed, at, p, got, ok)
				}
			}
		}
	}
}

// P2.3: in long rows, too, and with more of them at the seal.
func TestBurstsInLongRows(t *testing.T) {
	n := noise(6)
	for _, l := range rows() {
		sealed := Seal(l)
		for range 2000 {
			at := n.IntN(64 * len(sealed))
			if n.IntN(2) == 0 {
				at = 64*len(l) - 32 + n.IntN(96)
			}
			p := n.Uint32() | 1
			row, ok := sealed, false
			if at >= 0 {
				row, ok = flipped(sealed, at, p)
			}
			if !ok {
				continue
			}
			if got, ok := Open(row); len(got) != 0 || ok {
				t.Fatalf("%#x, flipped from bit %d on by %#x, is opened to %#x, %v", sealed, at, p, got, ok)
			}
		}
	}
}
