package word

import (
	"math"
	"slices"
	"strings"
	"testing"

	"parclose/api"
)

// noise is a row of numbers that are the same in each run.
type noise uint64

func (n *noise) next() uint64 {
	*n += 0x9E3779B97F4A7C15
	z := uint64(*n)
	z = (z ^ z>>30) * 0xBF58476D1CE4E5B9
	z = (z ^ z>>27) * 0x94D049BB133111EB
	return z ^ z>>31
}

// odd are numbers that are no place, no width and no length anywhere, or only just.
var odd = []int{math.MinInt, math.MinInt + 1, -65, -64, -63, -8, -1, 0, 1, 2, 62, 63, 64, 65, 66, 127, 128, math.MaxInt32, math.MaxInt - 64, math.MaxInt - 1, math.MaxInt}

// bit is bit i of w, told by halving alone.
func bit(w uint64, i int) uint64 {
	for range i {
		w /= 2
	}
	return w % 2
}

// field is what the definition of a field's value says, bit by bit.
func field(w uint64, at, width int) uint64 {
	v := uint64(0)
	for i := width - 1; i >= 0; i-- {
		v = 2*v + bit(w, at+i)
	}
	return v
}

// samples are words whose fields differ from their neighbours.
func samples() []uint64 {
	l := []uint64{0, 1, 1 << 63, math.MaxUint64, 0xABC, 0x5555555555555555, 0xAAAAAAAAAAAAAAAA}
	n := noise(1)
	for range 5 {
		l = append(l, n.next())
	}
	return l
}

// P1.1: Get of each field that there is.
func TestGet(t *testing.T) {
	for _, w := range samples() {
		for at := range 64 {
			for width := 1; at+width <= 64; width++ {
				v, e := Get(w, at, width)
				if want := field(w, at, width); v != want || e != api.OK {
					t.Fatalf("Get(%#x, %d, %d) = %#x, %v; want %#x", w, at, width, v, e, want)
				}
			}
		}
	}
}

// P1.1: Put of each field that there is: the field is the value, each bit outside is as it was.
func TestPut(t *testing.T) {
	n := noise(2)
	for _, w := range samples() {
		for at := range 64 {
			for width := 1; at+width <= 64; width++ {
				most := uint64(math.MaxUint64) >> (64 - width)
				for _, v := range []uint64{0, 1, most, n.next() & most} {
					checkPut(t, w, at, width, v)
				}
			}
		}
	}
}

func checkPut(t *testing.T, w uint64, at, width int, v uint64) {
	t.Helper()
	got, e := Put(w, at, width, v)
	if e != api.OK {
		t.Fatalf("Put(%#x, %d, %d, %#x): %v", w, at, width, v, e)
	}
	for i := range 64 {
		want := bit(w, i)
		if i >= at && i < at+width {
			want = bit(v, i-at)
		}
		if bit(got, i) != want {
			t.Fatalf("Put(%#x, %d, %d, %#x) = %#x: bit %d", w, at, width, v, got, i)
		}
	}
}

// P1.1: fields that there are not, also where place and width together are beyond all numbers.
func TestNoField(t *testing.T) {
	const w = 0xABCDEF0123456789
	for _, at := range odd {
		for _, width := range odd {
			// Each number on its own first: their sum may wrap round.
			is := at >= 0 && at <= 63 && width >= 1 && width <= 64 && at+width <= 64
			v, e := Get(w, at, width)
			if (e == api.OK) != is || !is && (v != 0 || e != api.ErrArg) {
				t.Errorf("Get(w, %d, %d) = %#x, %v", at, width, v, e)
			}
			v, e = Put(w, at, width, 0)
			if (e == api.OK) != is || !is && (v != 0 || e != api.ErrArg) {
				t.Errorf("Put(w, %d, %d, 0) = %#x, %v", at, width, v, e)
			}
		}
	}
	for at := range 64 {
		if v, e := Get(w, at, 65-at); v != 0 || e != api.ErrArg {
			t.Errorf("Get(w, %d, %d) = %#x, %v", at, 65-at, v, e)
		}
		if v, e := Put(w, at, 65-at, 0); v != 0 || e != api.ErrArg {
			t.Errorf("Put(w, %d, %d, 0) = %#x, %v", at, 65-at, v, e)
		}
	}
}

// P1.1: values that the field is too narrow for.
func TestPutTooGreat(t *testing.T) {
	for at := range 64 {
		for width := 1; at+width <= 64 && width < 64; width++ {
			for _, v := range []uint64{1 << width, 1<<width + 1, 1 << 63, math.MaxUint64} {
				if got, e := Put(math.MaxUint64, at, width, v); got != 0 || e != api.ErrArg {
					t.Fatalf("Put(.., %d, %d, %#x) = %#x, %v", at, width, v, got, e)
				}
			}
		}
	}
	if got, e := Put(5, 0, 64, math.MaxUint64); got != math.MaxUint64 || e != api.OK {
		t.Errorf("the whole word: %#x, %v", got, e)
	}
}

// rows are vectors with 0s and 1s at all kinds of places.
func rows() [][]uint64 {
	const all = math.MaxUint64
	l := [][]uint64{nil, {}, {0}, {all}, {1}, {1 << 63}, {all >> 1}, {all, 0}, {0, all}, {all, all}, {7, 0}, {all, all, 1}, {all, all - 1<<40}}
	n := noise(3)
	for k := range 6 {
		var row []uint64
		for range k {
			row = append(row, n.next())
		}
		l = append(l, row)
	}
	return l
}

// P1.2: Has of each bit, and of bits that the vector has not.
func TestHas(t *testing.T) {
	for _, l := range rows() {
		was := slices.Clone(l)
		for i := range 64 * len(l) {
			on, e := Has(l, i)
			if on != (bit(l[i/64], i%64) == 1) || e != api.OK {
				t.Fatalf("Has(%#x, %d) = %v, %v", l, i, on, e)
			}
		}
		for _, i := range append([]int{64 * len(l), 64*len(l) + 1, 64*len(l) + 63}, odd...) {
			if i >= 0 && i < 64*len(l) {
				continue
			}
			if on, e := Has(l, i); on || e != api.ErrArg {
				t.Errorf("Has(%#x, %d) = %v, %v", l, i, on, e)
			}
		}
		if !slices.Equal(l, was) {
			t.Fatalf("%#x was turned to %#x", was, l)
		}
	}
}

// P1.2: With turns that bit alone, in a new vector.
func TestWith(t *testing.T) {
	for _, l := range rows() {
		was := slices.Clone(l)
		for i := range 64 * len(l) {
			for _, on := range []bool{false, true} {
				checkWith(t, l, i, on)
			}
		}
		if !slices.Equal(l, was) {
			t.Fatalf("%#x was turned to %#x", was, l)
		}
	}
}

func checkWith(t *testing.T, l []uint64, i int, on bool) {
	t.Helper()
	got, e := With(l, i, on)
	if e != api.OK || len(got) != len(l) {
		t.Fatalf("With(%#x, %d, %v) = %#x, %v", l, i, on, got, e)
	}
	for j := range 64 * len(l) {
		want := bit(l[j/64], j%64) == 1
		if j == i {
			want = on
		}
		if (bit(got[j/64], j%64) == 1) != want {
			t.Fatalf("With(%#x, %d, %v) = %#x: bit %d", l, i, on, got, j)
		}
	}
	for k := range got {
		if &got[k] == &l[k] {
			t.Fatalf("With(%#x, %d, %v) gives out what it was given", l, i, on)
		}
	}
}

// P1.2: bits that the vector has not.
func TestWithNone(t *testing.T) {
	for _, l := range rows() {
		was := slices.Clone(l)
		for _, i := range append([]int{64 * len(l), 64*len(l) + 1, 64*len(l) + 63}, odd...) {
			if i >= 0 && i < 64*len(l) {
				continue
			}
			for _, on := range []bool{false, true} {
				if got, e := With(l, i, on); len(got) != 0 || e != api.ErrArg {
					t.Errorf("With(%#x, %d, %v) = %#x, %v", l, i, on, got, e)
				}
			}
		}
		if !slices.Equal(l, was) {
			t.Fatalf("%#x was turned to %#x", was, l)
		}
	}
}

// P1.2: what stands behind the vector in the same memory is neither looked at nor touched.
func TestWithBehind(t *testing.T) {
	under := []uint64{1, 2, 3}
	if _, e := With(under[:1], 64, true); e != api.ErrArg {
		t.Error(e)
	}
	if _, e := Has(under[:1], 65); e != api.ErrArg {
		t.Error(e)
	}
	got, _ := With(under[:1], 5, true)
	_ = append(got, 9)
	if !slices.Equal(under, []uint64{1, 2, 3}) {
		t.Error(under)
	}
}

// below are numbers of bits at, and round about, each edge.
func below(l []uint64) []int {
	ns := slices.Clone(odd)
	for n := -2; n <= 64*len(l)+2; n++ {
		ns = append(ns, n)
	}
	return ns
}

// P1.3: Lowest among the bits that there are, and that are below n.
func TestLowest(t *testing.T) {
	for _, l := range rows() {
		was := slices.Clone(l)
		first, is := 0, false
		for i := 64*len(l) - 1; i >= 0; i-- {
			if bit(l[i/64], i%64) == 0 {
				first, is = i, true
			}
		}
		for _, n := range below(l) {
			want, there := 0, is && first < n
			if there {
				want = first
			}
			if i, ok := Lowest(l, n); i != want || ok != there {
				t.Fatalf("Lowest(%#x, %d) = %d, %v; want %d, %v", l, n, i, ok, want, there)
			}
		}
		if !slices.Equal(l, was) {
			t.Fatalf("%#x was turned to %#x", was, l)
		}
	}
}

// P1.3: Count of the bits that there are, and that are below n.
func TestCount(t *testing.T) {
	for _, l := range rows() {
		was := slices.Clone(l)
		for _, n := range below(l) {
			want := 0
			for i := 0; i < 64*len(l) && i < n; i++ {
				want += int(bit(l[i/64], i%64))
			}
			if got := Count(l, n); got != want {
				t.Fatalf("Count(%#x, %d) = %d; want %d", l, n, got, want)
			}
		}
		if !slices.Equal(l, was) {
			t.Fatalf("%#x was turned to %#x", was, l)
		}
	}
}

// texts are of all lengths round about the edges of words, with bytes of all kinds.
func texts() []string {
	l := []string{"a", "\x00", "\xff", "abcdefghi", "\x00\x00\x00\x00\x00\x00\x00\x00\x00", "äöü€𝄞", "\xff\xfe\x80\x00\x7f", strings.Repeat("\xff", 24)}
	n := noise(4)
	for k := range 35 {
		b := make([]byte, k)
		for i := range b {
			b[i] = byte(n.next())
		}
		l = append(l, string(b))
	}
	return l
}

// P1.4: Pack has each byte at its place, and 0 behind the last one.
func TestPack(t *testing.T) {
	if l := Pack(""); len(l) != 0 {
		t.Errorf("the empty text: %#x", l)
	}
	for _, s := range texts() {
		l := Pack(s)
		if len(l) != (len(s)+7)/8 {
			t.Fatalf("Pack(%q): %d words", s, len(l))
		}
		for k := range 8 * len(l) {
			want := uint64(0)
			if k < len(s) {
				want = uint64(s[k])
			}
			if got := field(l[k/8], 8*(k%8), 8); got != want {
				t.Fatalf("Pack(%q) = %#x: byte %d", s, l, k)
			}
		}
	}
}

// P1.4: Text of as many bytes as the words have, and of any fewer; what the other bytes are does not matter.
func TestText(t *testing.T) {
	for _, l := range rows() {
		was := slices.Clone(l)
		whole := ""
		for k := range 8 * len(l) {
			whole += string([]byte{byte(field(l[k/8], 8*(k%8), 8))})
		}
		for n := 0; n <= len(whole); n++ {
			if s, e := Text(l, n); s != whole[:n] || e != api.OK {
				t.Fatalf("Text(%#x, %d) = %q, %v", l, n, s, e)
			}
		}
		for _, n := range append([]int{len(whole) + 1, len(whole) + 7, len(whole) + 8}, odd...) {
			if n >= 0 && n <= len(whole) {
				continue
			}
			if s, e := Text(l, n); s != "" || e != api.ErrArg {
				t.Errorf("Text(%#x, %d) = %q, %v", l, n, s, e)
			}
		}
		if !slices.Equal(l, was) {
			t.Fatalf("%#x was turned to %#x", was, l)
		}
	}
}

// P1.4: a text stays the same when its words are turned afterwards.
func TestTextIsNew(t *testing.T) {
	l := Pack("abcdefghi")
	s, _ := Text(l, 9)
	l[0] = 0
	if s != "abcdefghi" {
		t.Errorf("%q", s)
	}
	one, two := Pack("abcdefghi"), Pack("abcdefghi")
	one[0], one[1] = 0, 0
	if s, e := Text(two, 9); s != "abcdefghi" || e != api.OK {
		t.Errorf("%q, %v", s, e)
	}
}

// P1.4: what Pack made is what Text reads.
func TestPackText(t *testing.T) {
	for _, s := range texts() {
		if got, e := Text(Pack(s), len(s)); got != s || e != api.OK {
			t.Errorf("%q became %q, %v", s, got, e)
		}
	}
}

// P1.5: Get is what Put stored, and a field that shares no bit with it is as it was.
func TestGetAfterPut(t *testing.T) {
	n := noise(5)
	for at := range 64 {
		for width := 1; at+width <= 64; width++ {
			w := n.next()
			v := n.next() >> (64 - width)
			turned, _ := Put(w, at, width, v)
			if got, e := Get(turned, at, width); got != v || e != api.OK {
				t.Fatalf("Get after Put(%#x, %d, %d, %#x) = %#x, %v", w, at, width, v, got, e)
			}
			checkApart(t, w, turned, at, width)
		}
	}
}

// checkApart holds the fields next to the one that was turned against what they were.
func checkApart(t *testing.T, w, turned uint64, at, width int) {
	t.Helper()
	for _, f := range [][2]int{{0, at}, {at - 1, 1}, {at + width, 1}, {at + width, 64 - at - width}} {
		before, e1 := Get(w, f[0], f[1])
		after, e2 := Get(turned, f[0], f[1])
		if before != after || e1 != e2 {
			t.Fatalf("Put at %d, %d turned the field at %d, %d: %#x, %#x", at, width, f[0], f[1], before, after)
		}
	}
}

// P1.5: two fields without a common bit can be put in either order.
func TestPutsApart(t *testing.T) {
	n := noise(6)
	for range 2000 {
		w := n.next()
		cut := int(1 + n.next()%63)
		low, high := n.next()>>(64-cut), n.next()>>cut
		a, _ := Put(w, 0, cut, low)
		a, _ = Put(a, cut, 64-cut, high)
		b, _ := Put(w, cut, 64-cut, high)
		b, _ = Put(b, 0, cut, low)
		if want := high<<cut | low; a != want || b != want {
			t.Fatalf("cut at %d: %#x and %#x, want %#x", cut, a, b, want)
		}
	}
}

// P1.5: setting the lowest 0 again and again sets all in order, until there is none.
func TestLowestInOrder(t *testing.T) {
	for _, n := range []int{0, 1, 63, 64, 65, 100, 128, 192, 500} {
		l := make([]uint64, 3)
		for i := range min(n, 192) {
			got, ok := Lowest(l, n)
			if got != i || !ok {
				t.Fatalf("below %d: %d, %v; want %d", n, got, ok, i)
			}
			l, _ = With(l, got, true)
			if c := Count(l, n); c != i+1 {
				t.Fatalf("below %d: %d are set, want %d", n, c, i+1)
			}
		}
		if got, ok := Lowest(l, n); got != 0 || ok {
			t.Fatalf("below %d: %d, %v at the end", n, got, ok)
		}
	}
}

// TestExamples: the chapter's table.
func TestExamples(t *testing.T) {
	if v, e := Get(0xABC, 4, 8); v != 0xAB || e != api.OK {
		t.Errorf("%#x, %v", v, e)
	}
	if v, e := Put(0xABC, 4, 4, 7); v != 0xA7C || e != api.OK {
		t.Errorf("%#x, %v", v, e)
	}
	if v, e := Put(0, 60, 5, 0); v != 0 || e != api.ErrArg {
		t.Errorf("%#x, %v", v, e)
	}
	if v, e := Put(0, 0, 2, 4); v != 0 || e != api.ErrArg {
		t.Errorf("%#x, %v", v, e)
	}
	if i, ok := Lowest([]uint64{7, 0}, 100); i != 3 || !ok {
		t.Errorf("%d, %v", i, ok)
	}
	if i, ok := Lowest([]uint64{7}, 3); i != 0 || ok {
		t.Errorf("%d, %v", i, ok)
	}
	if l := Pack("abcdefghi"); !slices.Equal(l, []uint64{0x6867666564636261, 0x69}) {
		t.Errorf("%#x", l)
	}
}
