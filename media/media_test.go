package media

import (
	"math"
	"math/rand/v2"
	"slices"
	"testing"

	"parclose/api"
)

// noise is a row of numbers that are the same in each run.
func noise(seed uint64) *rand.Rand {
	return rand.New(rand.NewPCG(seed, 3))
}

// odd are numbers that are no place and no line anywhere, or only just; also such that eight times as much wraps round.
var odd = []int{math.MinInt, math.MinInt + 1, math.MinInt / 8, math.MinInt32, -65, -64, -9, -8, -7, -1,
	math.MaxInt32, math.MaxInt / 8, math.MaxInt/8 + 1, math.MaxInt/4 + 1, math.MaxInt/4 + 2, math.MaxInt - 7, math.MaxInt - 1, math.MaxInt}

// model is a device as the definitions tell it.
type model struct {
	kept []uint64
	row  []api.Pend
}

func (m *model) value(at int) uint64 {
	v := m.kept[at]
	for _, p := range m.row {
		if p.At == at {
			v = p.Word
		}
	}
	return v
}

func (m *model) words() []uint64 {
	var l []uint64
	for at := range m.kept {
		l = append(l, m.value(at))
	}
	return l
}

func (m *model) store(at int, w uint64) {
	m.row = append(m.row, api.Pend{At: at, Word: w})
}

func (m *model) flush(line int) {
	for k, p := range m.row {
		if p.At >= 8*line && p.At <= 8*line+7 {
			m.row[k].Flushed = true
		}
	}
}

func (m *model) fence() {
	var others []api.Pend
	for _, p := range m.row {
		if p.Flushed {
			m.kept[p.At] = p.Word
		} else {
			others = append(others, p)
		}
	}
	m.row = others
}

func (m *model) crash(keep []bool) {
	for k, p := range m.row {
		if k < len(keep) && keep[k] {
			m.kept[p.At] = p.Word
		}
	}
	m.row = nil
}

// made is a device of these words.
func made(t *testing.T, words []uint64) *Dev {
	t.Helper()
	d, e := Of(words)
	if d == nil || e != api.OK {
		t.Fatalf("Of %d words: %v, %v", len(words), d, e)
	}
	return d
}

// right holds the error of a call against none.
func right(t *testing.T, e api.Errno) {
	t.Helper()
	if e != api.OK {
		t.Fatal(e)
	}
}

// same holds all that d tells against what is awaited.
func same(t *testing.T, d *Dev, words, kept []uint64, row []api.Pend) {
	t.Helper()
	if got := d.Lines(); got != len(kept)/8 {
		t.Fatalf("%d lines, want %d", got, len(kept)/8)
	}
	if got := d.Words(); !slices.Equal(got, words) {
		t.Fatalf("the words are %#x, want %#x", got, words)
	}
	if got := d.Kept(); !slices.Equal(got, kept) {
		t.Fatalf("kept are %#x, want %#x", got, kept)
	}
	if got := d.Pending(); !slices.Equal(got, row) {
		t.Fatalf("there wait %v, want %v", got, row)
	}
	for at, w := range words {
		if got, e := d.Load(at); got != w || e != api.OK {
			t.Fatalf("Load(%d) = %#x, %v; want %#x", at, got, e, w)
		}
	}
}

// sameAs holds all that d tells against the model.
func sameAs(t *testing.T, d *Dev, m *model) {
	t.Helper()
	same(t, d, m.words(), m.kept, m.row)
}

// drawn are words that differ from their neighbours.
func drawn(n *rand.Rand, size int) []uint64 {
	l := make([]uint64, size)
	for k := range l {
		l[k] = n.Uint64()
	}
	return l
}

// with is the words, but for one of them.
func with(l []uint64, at int, w uint64) []uint64 {
	row := slices.Clone(l)
	row[at] = w
	return row
}

// P3.1: New of each number of lines at the edges, and of some between.
func TestNew(t *testing.T) {
	for _, lines := range []int{1, 2, 3, 7, 8, 9, 100, 4095, 4096} {
		d, e := New(lines)
		if d == nil || e != api.OK {
			t.Fatalf("New(%d): %v, %v", lines, d, e)
		}
		same(t, d, make([]uint64, 8*lines), make([]uint64, 8*lines), nil)
	}
}

// P3.1: numbers of lines of which there is no device.
func TestNewRefuses(t *testing.T) {
	for _, lines := range append([]int{0, 4097, 4098, 8192, 32768}, odd...) {
		if d, e := New(lines); d != nil || e != api.ErrArg {
			t.Errorf("New(%d) = %v, %v", lines, d, e)
		}
	}
}

// P3.1: Of has the words that it was given.
func TestOf(t *testing.T) {
	n := noise(1)
	for _, lines := range []int{1, 2, 3, 100, 4095, 4096} {
		words := drawn(n, 8*lines)
		was := slices.Clone(words)
		d := made(t, words)
		same(t, d, was, was, nil)
		if !slices.Equal(words, was) {
			t.Fatalf("%d lines were turned", lines)
		}
	}
}

// P3.1: numbers of words that are no whole lines, or none, or too many.
func TestOfRefuses(t *testing.T) {
	if d, e := Of(nil); d != nil || e != api.ErrArg {
		t.Errorf("Of(nil) = %v, %v", d, e)
	}
	for _, size := range []int{0, 1, 2, 7, 9, 10, 15, 17, 23, 8*4096 - 1, 8*4096 - 7, 8*4096 + 1, 8*4096 + 7, 8*4096 + 8, 16 * 4096} {
		if d, e := Of(make([]uint64, size)); d != nil || e != api.ErrArg {
			t.Errorf("Of %d words = %v, %v", size, d, e)
		}
	}
	// What stands behind the words in the same memory doesn't make the line whole.
	if d, e := Of(make([]uint64, 7, 8)); d != nil || e != api.ErrArg {
		t.Errorf("Of 7 words with room for 8 = %v, %v", d, e)
	}
}

// P3.1: devices have nothing in common, neither with each other nor with the words that they were made of.
func TestApart(t *testing.T) {
	words := drawn(noise(2), 16)
	was := slices.Clone(words)
	one, two := made(t, words), made(t, words)
	clear(words)
	right(t, one.Store(3, 9))
	right(t, one.Flush(0))
	same(t, two, was, was, nil)
	right(t, one.Fence())
	right(t, one.Store(12, 7))
	right(t, one.Crash([]bool{true}))
	same(t, two, was, was, nil)
	same(t, one, with(with(was, 3, 9), 12, 7), with(with(was, 3, 9), 12, 7), nil)
	if words[3] != 0 || words[12] != 0 {
		t.Errorf("a store turned the words that were given: %#x", words)
	}
	a, _ := New(1)
	b, _ := New(1)
	right(t, a.Store(0, 5))
	same(t, b, make([]uint64, 8), make([]uint64, 8), nil)
}

// P3.2: a store is the word's value at once, kept it is not, and it waits behind all others, not flushed.
func TestStore(t *testing.T) {
	words := drawn(noise(3), 24)
	d, now := made(t, words), slices.Clone(words)
	var row []api.Pend
	for k, at := range []int{0, 23, 7, 8, 0, 8, 8, 15, 16, 0, 1} {
		w := uint64(1000 + k)
		if k == 6 {
			w = now[8] // what it is already waits like any other
		}
		right(t, d.Store(at, w))
		now[at] = w
		row = append(row, api.Pend{At: at, Word: w})
		same(t, d, now, words, row)
	}
}

// P3.2: values of all kinds.
func TestStoreAny(t *testing.T) {
	for _, w := range []uint64{0, 1, 1 << 63, 1<<63 - 1, 1 << 32, math.MaxUint64} {
		d := made(t, []uint64{5, 5, 5, 5, 5, 5, 5, 5})
		right(t, d.Store(6, w))
		same(t, d, []uint64{5, 5, 5, 5, 5, 5, w, 5}, []uint64{5, 5, 5, 5, 5, 5, 5, 5}, []api.Pend{{At: 6, Word: w}})
		right(t, d.Crash([]bool{true}))
		same(t, d, []uint64{5, 5, 5, 5, 5, 5, w, 5}, []uint64{5, 5, 5, 5, 5, 5, w, 5}, nil)
	}
}

// P3.2, P3.3: words and lines that there are not; nothing comes of them.
func TestRefuses(t *testing.T) {
	for _, lines := range []int{1, 2, 4096} {
		d := made(t, drawn(noise(4), 8*lines))
		right(t, d.Store(8*lines-1, 77))
		words, kept := d.Words(), d.Kept()
		row := []api.Pend{{At: 8*lines - 1, Word: 77}}
		for _, at := range append([]int{8 * lines, 8*lines + 1, 8*lines + 8, 64 * lines}, odd...) {
			if w, e := d.Load(at); w != 0 || e != api.ErrArg {
				t.Errorf("%d lines: Load(%d) = %#x, %v", lines, at, w, e)
			}
			if e := d.Store(at, 5); e != api.ErrArg {
				t.Errorf("%d lines: Store(%d): %v", lines, at, e)
			}
		}
		for _, line := range append([]int{lines, lines + 1, 8 * lines, 8*lines - 1 + lines}, odd...) {
			if e := d.Flush(line); e != api.ErrArg {
				t.Errorf("%d lines: Flush(%d): %v", lines, line, e)
			}
		}
		same(t, d, words, kept, row)
	}
}

// P3.2, P3.3: the first and the last word, and line, of the greatest device.
func TestLast(t *testing.T) {
	d, e := New(4096)
	right(t, e)
	right(t, d.Store(32767, 3))
	right(t, d.Store(0, 4))
	right(t, d.Flush(4095))
	right(t, d.Fence())
	zero := make([]uint64, 32768)
	same(t, d, with(with(zero, 32767, 3), 0, 4), with(zero, 32767, 3), []api.Pend{{At: 0, Word: 4}})
}

// P3.3: Flush marks all that waits in the line, nothing else, and what is stored later is not marked; values stay.
func TestFlush(t *testing.T) {
	words := drawn(noise(5), 24)
	d, now := made(t, words), slices.Clone(words)
	var row []api.Pend
	for _, at := range []int{7, 8, 15, 16, 8, 0, 11} {
		right(t, d.Store(at, uint64(at)))
		now[at] = uint64(at)
		row = append(row, api.Pend{At: at, Word: uint64(at)})
	}
	right(t, d.Flush(1))
	for _, k := range []int{1, 2, 4, 6} {
		row[k].Flushed = true
	}
	same(t, d, now, words, row)
	right(t, d.Store(8, 80))
	now[8] = 80
	row = append(row, api.Pend{At: 8, Word: 80})
	same(t, d, now, words, row)
	right(t, d.Flush(2))
	row[3].Flushed = true
	same(t, d, now, words, row)
	right(t, d.Flush(2))
	same(t, d, now, words, row)
	right(t, d.Flush(1))
	row[7].Flushed = true
	same(t, d, now, words, row)
}

// P3.3: a flush of a line in which nothing waits, and a fence without a flush, do nothing.
func TestFlushNone(t *testing.T) {
	words := drawn(noise(6), 16)
	d := made(t, words)
	right(t, d.Flush(0))
	right(t, d.Fence())
	same(t, d, words, words, nil)
	right(t, d.Store(3, 1))
	right(t, d.Flush(1))
	right(t, d.Fence())
	same(t, d, with(words, 3, 1), words, []api.Pend{{At: 3, Word: 1}})
	// What was flushed ahead of a store is not flushed for it.
	right(t, d.Flush(0))
	right(t, d.Fence())
	right(t, d.Store(4, 2))
	right(t, d.Fence())
	same(t, d, with(with(words, 3, 1), 4, 2), with(words, 3, 1), []api.Pend{{At: 4, Word: 2}})
}

// P3.3: Fence keeps what is flushed, in order; the others wait on, in order.
func TestFence(t *testing.T) {
	words := drawn(noise(7), 16)
	d := made(t, words)
	for k, at := range []int{3, 9, 3, 10, 4, 9} {
		right(t, d.Store(at, uint64(10+k)))
	}
	right(t, d.Flush(0))
	right(t, d.Store(3, 16))
	right(t, d.Store(9, 17))
	right(t, d.Fence())
	kept := with(with(words, 3, 12), 4, 14)
	now := with(with(with(kept, 9, 17), 10, 13), 3, 16)
	row := []api.Pend{{At: 9, Word: 11}, {At: 10, Word: 13}, {At: 9, Word: 15}, {At: 3, Word: 16}, {At: 9, Word: 17}}
	same(t, d, now, kept, row)
	right(t, d.Fence())
	same(t, d, now, kept, row)
	right(t, d.Flush(1))
	right(t, d.Fence())
	kept = with(with(kept, 9, 17), 10, 13)
	same(t, d, now, kept, row[3:4])
	right(t, d.Flush(0))
	right(t, d.Fence())
	same(t, d, now, now, nil)
}

// P3.4: Crash keeps what it is told to by the places in the row, in order, flushed or not, and forgets the others.
func TestCrash(t *testing.T) {
	words := drawn(noise(8), 16)
	stores := []api.Pend{{At: 3, Word: 10}, {At: 9, Word: 11}, {At: 3, Word: 12}, {At: 0, Word: 13}, {At: 9, Word: 14}}
	for _, x := range []struct {
		keep []bool
		want []uint64
	}{
		{nil, words},
		{[]bool{}, words},
		{[]bool{false, false, false, false, false}, words},
		{[]bool{true}, with(words, 3, 10)},
		{[]bool{false, true}, with(words, 9, 11)},
		{[]bool{true, false, true}, with(words, 3, 12)},
		{[]bool{true, false, false, true}, with(with(words, 3, 10), 0, 13)},
		{[]bool{false, false, true, false, true}, with(with(words, 3, 12), 9, 14)},
		{[]bool{true, true, true, true, true}, with(with(with(words, 3, 12), 9, 14), 0, 13)},
		{[]bool{true, true, true, true, false, true, true}, with(with(with(words, 3, 12), 9, 11), 0, 13)},
		{[]bool{false, false, false, false, false, true, true}, words},
	} {
		for _, line := range []int{-1, 0, 1} {
			d := made(t, words)
			for _, p := range stores {
				right(t, d.Store(p.At, p.Word))
			}
			if line >= 0 {
				right(t, d.Flush(line))
			}
			was := slices.Clone(x.keep)
			right(t, d.Crash(x.keep))
			same(t, d, x.want, x.want, nil)
			if !slices.Equal(x.keep, was) {
				t.Fatalf("%v was turned to %v", was, x.keep)
			}
		}
	}
}

// P3.4: the indices are those of what still waits, not of what was stored.
func TestCrashAfterFence(t *testing.T) {
	words := drawn(noise(9), 16)
	d := made(t, words)
	for k, at := range []int{0, 8, 1, 9} {
		right(t, d.Store(at, uint64(k+1)))
	}
	right(t, d.Flush(0))
	right(t, d.Fence())
	right(t, d.Crash([]bool{false, true}))
	want := with(with(with(words, 0, 1), 1, 3), 9, 4)
	same(t, d, want, want, nil)
}

// P3.4: a device goes on after a crash: nothing that waited ahead of it comes back.
func TestAfterCrash(t *testing.T) {
	words := drawn(noise(10), 16)
	d := made(t, words)
	right(t, d.Crash([]bool{true, true}))
	same(t, d, words, words, nil)
	right(t, d.Store(3, 1))
	right(t, d.Flush(0))
	right(t, d.Crash(nil))
	right(t, d.Fence())
	same(t, d, words, words, nil)
	right(t, d.Store(5, 2))
	same(t, d, with(words, 5, 2), words, []api.Pend{{At: 5, Word: 2}})
	right(t, d.Crash([]bool{true}))
	right(t, d.Crash([]bool{true}))
	same(t, d, with(words, 5, 2), with(words, 5, 2), nil)
}

// P3.4: what is told is new memory each time, and what was told stays as it is.
func TestTold(t *testing.T) {
	words := drawn(noise(11), 16)
	d := made(t, words)
	right(t, d.Store(2, 20))
	right(t, d.Store(12, 21))
	right(t, d.Flush(1))
	now, row := with(with(words, 2, 20), 12, 21), []api.Pend{{At: 2, Word: 20}, {At: 12, Word: 21, Flushed: true}}
	clear(d.Words())
	clear(d.Kept())
	clear(d.Pending())
	_ = append(d.Pending(), api.Pend{At: 1, Word: 1, Flushed: true})
	same(t, d, now, words, row)
	w, k, p := d.Words(), d.Kept(), d.Pending()
	right(t, d.Flush(0))
	right(t, d.Fence())
	right(t, d.Store(0, 22))
	right(t, d.Store(1, 23))
	right(t, d.Crash([]bool{true, true}))
	if !slices.Equal(w, now) || !slices.Equal(k, words) || !slices.Equal(p, row) {
		t.Errorf("what was told became %#x, %#x, %v", w, k, p)
	}
}

// P3.4: what is crashed with is not kept.
func TestKeepIsNotKept(t *testing.T) {
	words := drawn(noise(12), 8)
	d := made(t, words)
	keep := []bool{true, true}
	right(t, d.Store(1, 5))
	right(t, d.Crash(keep))
	keep[0] = false
	right(t, d.Store(2, 6))
	right(t, d.Crash(keep))
	keep[0] = true
	same(t, d, with(words, 1, 5), with(words, 1, 5), nil)
}

// step does one thing, drawn, to a device and its model; mostly to few words, so that stores meet.
func step(t *testing.T, n *rand.Rand, d *Dev, m *model) {
	t.Helper()
	size := len(m.kept)
	switch k := n.IntN(20); {
	case k < 10:
		at, w := n.IntN(size), n.Uint64()
		right(t, d.Store(at, w))
		m.store(at, w)
	case k < 15:
		line := n.IntN(size / 8)
		right(t, d.Flush(line))
		m.flush(line)
	case k < 18:
		right(t, d.Fence())
		m.fence()
	case k < 19:
		keep := make([]bool, n.IntN(len(m.row)+4))
		for i := range keep {
			keep[i] = n.IntN(2) == 0
		}
		right(t, d.Crash(keep))
		m.crash(keep)
	default:
		at := [2]int{-1 - n.IntN(100), size + n.IntN(100)}[n.IntN(2)]
		if d.Store(at, 1) != api.ErrArg || d.Flush(at) != api.ErrArg {
			t.Fatalf("there is a %d", at)
		}
	}
}

// P3.2, P3.3, P3.4: long rows of things, drawn, leave a device as the definitions say after each of them.
func TestRuns(t *testing.T) {
	n := noise(13)
	for run := range 60 {
		words := drawn(n, 8*(1+run%4))
		d, m := made(t, words), &model{kept: slices.Clone(words)}
		for range 300 {
			step(t, n, d, m)
			sameAs(t, d, m)
		}
	}
}

// P3.4: many stores wait as well as few.
func TestMany(t *testing.T) {
	n := noise(14)
	words := drawn(n, 32768)
	d, m := made(t, words), &model{kept: slices.Clone(words)}
	now := slices.Clone(words)
	for range 100000 {
		at, w := n.IntN(32768), n.Uint64()
		right(t, d.Store(at, w))
		m.store(at, w)
		now[at] = w
	}
	same(t, d, now, words, m.row)
	for range 50 {
		line := n.IntN(4096)
		right(t, d.Flush(line))
		m.flush(line)
	}
	right(t, d.Fence())
	m.fence()
	same(t, d, now, m.kept, m.row)
	keep := make([]bool, len(m.row))
	for k := range keep {
		keep[k] = n.IntN(2) == 0
	}
	right(t, d.Crash(keep))
	m.crash(keep)
	same(t, d, m.kept, m.kept, nil)
}

// P3.5: whatever is kept, after a crash each word is the persistent one, or one that waited for it.
func TestAfterAnyCrash(t *testing.T) {
	words := drawn(noise(15), 16)
	stores := []int{3, 9, 3, 9, 3, 10, 3}
	for bits := range 1 << len(stores) {
		d := made(t, words)
		for k, at := range stores {
			right(t, d.Store(at, uint64(k)))
		}
		may := make(map[int][]uint64)
		for at, w := range words {
			may[at] = []uint64{w}
		}
		keep := make([]bool, len(stores))
		for k, p := range d.Pending() {
			may[p.At] = append(may[p.At], p.Word)
			keep[k] = bits>>k&1 == 1
		}
		right(t, d.Crash(keep))
		for at, w := range d.Words() {
			if !slices.Contains(may[at], w) {
				t.Fatalf("%v: the word %d is %#x, none of %#x", keep, at, w, may[at])
			}
		}
		same(t, d, d.Kept(), d.Kept(), nil)
	}
}

// P3.5: what was flushed and fenced, and not stored again, is unchanged by any crash.
func TestFencedStays(t *testing.T) {
	words := drawn(noise(16), 16)
	for bits := range 16 {
		d := made(t, words)
		right(t, d.Store(2, 100))
		right(t, d.Store(3, 101))
		right(t, d.Store(3, 102))
		right(t, d.Flush(0))
		right(t, d.Fence())
		for k, at := range []int{1, 8, 4, 15} {
			right(t, d.Store(at, uint64(k)))
		}
		right(t, d.Flush(1))
		right(t, d.Crash([]bool{bits&1 > 0, bits&2 > 0, bits&4 > 0, bits&8 > 0}))
		if l := d.Words(); l[2] != 100 || l[3] != 102 {
			t.Fatalf("%#x are kept: %d, %d", bits, l[2], l[3])
		}
	}
}

// P3.5: when all lines are flushed, and a fence follows, no crash loses anything.
func TestNothingIsLost(t *testing.T) {
	n := noise(17)
	for run := range 40 {
		lines := 1 + run%5
		words := drawn(n, 8*lines)
		d, m := made(t, words), &model{kept: slices.Clone(words)}
		for range n.IntN(100) {
			step(t, n, d, m)
		}
		for _, line := range n.Perm(lines) {
			right(t, d.Flush(line))
		}
		now := d.Words()
		right(t, d.Fence())
		same(t, d, now, now, nil)
		right(t, d.Crash([][]bool{nil, {true, true}}[run%2]))
		same(t, d, now, now, nil)
	}
}

// R3: what a nil device answers, also to what would be wrong for any other.
func TestNil(t *testing.T) {
	var d *Dev
	if d.Lines() != 0 || len(d.Pending()) != 0 || len(d.Words()) != 0 || len(d.Kept()) != 0 {
		t.Errorf("%d, %v, %v, %v", d.Lines(), d.Pending(), d.Words(), d.Kept())
	}
	for _, k := range append([]int{0, 1, 8, 4096}, odd...) {
		if w, e := d.Load(k); w != 0 || e != api.ErrNil {
			t.Errorf("Load(%d) = %#x, %v", k, w, e)
		}
		if e := d.Store(k, 5); e != api.ErrNil {
			t.Errorf("Store(%d): %v", k, e)
		}
		if e := d.Flush(k); e != api.ErrNil {
			t.Errorf("Flush(%d): %v", k, e)
		}
	}
	if e := d.Fence(); e != api.ErrNil {
		t.Error(e)
	}
	for _, keep := range [][]bool{nil, {}, {true}} {
		if e := d.Crash(keep); e != api.ErrNil {
			t.Error(e)
		}
	}
}

// TestExamples: the chapter's table.
func TestExamples(t *testing.T) {
	d, e := New(1)
	right(t, e)
	right(t, d.Store(3, 5))
	if w, e := d.Load(3); w != 5 || e != api.OK {
		t.Errorf("%d, %v", w, e)
	}
	if l := d.Kept(); !slices.Equal(l, make([]uint64, 8)) {
		t.Errorf("%d", l)
	}
	right(t, d.Flush(0))
	right(t, d.Store(3, 6))
	right(t, d.Fence())
	if l := d.Pending(); !slices.Equal(l, []api.Pend{{At: 3, Word: 6}}) {
		t.Errorf("%v", l)
	}
	right(t, d.Crash(nil))
	if w, e := d.Load(3); w != 5 || e != api.OK {
		t.Errorf("%d, %v", w, e)
	}
}
