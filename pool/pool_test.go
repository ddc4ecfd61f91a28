package pool

import (
	"math"
	"math/rand/v2"
	"slices"
	"testing"

	"parclose/api"
)

// noise is a row of numbers that are the same in each run.
func noise(seed uint64) *rand.Rand {
	return rand.New(rand.NewPCG(seed, 15))
}

// fits tells whether n is valid for the row.
func fits(l []uint64, n int) bool {
	return n >= 0 && n <= 64*len(l)
}

// flags is the row as the definition tells it: of each number, at its place less 1, whether it is taken.
func flags(l []uint64) []bool {
	var row []bool
	for _, w := range l {
		for range 64 {
			row = append(row, w%2 == 1)
			w /= 2
		}
	}
	return row
}

// words is the row of words with these flags.
func words(row []bool) []uint64 {
	l := make([]uint64, len(row)/64)
	for i, taken := range row {
		if taken {
			l[i/64] += 1 << (i % 64)
		}
	}
	return l
}

// modelTake is what Take is to return.
func modelTake(l []uint64, n, k int) ([]int, []uint64, api.Errno) {
	if !fits(l, n) || k < 0 {
		return nil, nil, 2
	}
	var free []int
	row := flags(l)
	for i := 1; i <= n; i++ {
		if !row[i-1] {
			free = append(free, i)
		}
	}
	if len(free) < k {
		return nil, nil, 4
	}
	for _, i := range free[:k] {
		row[i-1] = true
	}
	return free[:k], words(row), 0
}

// modelDrop is what Drop is to return.
func modelDrop(l []uint64, n int, which []int) ([]uint64, api.Errno) {
	if !fits(l, n) {
		return nil, 2
	}
	for _, i := range which {
		if i < 1 || i > n {
			return nil, 3
		}
	}
	row, seen := flags(l), map[int]int{}
	for _, i := range which {
		seen[i]++
		if !row[i-1] || seen[i] > 1 {
			return nil, 6
		}
	}
	for _, i := range which {
		row[i-1] = false
	}
	return words(row), 0
}

// modelFree is what Free is to return.
func modelFree(l []uint64, n int) (int, api.Errno) {
	if !fits(l, n) {
		return 0, 2
	}
	free := 0
	for _, taken := range flags(l)[:n] {
		if !taken {
			free++
		}
	}
	return free, 0
}

// holdsTake holds Take to the contract, and returns what it returned.
func holdsTake(t *testing.T, l []uint64, n, k int) ([]int, []uint64, api.Errno) {
	t.Helper()
	before := slices.Clone(l)
	got, row, e := Take(l, n, k)
	want, wantRow, wantErr := modelTake(l, n, k)
	if e != wantErr || !slices.Equal(got, want) || !slices.Equal(row, wantRow) {
		t.Fatalf("Take(%#x, %d, %d) = %v, %#x, %v; want %v, %#x, %v", l, n, k, got, row, e, want, wantRow, wantErr)
	}
	if !slices.Equal(l, before) {
		t.Fatalf("Take(%#x, %d, %d) made the row %#x", before, n, k, l)
	}
	return got, row, e
}

// holdsDrop holds Drop to the contract, and returns what it returned.
func holdsDrop(t *testing.T, l []uint64, n int, which []int) ([]uint64, api.Errno) {
	t.Helper()
	before, beforeWhich := slices.Clone(l), slices.Clone(which)
	row, e := Drop(l, n, which)
	want, wantErr := modelDrop(l, n, which)
	if e != wantErr || !slices.Equal(row, want) {
		t.Fatalf("Drop(%#x, %d, %v) = %#x, %v; want %#x, %v", l, n, which, row, e, want, wantErr)
	}
	if !slices.Equal(l, before) || !slices.Equal(which, beforeWhich) {
		t.Fatalf("Drop(%#x, %d, %v) made the row %#x, and the list %v", before, n, beforeWhich, l, which)
	}
	return row, e
}

// holdsFree holds Free to the contract, and returns what it returned.
func holdsFree(t *testing.T, l []uint64, n int) (int, api.Errno) {
	t.Helper()
	got, e := Free(l, n)
	if want, wantErr := modelFree(l, n); got != want || e != wantErr {
		t.Fatalf("Free(%#x, %d) = %d, %v; want %d, %v", l, n, got, e, want, wantErr)
	}
	return got, e
}

// across is two words with these eight bits at the end of the first one and the beginning of the second.
func across(eight uint64) []uint64 {
	return []uint64{eight << 60, eight >> 4}
}

// wrongNs are numbers that are valid for no row, or for none as short as this one.
func wrongNs(l []uint64) []int {
	return []int{-1, -64, math.MinInt, 64*len(l) + 1, 64*len(l) + 64, math.MaxInt}
}

// someRows are rows of no word, of one, and of more, with the edges in them.
func someRows() [][]uint64 {
	const all = ^uint64(0)
	return [][]uint64{
		nil, {}, {0}, {all}, {1}, {1 << 63}, {all - 1}, {all >> 1}, {5}, {0xAAAAAAAAAAAAAAAA},
		{0, 0}, {all, all}, {all, 0}, {0, all}, {all, 1}, {all >> 1, all}, {1 << 63, 1},
		{all, all, all, 0xFF}, {all, 0, all, 1 << 63}, {7, 0, 0, 0},
	}
}

// drawn is a row of at most five words, of which some are empty, some are full.
func drawn(r *rand.Rand) []uint64 {
	l := make([]uint64, r.IntN(6))
	for k := range l {
		switch r.IntN(5) {
		case 0:
		case 1:
			l[k] = ^uint64(0)
		case 2:
			l[k] = r.Uint64() | r.Uint64()
		case 3:
			l[k] = r.Uint64() & r.Uint64()
		default:
			l[k] = r.Uint64()
		}
	}
	return l
}

// drawnN is a number that is mostly valid for the row.
func drawnN(r *rand.Rand, l []uint64) int {
	return r.IntN(64*len(l)+4) - 1
}

// The chapter's examples.
func TestExamples(t *testing.T) {
	got, row, e := Take([]uint64{5, 0}, 70, 3)
	if !slices.Equal(got, []int{2, 4, 5}) || !slices.Equal(row, []uint64{31, 0}) || e != api.OK {
		t.Error(got, row, e)
	}
	if got, row, e = Take([]uint64{7}, 3, 1); len(got) != 0 || len(row) != 0 || e != api.ErrFull {
		t.Error(got, row, e)
	}
	if got, row, e = Take([]uint64{7}, 64, 0); len(got) != 0 || !slices.Equal(row, []uint64{7}) || e != api.OK {
		t.Error(got, row, e)
	}
	if row, e = Drop([]uint64{7}, 64, []int{2, 1}); !slices.Equal(row, []uint64{4}) || e != api.OK {
		t.Error(row, e)
	}
	if row, e = Drop([]uint64{7}, 64, []int{2, 2}); len(row) != 0 || e != api.ErrState {
		t.Error(row, e)
	}
	if row, e = Drop([]uint64{7}, 64, []int{65}); len(row) != 0 || e != api.ErrNone {
		t.Error(row, e)
	}
	if turned := Turned([]uint64{1, 2, 3}, []uint64{1, 5, 4, 6}); !slices.Equal(turned, []int{1, 2}) {
		t.Error(turned)
	}
}

// P15.1, P15.3: all rows of eight bits, in one word and across two, with all n around them and all k.
func TestTakeAllOfEight(t *testing.T) {
	for eight := range uint64(256) {
		for n := range 10 {
			holdsFree(t, []uint64{eight}, n)
			for k := -1; k <= n+1; k++ {
				holdsTake(t, []uint64{eight}, n, k)
			}
		}
		l := across(eight)
		l[0] |= 1<<60 - 1
		for n := 58; n <= 70; n++ {
			holdsFree(t, l, n)
			for k := -1; k <= 10; k++ {
				holdsTake(t, l, n, k)
			}
		}
	}
}

// P15.1, P15.3: some rows with all n, and with each k that is one.
func TestTakeAllOfN(t *testing.T) {
	for _, l := range someRows() {
		for n := -2; n <= 64*len(l)+2; n++ {
			free, _ := holdsFree(t, l, n)
			for _, k := range []int{-1, 0, 1, 2, free - 1, free, free + 1, n, 64 * len(l)} {
				holdsTake(t, l, n, k)
			}
		}
	}
}

// P15.1: what n or k is not valid is ErrArg, whatever is free.
func TestTakeWrong(t *testing.T) {
	for _, l := range someRows() {
		for _, n := range wrongNs(l) {
			for _, k := range []int{-1, 0, 1, 64, math.MaxInt, math.MinInt} {
				if got, row, e := holdsTake(t, l, n, k); e != api.ErrArg || len(got)+len(row) != 0 {
					t.Error(l, n, k, got, row, e)
				}
			}
		}
		for _, k := range []int{-1, -64, math.MinInt} {
			if got, row, e := holdsTake(t, l, 64*len(l), k); e != api.ErrArg || len(got)+len(row) != 0 {
				t.Error(l, k, got, row, e)
			}
		}
	}
}

// P15.1: what is more than there is, is ErrFull, however much it is; numbers beyond n are not taken for it.
func TestTakeFull(t *testing.T) {
	for _, l := range someRows() {
		for n := range 64*len(l) + 1 {
			free, _ := Free(l, n)
			for _, k := range []int{free + 1, free + 64, math.MaxInt} {
				if got, row, e := holdsTake(t, l, n, k); e != api.ErrFull || len(got)+len(row) != 0 {
					t.Error(l, n, k, got, row, e)
				}
			}
		}
	}
}

// P15.1: the row is a new one even where nothing is taken, and it keeps the bits beyond n.
func TestTakeMemory(t *testing.T) {
	const beyond = uint64(0xF0F0) << 40
	for k := range 11 {
		l := []uint64{0x3F | beyond, 9}
		_, row, e := holdsTake(t, l, 16, k)
		if e != api.OK || row[0]&^0xFFFF != beyond || row[1] != 9 {
			t.Fatal(k, row, e)
		}
		row[0], row[1] = 1, 2
		if l[0] != 0x3F|beyond || l[1] != 9 {
			t.Error("the row is the argument's", k, l)
		}
	}
}

// P15.2: all lists of up to three numbers, of all rows of four bits, with numbers below, beyond, and twice.
func TestDropAllOfFour(t *testing.T) {
	for four := range uint64(16) {
		l := []uint64{four | 1<<4}
		for n := range 5 {
			holdsDrop(t, l, n, nil)
			for a := -1; a <= n+1; a++ {
				holdsDrop(t, l, n, []int{a})
				for b := -1; b <= n+1; b++ {
					holdsDrop(t, l, n, []int{a, b})
					for c := -1; c <= n+1; c++ {
						holdsDrop(t, l, n, []int{a, b, c})
					}
				}
			}
		}
	}
}

// P15.2: each number of some rows, with all n.
func TestDropEach(t *testing.T) {
	for _, l := range someRows() {
		for n := -2; n <= 64*len(l)+2; n++ {
			for i := -1; i <= 64*len(l)+2; i++ {
				holdsDrop(t, l, n, []int{i})
			}
		}
	}
}

// P15.2: all that are taken at once, in either order; and all of them but with one more.
func TestDropAll(t *testing.T) {
	for _, l := range someRows() {
		var which []int
		for i, taken := range flags(l) {
			if taken {
				which = append(which, i+1)
			}
		}
		for range 2 {
			row, e := holdsDrop(t, l, 64*len(l), which)
			if e != api.OK || !slices.Equal(row, make([]uint64, len(l))) {
				t.Error(l, row, e)
			}
			if len(which) > 0 {
				holdsDrop(t, l, 64*len(l), append(slices.Clone(which), which[0]))
				holdsDrop(t, l, which[len(which)-1], which)
			}
			slices.Reverse(which)
		}
	}
}

// P15.2: ErrArg comes before ErrNone, and that before ErrState, wherever in the list they stand.
func TestDropOrder(t *testing.T) {
	l := []uint64{7}
	is := func(n int, want api.Errno, which ...int) {
		t.Helper()
		if row, e := holdsDrop(t, l, n, which); e != want || len(row) != 0 {
			t.Error(n, which, row, e)
		}
	}
	for _, n := range wrongNs(l) {
		is(n, api.ErrArg)
		is(n, api.ErrArg, 1)
		is(n, api.ErrArg, 0)
		is(n, api.ErrArg, 4, 4)
	}
	for _, i := range []int{0, -1, -63, 65, 66, math.MinInt, math.MaxInt} {
		is(64, api.ErrNone, i)
		is(64, api.ErrNone, i, 4)
		is(64, api.ErrNone, 4, i)
		is(64, api.ErrNone, 1, 1, i)
		is(64, api.ErrNone, i, 1, 1)
		is(64, api.ErrNone, i, i)
	}
	is(2, api.ErrNone, 3)
	is(0, api.ErrNone, 1)
	is(64, api.ErrState, 4)
	is(64, api.ErrState, 1, 2, 3, 4)
	is(64, api.ErrState, 1, 2, 3, 1)
	is(64, api.ErrState, 64)
}

// P15.2: the row is a new one even where nothing is dropped, and it keeps the bits beyond n.
func TestDropMemory(t *testing.T) {
	for _, which := range [][]int{nil, {}, {1}, {1, 4}} {
		l := []uint64{0xFFFF, 9}
		row, e := holdsDrop(t, l, 4, which)
		if e != api.OK || row[0]&^15 != 0xFFF0 || row[1] != 9 {
			t.Fatal(which, row, e)
		}
		row[0], row[1] = 1, 2
		if l[0] != 0xFFFF || l[1] != 9 {
			t.Error("the row is the argument's", which, l)
		}
	}
}

// P15.3: an n that is not valid is ErrArg, and none is free then; of no row the only one is 0.
func TestFreeWrong(t *testing.T) {
	for _, l := range someRows() {
		for _, n := range wrongNs(l) {
			if got, e := holdsFree(t, l, n); got != 0 || e != api.ErrArg {
				t.Error(l, n, got, e)
			}
		}
		if _, e := holdsFree(t, l, 64*len(l)); e != api.OK {
			t.Error(l, e)
		}
	}
	if got, e := Free(nil, 0); got != 0 || e != api.OK {
		t.Error(got, e)
	}
	if got, e := Free(nil, 1); got != 0 || e != api.ErrArg {
		t.Error(got, e)
	}
}

// P15.3: it leaves the row as it is.
func TestFreeMemory(t *testing.T) {
	l := []uint64{5, 0, ^uint64(0)}
	for n := range 193 {
		holdsFree(t, l, n)
	}
	if !slices.Equal(l, []uint64{5, 0, ^uint64(0)}) {
		t.Error(l)
	}
}

// P15.4: all pairs of rows of up to three words, of two values.
func TestTurnedAll(t *testing.T) {
	var rows [][]uint64
	for length := range 4 {
		for pattern := range 1 << length {
			var l []uint64
			for k := range length {
				l = append(l, uint64(pattern>>k&1)<<63)
			}
			rows = append(rows, l)
		}
	}
	for _, a := range rows {
		for _, b := range rows {
			want := []int{}
			for k := 0; k < len(a) && k < len(b); k++ {
				if a[k]^b[k] != 0 {
					want = append(want, k)
				}
			}
			beforeA, beforeB := slices.Clone(a), slices.Clone(b)
			if got := Turned(a, b); !slices.Equal(got, want) {
				t.Errorf("Turned(%#x, %#x) = %v; want %v", a, b, got, want)
			}
			if !slices.Equal(a, beforeA) || !slices.Equal(b, beforeB) {
				t.Error("an argument was changed", beforeA, a, beforeB, b)
			}
		}
	}
}

// P15.4: one bit that differs is enough, whichever it is.
func TestTurnedBits(t *testing.T) {
	a := []uint64{0x0123456789ABCDEF, 0, ^uint64(0), 1}
	if got := Turned(a, a); len(got) != 0 {
		t.Error(got)
	}
	for i := range 64 * len(a) {
		b := slices.Clone(a)
		b[i/64] ^= 1 << (i % 64)
		for _, got := range [][]int{Turned(a, b), Turned(b, a), Turned(a, append(b, 5)), Turned(append(b, 5), a)} {
			if !slices.Equal(got, []int{i / 64}) {
				t.Error(i, got)
			}
		}
		if got := Turned(a[:i/64], b); len(got) != 0 {
			t.Error(i, got)
		}
	}
}

// P15.1 to P15.3: drawn rows, numbers and lists.
func TestDrawn(t *testing.T) {
	r := noise(1)
	for range 20000 {
		l := drawn(r)
		n := drawnN(r, l)
		free, _ := holdsFree(t, l, n)
		holdsTake(t, l, n, r.IntN(free+3)-1)
		var which []int
		for i, taken := range flags(l) {
			if taken && i < n && r.IntN(3) > 0 {
				which = append(which, i+1)
			}
		}
		r.Shuffle(len(which), func(i, k int) { which[i], which[k] = which[k], which[i] })
		holdsDrop(t, l, n, which)
		if len(which) > 0 {
			which[r.IntN(len(which))] = r.IntN(64*len(l)+4) - 1
			holdsDrop(t, l, n, which)
		}
	}
}

// P15.5: what was taken was free, is told once, in order, and is taken now; dropping it, in whatever order, gives the row again.
func TestTakeAndDrop(t *testing.T) {
	r := noise(2)
	for range 5000 {
		l := drawn(r)
		n := r.IntN(64*len(l) + 1)
		free, _ := Free(l, n)
		k := r.IntN(free + 1)
		got, row, e := Take(l, n, k)
		if e != api.OK || len(got) != k {
			t.Fatal(l, n, k, got, e)
		}
		before, after := flags(l), flags(row)
		for j, i := range got {
			if before[i-1] || !after[i-1] || j > 0 && got[j-1] >= i {
				t.Fatal(l, n, k, got)
			}
		}
		if left, _ := Free(row, n); left != free-k {
			t.Fatal(l, n, k, left)
		}
		if turned := Turned(l, row); (len(turned) == 0) != (k == 0) || len(turned) > k {
			t.Fatal(l, n, k, turned)
		}
		r.Shuffle(len(got), func(i, j int) { got[i], got[j] = got[j], got[i] })
		back, e := Drop(row, n, got)
		if e != api.OK || !slices.Equal(back, l) || len(Turned(back, l)) != 0 {
			t.Fatal(l, n, k, back, e)
		}
	}
}

// P15.5: taken one by one, no number is taken twice, until none is free.
func TestTakeOneByOne(t *testing.T) {
	r := noise(3)
	for range 200 {
		l := drawn(r)
		n := r.IntN(64*len(l) + 1)
		seen := make([]int, n+1)
		for i, taken := range flags(l)[:n] {
			if taken {
				seen[i+1]++
			}
		}
		row, e := l, api.OK
		for e == api.OK {
			var got []int
			var next []uint64
			if got, next, e = Take(row, n, 1); e == api.OK {
				seen[got[0]]++
				row = next
			}
		}
		for i, times := range seen[1:] {
			if times != 1 {
				t.Fatal(l, n, i+1, times)
			}
		}
		if free, _ := Free(row, n); e != api.ErrFull || free != 0 {
			t.Fatal(l, n, free, e)
		}
	}
}

// P15.5: the free ones and the taken ones are n; the taken ones are as many as can be dropped.
func TestSum(t *testing.T) {
	r := noise(4)
	for range 2000 {
		l := drawn(r)
		n := r.IntN(64*len(l) + 1)
		var which []int
		for i := 1; i <= n; i++ {
			if _, e := Drop(l, n, []int{i}); e == api.OK {
				which = append(which, i)
			}
		}
		free, _ := Free(l, n)
		if free+len(which) != n {
			t.Fatal(l, n, free, which)
		}
		row, _ := Drop(l, n, which)
		if free, _ = Free(row, n); free != n {
			t.Fatal(l, n, free)
		}
	}
}

// R1: a long row is no trouble, whether it is full, empty, or full up to its end.
func TestLong(t *testing.T) {
	const length = 1 << 14
	l := make([]uint64, length)
	got, row, e := Take(l, 64*length, 64*length)
	if e != api.OK || len(got) != 64*length || got[0] != 1 || got[64*length-1] != 64*length {
		t.Fatal(len(got), e)
	}
	if free, _ := Free(row, 64*length); free != 0 {
		t.Error(free)
	}
	if back, e := Drop(row, 64*length, got); e != api.OK || !slices.Equal(back, l) {
		t.Error(e)
	}
	row[length-1] >>= 1
	if got, _, e = Take(row, 64*length, 1); e != api.OK || !slices.Equal(got, []int{64 * length}) {
		t.Error(got, e)
	}
	if got, _, e = Take(row, 64*length-1, 1); e != api.ErrFull || len(got) != 0 {
		t.Error(got, e)
	}
}
