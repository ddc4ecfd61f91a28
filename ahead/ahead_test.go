package ahead

import (
	"math"
	"math/rand/v2"
	"slices"
	"testing"

	"parclose/api"
)

// noise is a row of numbers that are the same in each run.
func noise(seed uint64) *rand.Rand {
	return rand.New(rand.NewPCG(seed, 17))
}

// model is a table as the contracts tell it: what was put and not removed, in the order of the calls, the newest last.
type model struct {
	l []api.Redo
}

// find is where the model has the place, or -1.
func (m *model) find(at int) int {
	return slices.IndexFunc(m.l, func(r api.Redo) bool { return r.At == at })
}

func (m *model) put(l []api.Redo) api.Errno {
	for _, r := range l {
		if r.At < 0 {
			return 2
		}
	}
	for _, r := range l {
		m.done(r.At)
		m.l = append(m.l, r)
	}
	return 0
}

func (m *model) done(at int) api.Errno {
	k := m.find(at)
	if k < 0 {
		return 3
	}
	m.l = append(m.l[:k:k], m.l[k+1:]...)
	return 0
}

func (m *model) load(at int, base uint64) uint64 {
	if k := m.find(at); k >= 0 {
		return m.l[k].Word
	}
	return base
}

// list is the model's list: the lowest place is looked for again and again.
func (m *model) list() []api.Redo {
	var sorted []api.Redo
	for last := -1; len(sorted) < len(m.l); {
		low := api.Redo{At: -1}
		for _, r := range m.l {
			if r.At > last && (low.At < 0 || r.At < low.At) {
				low = r
			}
		}
		sorted, last = append(sorted, low), low.At
	}
	return sorted
}

// both is a table, and its model.
type both struct {
	a *Ahead
	m model
}

func newBoth() *both {
	return &both{a: New()}
}

// put holds Put to the contract, and returns what it returned.
func (b *both) put(t *testing.T, l ...api.Redo) api.Errno {
	t.Helper()
	before := slices.Clone(l)
	e := b.a.Put(l)
	if want := b.m.put(l); e != want {
		t.Fatalf("Put(%v) = %v; want %v", l, e, want)
	}
	if !slices.Equal(l, before) {
		t.Fatalf("Put(%v) made the list %v", before, l)
	}
	b.agree(t)
	return e
}

// done holds Done to the contract, and returns what it returned.
func (b *both) done(t *testing.T, at int) api.Errno {
	t.Helper()
	e := b.a.Done(at)
	if want := b.m.done(at); e != want {
		t.Fatalf("Done(%d) = %v; want %v", at, e, want)
	}
	b.agree(t)
	return e
}

// load holds Load to the contract.
func (b *both) load(t *testing.T, at int) {
	t.Helper()
	for _, base := range []uint64{0, 1, 9, math.MaxUint64} {
		if got, want := b.a.Load(at, base), b.m.load(at, base); got != want {
			t.Fatalf("Load(%d, %d) = %d; want %d: %v", at, base, got, want, b.m.l)
		}
	}
}

// agree holds what the table tells to what the model has.
func (b *both) agree(t *testing.T) {
	t.Helper()
	want := b.m.list()
	if got := b.a.List(); !slices.Equal(got, want) {
		t.Fatalf("List() = %v; want %v", got, want)
	}
	if got := b.a.Len(); got != len(want) {
		t.Fatalf("Len() = %d; want %d", got, len(want))
	}
	for _, r := range want {
		b.load(t, r.At)
		b.load(t, r.At-1)
		b.load(t, r.At+1)
	}
}

// somePlaces are places with the edges in them, in no order.
func somePlaces() []int {
	return []int{5, 0, math.MaxInt, 1, 1 << 20, 2, 1<<20 - 1, 1 << 40, math.MaxInt - 1, 64, 8}
}

// wrongPlaces are no places.
func wrongPlaces() []int {
	return []int{-1, -2, -5, math.MinInt, math.MinInt + 1, -1 << 20}
}

// someWords are words with the edges in them.
func someWords() []uint64 {
	return []uint64{0, 1, 7, 1 << 63, math.MaxUint64, math.MaxUint64 >> 1}
}

// drawn is a list of places below the limit, of which some may occur several times.
func drawn(r *rand.Rand, limit int) []api.Redo {
	l := make([]api.Redo, r.IntN(6))
	for k := range l {
		l[k] = api.Redo{At: r.IntN(limit), Word: r.Uint64() >> r.IntN(64)}
	}
	return l
}

// The chapter's examples, one behind the other.
func TestExamples(t *testing.T) {
	a := New()
	if e := a.Put([]api.Redo{{At: 5, Word: 1}, {At: 2, Word: 7}, {At: 5, Word: 3}}); e != api.OK {
		t.Error(e)
	}
	if five, six := a.Load(5, 9), a.Load(6, 9); five != 3 || six != 9 {
		t.Error(five, six)
	}
	if l := a.List(); !slices.Equal(l, []api.Redo{{At: 2, Word: 7}, {At: 5, Word: 3}}) {
		t.Error(l)
	}
	if e := a.Done(5); e != api.OK {
		t.Error(e)
	}
	if e := a.Done(5); e != api.ErrNone {
		t.Error(e)
	}
	if five, n := a.Load(5, 9), a.Len(); five != 9 || n != 1 {
		t.Error(five, n)
	}
	if e := a.Put([]api.Redo{{At: 1, Word: 1}, {At: -1, Word: 1}}); e != api.ErrArg {
		t.Error(e)
	}
	if n := a.Len(); n != 1 {
		t.Error(n)
	}
}

// P17.1: a new table has no place.
func TestNew(t *testing.T) {
	a := New()
	if l, n := a.List(), a.Len(); len(l) != 0 || n != 0 {
		t.Error(l, n)
	}
	for _, at := range slices.Concat(somePlaces(), wrongPlaces()) {
		if w := a.Load(at, 9); w != 9 {
			t.Error(at, w)
		}
		if e := a.Done(at); e != api.ErrNone {
			t.Error(at, e)
		}
	}
}

// P17.1: each New returns a table of its own.
func TestNewApart(t *testing.T) {
	a, b := New(), New()
	a.Put([]api.Redo{{At: 1, Word: 2}})
	if l, n, w := b.List(), b.Len(), b.Load(1, 9); len(l) != 0 || n != 0 || w != 9 {
		t.Error(l, n, w)
	}
	if e := b.Done(1); e != api.ErrNone || a.Len() != 1 {
		t.Error(e, a.Len())
	}
}

// P17.1: each place from 0 on may be, with each word.
func TestPutEdges(t *testing.T) {
	for _, w := range someWords() {
		all := newBoth()
		for _, at := range somePlaces() {
			if e := newBoth().put(t, api.Redo{At: at, Word: w}); e != api.OK {
				t.Error(at, w, e)
			}
			all.put(t, api.Redo{At: at, Word: w})
		}
		if n := all.a.Len(); n != len(somePlaces()) {
			t.Error(w, n)
		}
	}
}

// P17.1: of no entry, nothing changes, whether the list is nil or empty (R4).
func TestPutNone(t *testing.T) {
	b := newBoth()
	for range 2 {
		for _, l := range [][]api.Redo{nil, {}} {
			if e := b.put(t, l...); e != api.OK {
				t.Error(l, e)
			}
		}
		b.put(t, api.Redo{At: 3, Word: 4})
	}
}

// P17.1: all lists of up to four entries of three places: of several for one place, the last one counts.
func TestPutAll(t *testing.T) {
	lists := [][]api.Redo{nil}
	for k := 0; k < len(lists); k++ {
		l := lists[k]
		once := newBoth()
		once.put(t, l...)
		one := newBoth()
		for _, r := range l {
			one.put(t, r)
		}
		if !slices.Equal(once.a.List(), one.a.List()) {
			t.Error("one by one it is another table", l)
		}
		for _, old := range lists[:min(k, 40)] {
			b := newBoth()
			b.put(t, old...)
			b.put(t, l...)
		}
		for at := 0; at < 3 && len(l) < 4; at++ {
			lists = append(lists, append(slices.Clone(l), api.Redo{At: at, Word: uint64(10*k + at)}))
		}
	}
}

// P17.1: one entry for each place is enough to override the one that was there, also by the word that was there, and by 0.
func TestPutAgain(t *testing.T) {
	b := newBoth()
	for _, w := range append(someWords(), 5, 5, 0, 0) {
		if e := b.put(t, api.Redo{At: 3, Word: w}); e != api.OK || b.a.Load(3, 9) != w || b.a.Len() != 1 {
			t.Error(w, e, b.a.List())
		}
	}
}

// P17.1: a negative place is ErrArg wherever in the list it stands, and nothing changes then.
func TestPutWrong(t *testing.T) {
	b := newBoth()
	for range 2 {
		before := b.a.List()
		for _, at := range wrongPlaces() {
			for length := 1; length < 5; length++ {
				for k := range length {
					l := make([]api.Redo, length)
					for i := range l {
						l[i] = api.Redo{At: i, Word: 100}
					}
					l[k].At = at
					if e := b.put(t, l...); e != api.ErrArg || !slices.Equal(b.a.List(), before) {
						t.Error(l, e, b.a.List())
					}
					if w := b.a.Load(at, 9); w != 9 {
						t.Error(at, w)
					}
				}
			}
		}
		b.put(t, api.Redo{At: 0, Word: 1}, api.Redo{At: 3, Word: 2})
	}
}

// P17.2: a place that the table has is removed, alone; then it has it no more, until it is put again.
func TestDone(t *testing.T) {
	for _, at := range somePlaces() {
		b := newBoth()
		for k, place := range somePlaces() {
			b.put(t, api.Redo{At: place, Word: uint64(k)})
		}
		if e := b.done(t, at); e != api.OK || b.a.Len() != len(somePlaces())-1 || b.a.Load(at, 9) != 9 {
			t.Error(at, e, b.a.List())
		}
		for range 2 {
			if e := b.done(t, at); e != api.ErrNone || b.a.Len() != len(somePlaces())-1 {
				t.Error(at, e, b.a.List())
			}
		}
		if e := b.put(t, api.Redo{At: at, Word: 77}); e != api.OK || b.a.Load(at, 9) != 77 {
			t.Error(at, e, b.a.List())
		}
		if e := b.done(t, at); e != api.OK {
			t.Error(at, e)
		}
	}
}

// P17.2: a place whose word is 0, or was put twice, is one place.
func TestDoneOnce(t *testing.T) {
	b := newBoth()
	b.put(t, api.Redo{At: 4}, api.Redo{At: 6, Word: 1}, api.Redo{At: 6, Word: 2})
	for _, at := range []int{4, 6} {
		if e := b.done(t, at); e != api.OK {
			t.Error(at, e)
		}
		if e := b.done(t, at); e != api.ErrNone {
			t.Error(at, e)
		}
	}
	if n := b.a.Len(); n != 0 {
		t.Error(n)
	}
}

// P17.2: what is no place of the table is ErrNone, and nothing changes.
func TestDoneWrong(t *testing.T) {
	b := newBoth()
	b.put(t, api.Redo{At: 5, Word: 1}, api.Redo{At: 7, Word: 2})
	for _, at := range append(wrongPlaces(), 0, 4, 6, 8, 5+1<<32, math.MaxInt) {
		if e := b.done(t, at); e != api.ErrNone || b.a.Len() != 2 {
			t.Error(at, e, b.a.List())
		}
	}
}

// P17.3: Load returns the committed word, whatever base is, and base elsewhere; it changes nothing.
func TestLoad(t *testing.T) {
	b := newBoth()
	for k, at := range somePlaces() {
		b.put(t, api.Redo{At: at, Word: someWords()[k%len(someWords())]})
	}
	for _, at := range slices.Concat(somePlaces(), wrongPlaces(), []int{3, 4, 6, 7, 9, 63, 65, 1<<20 + 1}) {
		b.load(t, at)
	}
	b.agree(t)
}

// P17.3: a word that is 0 overrides the media, too.
func TestLoadZero(t *testing.T) {
	a := New()
	a.Put([]api.Redo{{At: 0, Word: 0}})
	if w, n := a.Load(0, 5), a.Len(); w != 0 || n != 1 {
		t.Error(w, n)
	}
	if l := a.List(); !slices.Equal(l, []api.Redo{{}}) {
		t.Error(l)
	}
}

// P17.3: List is in ascending order, however the places were put.
func TestListOrder(t *testing.T) {
	want := []api.Redo{}
	for at := range 100 {
		want = append(want, api.Redo{At: at * at, Word: uint64(at)})
	}
	r := noise(1)
	for range 50 {
		l := slices.Clone(want)
		r.Shuffle(len(l), func(i, k int) { l[i], l[k] = l[k], l[i] })
		a := New()
		a.Put(l[:40])
		for _, one := range l[40:] {
			a.Put([]api.Redo{one})
		}
		if got := a.List(); !slices.Equal(got, want) {
			t.Fatal(got)
		}
	}
	edges := New()
	for _, at := range somePlaces() {
		edges.Put([]api.Redo{{At: at}})
	}
	if got := edges.List(); !slices.IsSortedFunc(got, func(x, y api.Redo) int {
		if x.At < y.At {
			return -1
		}
		return 1
	}) {
		t.Error(got)
	}
}

// P17.1, P17.3, R5: what is put is not retained, and what is listed is new memory each time.
func TestMemory(t *testing.T) {
	a, l := New(), []api.Redo{{At: 1, Word: 2}, {At: 3, Word: 4}}
	want := slices.Clone(l)
	a.Put(l)
	l[0], l[1] = api.Redo{At: 8, Word: 8}, api.Redo{At: 9, Word: 9}
	first := a.List()
	if !slices.Equal(first, want) {
		t.Fatal(first)
	}
	first[0] = api.Redo{At: 7, Word: 7}
	_ = append(first[:1], api.Redo{At: 6, Word: 6})
	if second := a.List(); !slices.Equal(second, want) || a.Load(1, 9) != 2 || a.Load(7, 9) != 9 || a.Len() != 2 {
		t.Error(second)
	}
	second := a.List()
	a.Put([]api.Redo{{At: 1, Word: 5}})
	a.Done(3)
	if !slices.Equal(second, want) {
		t.Error("the list changed with the table", second)
	}
}

// R3: of nil, Put and Done return ErrNil, even where the argument is wrong; Load returns base, List and Len are zero.
func TestNil(t *testing.T) {
	var a *Ahead
	for _, l := range [][]api.Redo{nil, {}, {{At: 1, Word: 2}}, {{At: -1}}} {
		if e := a.Put(l); e != api.ErrNil {
			t.Error(l, e)
		}
	}
	for _, at := range slices.Concat(somePlaces(), wrongPlaces()) {
		if e := a.Done(at); e != api.ErrNil {
			t.Error(at, e)
		}
		for _, base := range someWords() {
			if w := a.Load(at, base); w != base {
				t.Error(at, base, w)
			}
		}
	}
	if l, n := a.List(), a.Len(); len(l) != 0 || n != 0 {
		t.Error(l, n)
	}
}

// P17.1 to P17.3: drawn calls on one table, of few places and of many.
func TestDrawn(t *testing.T) {
	for seed := range uint64(60) {
		r, b := noise(10+seed), newBoth()
		limit := 1 << (1 + seed%10)
		for range 150 {
			switch r.IntN(5) {
			case 0, 1:
				b.put(t, drawn(r, limit)...)
			case 2:
				b.done(t, r.IntN(limit))
			case 3:
				if n := len(b.m.l); n > 0 {
					b.done(t, b.m.l[r.IntN(n)].At)
				}
			default:
				l := append(drawn(r, limit), api.Redo{At: -1 - r.IntN(limit), Word: 3})
				r.Shuffle(len(l), func(i, k int) { l[i], l[k] = l[k], l[i] })
				b.put(t, l...)
			}
			b.load(t, r.IntN(limit+2)-1)
		}
	}
}

// P17.4: storing all of List makes the media agree with what was loaded, and then the table is as good as an empty one.
func TestStored(t *testing.T) {
	const words = 64
	r := noise(2)
	for range 300 {
		media, a := make([]uint64, words), New()
		for at := range media {
			media[at] = r.Uint64()
		}
		for range r.IntN(12) {
			a.Put(drawn(r, words))
			a.Done(r.IntN(words))
		}
		loaded := make([]uint64, words)
		for at := range loaded {
			loaded[at] = a.Load(at, media[at])
		}
		l := a.List()
		for k, one := range l {
			if media[one.At] = one.Word; a.Done(one.At) != api.OK || a.Len() != len(l)-k-1 {
				t.Fatal(l, k, a.Len())
			}
			for at := range loaded {
				if w := a.Load(at, media[at]); w != loaded[at] {
					t.Fatal("it differs on the way", l, k, at, w)
				}
			}
		}
		if !slices.Equal(media, loaded) {
			t.Fatal(l, media, loaded)
		}
	}
}

// P17.4: the table tells no more than what was put last, whatever came ahead of it: the same table is told the same way.
func TestSame(t *testing.T) {
	r := noise(3)
	for range 200 {
		a, b := New(), New()
		for range 20 {
			l := drawn(r, 30)
			a.Put(l)
			at := r.IntN(30)
			if a.Done(at) == api.OK && r.IntN(2) == 0 {
				a.Put([]api.Redo{{At: at, Word: 1}})
			}
		}
		l := a.List()
		slices.Reverse(l)
		b.Put(l)
		if !slices.Equal(a.List(), b.List()) || a.Len() != b.Len() {
			t.Fatal(a.List(), b.List())
		}
	}
}

// R1: many places are no trouble.
func TestMany(t *testing.T) {
	const many = 1 << 16
	a := New()
	l := make([]api.Redo, many)
	for k := range l {
		l[k] = api.Redo{At: many - k, Word: uint64(k)}
	}
	if e := a.Put(l); e != api.OK || a.Len() != many {
		t.Fatal(e, a.Len())
	}
	slices.Reverse(l)
	if !slices.Equal(a.List(), l) {
		t.Error("the list is another one")
	}
	for _, r := range l {
		if e := a.Done(r.At); e != api.OK {
			t.Fatal(r, e)
		}
	}
	if n := a.Len(); n != 0 || len(a.List()) != 0 {
		t.Error(n)
	}
}
