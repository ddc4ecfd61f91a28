package lock

import (
	"fmt"
	"math"
	"math/rand/v2"
	"slices"
	"testing"

	"parclose/api"
)

// noise is a row of numbers that are the same in each run.
func noise(seed uint64) *rand.Rand {
	return rand.New(rand.NewPCG(seed, 18))
}

// odd are numbers that no table has a process or a lock of.
var odd = []int{math.MinInt, math.MinInt + 1, math.MinInt32, -129, -128, -17, -16, -2, -1,
	128, 129, 255, 256, math.MaxInt32, 1 << 32, 1<<32 + 1, math.MaxInt - 1, math.MaxInt}

// ask is a request that stands in a queue.
type ask struct{ p, id int }

// model is a table as the contracts tell it: all requests that were not freed since, in the order in which they were made.
type model struct {
	locks, procs int
	asks         []ask
}

func (m *model) queue(id int) []int {
	var queue []int
	for _, a := range m.asks {
		if a.id == id {
			queue = append(queue, a.p)
		}
	}
	return queue
}

func (m *model) holder(id int) (int, bool) {
	for _, a := range m.asks {
		if a.id == id {
			return a.p, true
		}
	}
	return 0, false
}

func (m *model) holds(p int) []int {
	var held []int
	for id := range m.locks {
		if who, ok := m.holder(id); ok && who == p {
			held = append(held, id)
		}
	}
	return held
}

// waits is all locks for which the process waits.
func (m *model) waits(p int) []int {
	var waits []int
	for id := range m.locks {
		if who, _ := m.holder(id); who != p && slices.Contains(m.asks, ask{p, id}) {
			waits = append(waits, id)
		}
	}
	return waits
}

func (m *model) want(p, id int) (bool, api.Errno) {
	if p < 0 || p >= m.procs || id < 0 || id >= m.locks {
		return false, 2
	}
	for _, held := range m.holds(p) {
		if held == id {
			return true, 0
		}
	}
	for _, held := range m.holds(p) {
		if held > id {
			return false, 6
		}
	}
	for _, other := range m.waits(p) {
		if other != id {
			return false, 6
		}
	}
	if !slices.Contains(m.asks, ask{p, id}) {
		m.asks = append(m.asks, ask{p, id})
	}
	who, _ := m.holder(id)
	return who == p, 0
}

func (m *model) free(p int) api.Errno {
	if p < 0 || p >= m.procs {
		return 2
	}
	var others []ask
	for _, a := range m.asks {
		if a.p != p {
			others = append(others, a)
		}
	}
	m.asks = others
	return 0
}

// both is a table, and its model.
type both struct {
	t *Table
	m model
}

func newBoth(t *testing.T, locks, procs int) *both {
	t.Helper()
	table, e := New(locks, procs)
	if e != api.OK || table == nil {
		t.Fatalf("New(%d, %d) = %v, %v", locks, procs, table, e)
	}
	return &both{t: table, m: model{locks: locks, procs: procs}}
}

// want holds Want to the contract, and returns what it returned.
func (b *both) want(t *testing.T, p, id int) (bool, api.Errno) {
	t.Helper()
	before := slices.Clone(b.m.asks)
	got, e := b.t.Want(p, id)
	if held, f := b.m.want(p, id); got != held || e != f {
		t.Fatalf("%v: Want(%d, %d) = %v, %v; want %v, %v", before, p, id, got, e, held, f)
	}
	b.agree(t)
	return got, e
}

// free holds Free to the contract, and returns what it returned.
func (b *both) free(t *testing.T, p int) api.Errno {
	t.Helper()
	before := slices.Clone(b.m.asks)
	e := b.t.Free(p)
	if f := b.m.free(p); e != f {
		t.Fatalf("%v: Free(%d) = %v; want %v", before, p, e, f)
	}
	b.agree(t)
	return e
}

// agree holds what the table tells to what the model has, also of locks and processes that there are not.
func (b *both) agree(t *testing.T) {
	t.Helper()
	for id := -2; id < b.m.locks+2; id++ {
		if got, want := b.t.Queue(id), b.m.queue(id); !slices.Equal(got, want) {
			t.Fatalf("%v: Queue(%d) = %v; want %v", b.m.asks, id, got, want)
		}
		who, ok := b.t.Holder(id)
		if p, has := b.m.holder(id); who != p || ok != has {
			t.Fatalf("%v: Holder(%d) = %d, %v; want %d, %v", b.m.asks, id, who, ok, p, has)
		}
	}
	for p := -2; p < b.m.procs+2; p++ {
		if got, want := b.t.Holds(p), b.m.holds(p); !slices.Equal(got, want) {
			t.Fatalf("%v: Holds(%d) = %v; want %v", b.m.asks, p, got, want)
		}
		id, ok := b.t.Waits(p)
		waits := b.m.waits(p)
		if len(waits) > 1 {
			t.Fatalf("%v: %d waits for several locks: %v", b.m.asks, p, waits)
		}
		if want := append(waits, 0)[0]; id != want || ok != (len(waits) > 0) {
			t.Fatalf("%v: Waits(%d) = %d, %v; want %v", b.m.asks, p, id, ok, waits)
		}
	}
}

// The chapter's examples, one behind the other.
func TestExamples(t *testing.T) {
	b, e := New(4, 3)
	if e != api.OK {
		t.Fatal(e)
	}
	want := func(p, id int, held bool, e api.Errno) {
		t.Helper()
		if got, f := b.Want(p, id); got != held || f != e {
			t.Errorf("Want(%d, %d) = %v, %v; want %v, %v", p, id, got, f, held, e)
		}
	}
	want(0, 1, true, api.OK)
	want(1, 0, true, api.OK)
	want(1, 1, false, api.OK)
	want(0, 0, false, api.ErrState)
	if id, ok := b.Waits(1); id != 1 || !ok {
		t.Error(id, ok)
	}
	if l := b.Queue(1); !slices.Equal(l, []int{0, 1}) {
		t.Error(l)
	}
	if l := b.Holds(1); !slices.Equal(l, []int{0}) {
		t.Error(l)
	}
	want(1, 2, false, api.ErrState)
	if e := b.Free(0); e != api.OK {
		t.Error(e)
	}
	want(1, 2, true, api.OK)
	if l := b.Holds(1); !slices.Equal(l, []int{0, 1, 2}) {
		t.Error(l)
	}
}

// P18.1: of each number of locks and processes that may be there is a table, all of whose queues are empty.
func TestNew(t *testing.T) {
	for locks := 1; locks <= 128; locks++ {
		for procs := 1; procs <= 16; procs++ {
			newBoth(t, locks, procs).agree(t)
		}
	}
}

// P18.1: a table has just so many locks and processes.
func TestNewSize(t *testing.T) {
	for locks := 1; locks <= 128; locks++ {
		for _, procs := range []int{1, 2, 15, 16} {
			b := newBoth(t, locks, procs)
			if got, e := b.t.Want(procs-1, locks-1); !got || e != api.OK {
				t.Error(locks, procs, got, e)
			}
			if got, e := b.t.Want(procs-1, locks); got || e != api.ErrArg {
				t.Error(locks, procs, got, e)
			}
			if got, e := b.t.Want(procs, locks-1); got || e != api.ErrArg {
				t.Error(locks, procs, got, e)
			}
		}
	}
}

// P18.1: other numbers are ErrArg, and there is no table then.
func TestNewWrong(t *testing.T) {
	wrong := func(locks, procs int) {
		t.Helper()
		if b, e := New(locks, procs); b != nil || e != api.ErrArg {
			t.Errorf("New(%d, %d) = %v, %v", locks, procs, b, e)
		}
	}
	for _, n := range append(slices.Clone(odd), 0) {
		if n == 128 {
			continue
		}
		for _, procs := range []int{1, 7, 16, 0, 17, n} {
			wrong(n, procs)
		}
	}
	for _, n := range append(slices.Clone(odd), 0, 17, 18, 127) {
		for _, locks := range []int{1, 7, 128, 0, 129} {
			wrong(locks, n)
		}
	}
}

// P18.1: each New returns a table of its own.
func TestNewApart(t *testing.T) {
	a, b := newBoth(t, 3, 2), newBoth(t, 3, 2)
	a.want(t, 0, 1)
	b.agree(t)
	b.want(t, 1, 1)
	b.want(t, 0, 1)
	a.agree(t)
	b.free(t, 1)
	a.agree(t)
}

// P18.2: a process or a lock that there is not is ErrArg, whatever the other one is, and nothing changes.
func TestWantWrong(t *testing.T) {
	for _, size := range []ask{{1, 1}, {3, 4}, {16, 128}} {
		b := newBoth(t, size.id, size.p)
		for range 2 {
			for _, n := range append(slices.Clone(odd), size.p) {
				if got, e := b.want(t, n, 0); got || e != api.ErrArg {
					t.Error(size, n, got, e)
				}
				if e := b.free(t, n); e != api.ErrArg {
					t.Error(size, n, e)
				}
			}
			for _, n := range append(slices.Clone(odd), size.id) {
				for _, p := range []int{0, size.p - 1, size.p, -1} {
					if got, e := b.want(t, p, n); got || e != api.ErrArg {
						t.Error(size, p, n, got, e)
					}
				}
			}
			b.want(t, 0, size.id-1)
			b.want(t, size.p-1, size.id-1)
		}
	}
}

// P18.2: of all pairs of locks, a process that holds the one gets the other, unless that is lower.
func TestWantAscending(t *testing.T) {
	const locks = 128
	table, _ := New(locks, 2)
	for first := range locks {
		for second := range locks {
			table.Want(1, first)
			got, e := table.Want(1, second)
			if second < first && (got || e != api.ErrState || len(table.Queue(second)) != 0) {
				t.Fatal(first, second, got, e, table.Queue(second))
			}
			if second >= first && (!got || e != api.OK || !slices.Equal(table.Queue(second), []int{1})) {
				t.Fatal(first, second, got, e, table.Queue(second))
			}
			table.Free(1)
		}
	}
}

// P18.2: a lower lock is refused also where somebody else has it, and where a greater one is not the last that was asked for.
func TestWantLower(t *testing.T) {
	b := newBoth(t, 8, 2)
	b.want(t, 0, 1)
	for _, id := range []int{2, 4, 6} {
		b.want(t, 1, id)
	}
	for _, id := range []int{0, 1, 3, 5} {
		if got, e := b.want(t, 1, id); got || e != api.ErrState {
			t.Error(id, got, e)
		}
	}
	if got, e := b.want(t, 1, 7); !got || e != api.OK {
		t.Error(got, e)
	}
}

// P18.2: who holds a lock is told so again, with greater ones and while it waits for another one.
func TestWantHeld(t *testing.T) {
	b := newBoth(t, 6, 3)
	b.want(t, 1, 4)
	for _, id := range []int{0, 2, 3} {
		b.want(t, 0, id)
		b.want(t, 2, id)
		b.free(t, 2)
	}
	for range 2 {
		for _, id := range []int{3, 0, 2} {
			if got, e := b.want(t, 0, id); !got || e != api.OK {
				t.Error(id, got, e)
			}
		}
		b.want(t, 0, 4)
	}
	if l := b.t.Holds(0); !slices.Equal(l, []int{0, 2, 3}) {
		t.Error(l)
	}
}

// P18.2: who waits is refused each other lock, lower and greater, taken and free, but those that it holds.
func TestWantWaits(t *testing.T) {
	b := newBoth(t, 6, 3)
	b.want(t, 0, 1)
	b.want(t, 1, 3)
	b.want(t, 0, 5)
	b.want(t, 2, 2)
	b.want(t, 2, 3)
	for range 2 {
		for _, id := range []int{0, 1, 4, 5} {
			if got, e := b.want(t, 2, id); got || e != api.ErrState {
				t.Error(id, got, e)
			}
		}
		if got, e := b.want(t, 2, 2); !got || e != api.OK {
			t.Error(got, e)
		}
		if got, e := b.want(t, 2, 3); got || e != api.OK {
			t.Error(got, e)
		}
	}
	if id, ok := b.t.Waits(2); id != 3 || !ok {
		t.Error(id, ok)
	}
}

// P18.2: a process that asks for nothing else may ask for each lock, and wait for each one.
func TestWantEach(t *testing.T) {
	b := newBoth(t, 128, 2)
	for id := range 128 {
		b.want(t, 0, id)
	}
	for id := range 128 {
		if got, e := b.want(t, 1, id); got || e != api.OK {
			t.Error(id, got, e)
		}
		if waits, ok := b.t.Waits(1); waits != id || !ok {
			t.Error(id, waits, ok)
		}
		b.free(t, 1)
	}
}

// P18.2: a queue is in the order of the requests, and who asks again keeps its place.
func TestWantPlace(t *testing.T) {
	r := noise(1)
	for range 30 {
		b, order := newBoth(t, 3, 16), r.Perm(16)
		for k, p := range order {
			for _, again := range order[:k+1] {
				got, e := b.want(t, again, 1)
				if got != (again == order[0]) || e != api.OK {
					t.Fatal(order, p, again, got, e)
				}
			}
			for _, again := range order[:k] {
				b.want(t, again, 1)
			}
		}
		if l := b.t.Queue(1); !slices.Equal(l, order) {
			t.Fatal(l, order)
		}
	}
}

// P18.3: a process leaves all queues at once, those of locks that it holds and the one in which it waits, from each place in them.
func TestFree(t *testing.T) {
	for gone := range 5 {
		b := newBoth(t, 6, 6)
		for p := range 5 {
			b.want(t, p, 3)
		}
		b.want(t, 0, 5)
		if e := b.free(t, gone); e != api.OK {
			t.Fatal(gone, e)
		}
		want := slices.DeleteFunc([]int{0, 1, 2, 3, 4}, func(p int) bool { return p == gone })
		if l := b.t.Queue(3); !slices.Equal(l, want) {
			t.Error(gone, l)
		}
		if id, ok := b.t.Waits(gone); id != 0 || ok || len(b.t.Holds(gone)) != 0 {
			t.Error(gone, id, ok, b.t.Holds(gone))
		}
		if b.want(t, gone, 0); len(b.t.Holds(gone)) != 1 {
			t.Error("it is not free to begin anew", gone)
		}
	}
	b := newBoth(t, 6, 2)
	b.want(t, 1, 5)
	for _, id := range []int{0, 1, 4, 5} {
		b.want(t, 0, id)
	}
	if b.free(t, 0); len(b.t.Holds(0)) != 0 || len(b.t.Queue(5)) != 1 {
		t.Error(b.t.Holds(0), b.t.Queue(5))
	}
}

// P18.3: who stands in no queue can be freed, too.
func TestFreeNone(t *testing.T) {
	b := newBoth(t, 2, 16)
	for range 2 {
		for p := range 16 {
			if e := b.free(t, p); e != api.OK {
				t.Error(p, e)
			}
		}
	}
	b.want(t, 3, 1)
	for p := range 16 {
		if p != 3 {
			b.free(t, p)
		}
	}
	if l := b.t.Queue(1); !slices.Equal(l, []int{3}) {
		t.Error(l)
	}
}

// P18.3, P18.4: a freed lock goes to the one that waits first, which then holds it, and waits no more.
func TestFreeNext(t *testing.T) {
	b := newBoth(t, 4, 16)
	for p := range 16 {
		b.want(t, p, 2)
	}
	for p := range 15 {
		b.free(t, p)
		if who, ok := b.t.Holder(2); who != p+1 || !ok {
			t.Error(p, who, ok)
		}
		if id, ok := b.t.Waits(p + 1); id != 0 || ok {
			t.Error(p, id, ok)
		}
		if got, e := b.want(t, p+1, 3); !got || e != api.OK {
			t.Error(p, got, e)
		}
		b.want(t, p, 2)
	}
	if l := b.t.Queue(2); l[0] != 15 || len(l) != 16 {
		t.Error(l)
	}
}

// P18.4: of locks and processes that there are not, there is nothing to tell.
func TestTellWrong(t *testing.T) {
	b := newBoth(t, 2, 2)
	for range 2 {
		for _, n := range append(slices.Clone(odd), 2, 3) {
			if who, ok := b.t.Holder(n); who != 0 || ok {
				t.Error(n, who, ok)
			}
			if id, ok := b.t.Waits(n); id != 0 || ok {
				t.Error(n, id, ok)
			}
			if held, queue := b.t.Holds(n), b.t.Queue(n); len(held) != 0 || len(queue) != 0 {
				t.Error(n, held, queue)
			}
		}
		b.want(t, 1, 0)
		b.want(t, 0, 0)
		b.want(t, 1, 1)
	}
}

// P18.4: the process 0 and the lock 0 are told apart from none.
func TestTellZero(t *testing.T) {
	b := newBoth(t, 1, 2)
	b.want(t, 0, 0)
	if who, ok := b.t.Holder(0); who != 0 || !ok {
		t.Error(who, ok)
	}
	b.want(t, 1, 0)
	if id, ok := b.t.Waits(1); id != 0 || !ok {
		t.Error(id, ok)
	}
	b.free(t, 1)
	b.free(t, 0)
	if who, ok := b.t.Holder(0); who != 0 || ok {
		t.Error(who, ok)
	}
}

// P18.4, R5: what is told is new memory each time, and stays as it is when the table changes.
func TestMemory(t *testing.T) {
	b := newBoth(t, 3, 4)
	for p := range 3 {
		b.want(t, p, 1)
	}
	b.want(t, 0, 2)
	queue, held := b.t.Queue(1), b.t.Holds(0)
	queue[0], held[0] = 3, 0
	_, _ = append(queue[:1], 3), append(held[:1], 0)
	b.agree(t)
	queue, held = b.t.Queue(1), b.t.Holds(0)
	more := append(queue, 7)
	b.want(t, 3, 1)
	b.agree(t)
	if more[3] != 7 {
		t.Error(more)
	}
	b.free(t, 0)
	b.free(t, 1)
	if !slices.Equal(queue, []int{0, 1, 2}) || !slices.Equal(held, []int{1, 2}) {
		t.Error("what was told changed with the table", queue, held)
	}
}

// P18.4: what tells changes nothing.
func TestTellOnly(t *testing.T) {
	b := newBoth(t, 3, 3)
	b.want(t, 2, 0)
	b.want(t, 1, 0)
	for range 3 {
		b.agree(t)
	}
}

// R3: of nil, Want and Free return ErrNil, also where an argument is wrong; the others are zero.
func TestNil(t *testing.T) {
	var b *Table
	for _, p := range append(slices.Clone(odd), 0, 1, 15) {
		for _, id := range append(slices.Clone(odd), 0, 1, 127) {
			if got, e := b.Want(p, id); got || e != api.ErrNil {
				t.Error(p, id, got, e)
			}
			if who, ok := b.Holder(id); who != 0 || ok || len(b.Queue(id)) != 0 {
				t.Error(id, who, ok, b.Queue(id))
			}
		}
		if e := b.Free(p); e != api.ErrNil {
			t.Error(p, e)
		}
		if id, ok := b.Waits(p); id != 0 || ok || len(b.Holds(p)) != 0 {
			t.Error(p, id, ok, b.Holds(p))
		}
	}
}

// runs tells whether the process holds a lock, and does not wait.
func (b *both) runs(p int) bool {
	_, waits := b.t.Waits(p)
	return !waits && len(b.t.Holds(p)) > 0
}

// runners is all processes that hold a lock, and do not wait.
func (b *both) runners() []int {
	var l []int
	for p := range b.m.procs {
		if b.runs(p) {
			l = append(l, p)
		}
	}
	return l
}

// queues is all queues.
func (b *both) queues() [][]int {
	var l [][]int
	for id := range b.m.locks {
		l = append(l, b.t.Queue(id))
	}
	return l
}

// drain frees those that do not wait, one by one as pick chooses, and holds to P18.5 how the locks go from one to the next.
func (b *both) drain(t *testing.T, pick func(n int) int) {
	t.Helper()
	queues := b.queues()
	for range b.m.procs {
		l := b.runners()
		if len(l) == 0 {
			break
		}
		p := l[pick(len(l))]
		for id, queue := range queues {
			if slices.Contains(queue, p) && queue[0] != p {
				t.Fatalf("%d got %d ahead of others: %v", p, id, queue)
			}
			queues[id] = slices.DeleteFunc(queue, func(who int) bool { return who == p })
		}
		b.free(t, p)
	}
	for id, queue := range b.queues() {
		if len(queue) != 0 {
			t.Fatalf("lock %d is never free: %v", id, queue)
		}
	}
}

// waiting tells whether some process waits.
func (b *both) waiting() bool {
	for p := range b.m.procs {
		if _, ok := b.t.Waits(p); ok {
			return true
		}
	}
	return false
}

// again is a new table that was called so: of a lock that is -1, Free was.
func again(t *testing.T, locks, procs int, calls []ask) *both {
	t.Helper()
	b := newBoth(t, locks, procs)
	for _, c := range calls {
		if c.id < 0 {
			b.t.Free(c.p)
			b.m.free(c.p)
		} else {
			b.t.Want(c.p, c.id)
			b.m.want(c.p, c.id)
		}
	}
	return b
}

// P18.2 to P18.5: each call in each state that calls lead to, of some small tables.
func TestAll(t *testing.T) {
	for _, size := range []ask{{1, 3}, {2, 1}, {2, 4}, {3, 1}, {3, 3}, {4, 2}} {
		procs, locks := size.p, size.id
		states := [][]ask{nil}
		seen := map[string]bool{fmt.Sprint(newBoth(t, locks, procs).queues()): true}
		for k := 0; k < len(states); k++ {
			for p := range procs {
				for id := -1; id < locks; id++ {
					b := again(t, locks, procs, states[k])
					if id < 0 {
						b.free(t, p)
					} else {
						b.want(t, p, id)
					}
					name := fmt.Sprint(b.queues())
					if seen[name] {
						continue
					}
					seen[name] = true
					states = append(states, append(slices.Clone(states[k]), ask{p, id}))
					if b.waiting() && len(b.runners()) == 0 {
						t.Fatalf("all wait: %v", b.queues())
					}
					b.drain(t, func(n int) int { return (k + p) % n })
				}
			}
		}
		if len(states) < 1<<locks {
			t.Error("too few states", size, len(states))
		}
	}
}

// P18.2 to P18.5: drawn calls on tables of all sizes.
func TestDrawn(t *testing.T) {
	for seed := range uint64(120) {
		r := noise(10 + seed)
		locks, procs := 1+r.IntN(128), 1+r.IntN(16)
		if seed%2 == 0 {
			locks = 1 + r.IntN(6)
		}
		b := newBoth(t, locks, procs)
		for range 150 {
			switch p := r.IntN(procs+2) - 1; r.IntN(8) {
			case 0:
				b.free(t, p)
			case 1:
				b.want(t, p, r.IntN(locks+4)-2)
			default:
				id := r.IntN(locks)
				if l := b.m.holds(p); len(l) > 0 && r.IntN(4) > 0 {
					id = min(locks-1, l[len(l)-1]+1+r.IntN(2))
				}
				b.want(t, p, id)
			}
			if b.waiting() && len(b.runners()) == 0 {
				t.Fatalf("all wait: %v", b.queues())
			}
		}
		b.drain(t, r.IntN)
	}
}

// worker is a process that asks for locks one by one, and is freed when it has them all.
type worker struct {
	needs []int // in ascending order
	has   int   // how many of them it was told that it holds
	done  bool
}

// pick lets the process p do one thing.
func (w *worker) pick(t *testing.T, b *both, p int) {
	t.Helper()
	switch {
	case w.done:
	case w.has == len(w.needs):
		b.free(t, p)
		w.done = true
	default:
		got, e := b.want(t, p, w.needs[w.has])
		if e != api.OK {
			t.Fatal(p, w.needs, w.has, e)
		}
		if got {
			w.has++
		}
	}
}

// P18.5: each process gets all locks for which it waits, and each lock goes from one to the next in the order of the requests.
func TestProgress(t *testing.T) {
	const locks, procs = 5, 16
	for seed := range uint64(60) {
		r, b := noise(500+seed), newBoth(t, locks, procs)
		var workers [procs]worker
		for p := range workers {
			for id := range locks {
				if r.IntN(2) == 0 {
					workers[p].needs = append(workers[p].needs, id)
				}
			}
		}
		var asked, held [locks][]int
		for left, picks := procs, 0; left > 0; picks++ {
			if picks > 100_000 {
				t.Fatal("somebody never gets its locks", b.queues())
			}
			p := r.IntN(procs)
			was := workers[p].done
			workers[p].pick(t, b, p)
			if workers[p].done && !was {
				left--
			}
			for id := range locks {
				if slices.Contains(b.t.Queue(id), p) && !slices.Contains(asked[id], p) {
					asked[id] = append(asked[id], p)
				}
				if who, ok := b.t.Holder(id); ok && !slices.Contains(held[id], who) {
					held[id] = append(held[id], who)
				}
			}
		}
		for id := range locks {
			if !slices.Equal(asked[id], held[id]) {
				t.Fatal(id, asked[id], held[id])
			}
		}
	}
}
