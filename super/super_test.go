package super

import (
	"encoding/binary"
	"errors"
	"hash/crc32"
	"math"
	"math/bits"
	"math/rand/v2"
	"slices"
	"testing"

	"parclose/api"
	"parclose/sum"
)

const name = 0x65736F6C63726170 // the bytes of parclose, from the lowest on

// some is the chapter's geometry.
var some = api.Geom{Procs: 3, Inodes: 5, Blocks: 9}

// noise is a row of numbers that are the same in each run.
func noise(seed uint64) *rand.Rand {
	return rand.New(rand.NewPCG(seed, 5))
}

// sealed is the words and their seal, as the definition of layer 2 tells it.
func sealed(l ...uint64) []uint64 {
	var b []byte
	for _, w := range l {
		b = binary.LittleEndian.AppendUint64(b, w)
	}
	c := crc32.ChecksumIEEE(b)
	return append(slices.Clone(l), uint64(c)|uint64(^c)<<32)
}

// fields is word 1 of these numbers, none of which is cut to its field.
func fields(procs, inodes, blocks, mark uint64) uint64 {
	return procs | inodes<<16 | blocks<<32 | mark<<48
}

// defined is the words of a superblock, as the chapter's definition tells them.
func defined(g api.Geom, high bool) []uint64 {
	mark := uint64(0)
	if high {
		mark = 1
	}
	return sealed(name, fields(uint64(g.Procs), uint64(g.Inodes), uint64(g.Blocks), mark), 0, 0, 0, 0, 0)
}

// edges are the valid geometries all of whose numbers are the least, the greatest, or next to them, and the chapter's.
func edges() []api.Geom {
	l := []api.Geom{some}
	for _, procs := range []int{1, 2, 7, 8} {
		for _, inodes := range []int{2, 3, 63, 64} {
			for _, blocks := range []int{4, 5, 254, 255} {
				l = append(l, api.Geom{Procs: procs, Inodes: inodes, Blocks: blocks})
			}
		}
	}
	return l
}

// labels are Low's and High's.
func labels() []bool {
	return []bool{false, true}
}

// accepted holds that the words are the superblock of g.
func accepted(t *testing.T, l []uint64, g api.Geom, high bool) {
	t.Helper()
	was := slices.Clone(l)
	got, is, err := Decode(l)
	if got != g || is != high || err != nil {
		t.Fatalf("Decode(%#x) = %v, %v, %v; want %v, %v", l, got, is, err, g, high)
	}
	if !slices.Equal(l, was) {
		t.Fatalf("%#x was turned to %#x", was, l)
	}
}

// refused holds that the words are no superblock, that their fault is told at that word, and that nothing else is told.
func refused(t *testing.T, l []uint64, at int) {
	t.Helper()
	was := slices.Clone(l)
	g, high, err := Decode(l)
	var f api.Fault
	if g != (api.Geom{}) || high || !errors.As(err, &f) || f != (api.Fault{At: at, Err: api.ErrForm}) {
		t.Fatalf("Decode(%#x) = %v, %v, %v; want a fault at %d", l, g, high, err, at)
	}
	if !slices.Equal(l, was) {
		t.Fatalf("%#x was turned to %#x", was, l)
	}
}

// P5.1, P5.3: the words of each valid geometry are the defined ones, and are decoded to it.
func TestAllValid(t *testing.T) {
	for procs := 1; procs <= 8; procs++ {
		for inodes := 2; inodes <= 64; inodes++ {
			for blocks := 4; blocks <= 255; blocks++ {
				g := api.Geom{Procs: procs, Inodes: inodes, Blocks: blocks}
				for _, high := range labels() {
					l, e := Encode(g, high)
					if !slices.Equal(l, defined(g, high)) || e != api.OK {
						t.Fatalf("Encode(%v, %v) = %#x, %v; want %#x", g, high, l, e, defined(g, high))
					}
					accepted(t, l, g, high)
				}
			}
		}
	}
}

// P5.1: a geometry with any number that may not be has no superblock, also where the number's lowest bits, or the numbers together, look like a valid one.
func TestNotValid(t *testing.T) {
	odd := []int{math.MinInt, math.MinInt + 4, math.MinInt32, -65536 + 4, -256, -4, -1, 0, 256, 257, 1<<16 + 4, 1<<32 + 4, 1<<48 + 4, math.MaxInt - 1, math.MaxInt}
	for _, g := range edges() {
		var l []api.Geom
		for _, n := range append([]int{9, 10, 64, 255}, odd...) {
			l = append(l, api.Geom{Procs: n, Inodes: g.Inodes, Blocks: g.Blocks})
		}
		for _, n := range append([]int{1, 65, 66, 255}, odd...) {
			l = append(l, api.Geom{Procs: g.Procs, Inodes: n, Blocks: g.Blocks})
		}
		for _, n := range append([]int{1, 2, 3}, odd...) {
			l = append(l, api.Geom{Procs: g.Procs, Inodes: g.Inodes, Blocks: n})
		}
		for _, x := range append(l, api.Geom{}, api.Geom{Procs: 9, Inodes: 65, Blocks: 256}) {
			for _, high := range labels() {
				if got, e := Encode(x, high); len(got) != 0 || e != api.ErrArg {
					t.Fatalf("Encode(%v, %v) = %#x, %v", x, high, got, e)
				}
			}
		}
	}
}

// P5.1 and R5: words that were encoded share nothing with those that are encoded later.
func TestNewWords(t *testing.T) {
	first, _ := Encode(some, true)
	clear(first)
	clear(first[:cap(first)])
	second, e := Encode(some, true)
	if !slices.Equal(second, defined(some, true)) || e != api.OK {
		t.Errorf("Encode = %#x, %v", second, e)
	}
}

// P5.2: there are eight words, no fewer and no more, whatever they are.
func TestLength(t *testing.T) {
	refused(t, nil, 0)
	refused(t, []uint64{}, 0)
	for _, high := range labels() {
		l := append(defined(some, high), defined(some, !high)...)
		for n := range len(l) + 1 {
			if n != 8 {
				refused(t, l[:n:n], 0)
			}
		}
		accepted(t, l[:8], some, high)
		accepted(t, l[8:], some, !high)
	}
	// Sealed well, but by one word too few, or too many.
	w := fields(3, 5, 9, 0)
	refused(t, sealed(name), 0)
	refused(t, sealed(name, w), 0)
	refused(t, sealed(name, w, 0, 0, 0, 0), 0)
	refused(t, sealed(name, w, 0, 0, 0, 0, 0, 0), 0)
	refused(t, append(defined(some, false), 0), 0)
	refused(t, make([]uint64, 1000), 0)
}

// P5.2: word 0 is the name to the last bit, also if the seal fits.
func TestName(t *testing.T) {
	other := []uint64{0, 1, math.MaxUint64, bits.ReverseBytes64(name), name &^ 0xFF, name ^ 0x20, name + 1}
	for at := range 64 {
		other = append(other, name^1<<at)
	}
	for _, w := range other {
		l := defined(some, false)
		l[0] = w
		refused(t, l, 0)
		refused(t, sealed(l[:7]...), 0)
	}
}

// P5.2: word 7 is the seal to the last bit.
func TestSeal(t *testing.T) {
	for _, g := range edges() {
		for _, high := range labels() {
			l := defined(g, high)
			was := l[7]
			for at := range 64 {
				l[7] = was ^ 1<<at
				refused(t, l, 7)
			}
			for _, w := range []uint64{0, 1, math.MaxUint64, ^was, bits.RotateLeft64(was, 32), was &^ math.MaxUint32, was & math.MaxUint32, defined(g, !high)[7]} {
				l[7] = w
				refused(t, l, 7)
			}
		}
	}
}

// P5.2: each number of word 1 may be what a valid geometry has, and nothing else.
func TestNumbers(t *testing.T) {
	for _, high := range labels() {
		mark := uint64(0)
		if high {
			mark = 1
		}
		for n := range 1 << 16 {
			v := uint64(n)
			for _, x := range []struct {
				w  uint64
				is bool
				g  api.Geom
			}{
				{fields(v, 5, 9, mark), n >= 1 && n <= 8, api.Geom{Procs: n, Inodes: 5, Blocks: 9}},
				{fields(3, v, 9, mark), n >= 2 && n <= 64, api.Geom{Procs: 3, Inodes: n, Blocks: 9}},
				{fields(3, 5, v, mark), n >= 4 && n <= 255, api.Geom{Procs: 3, Inodes: 5, Blocks: n}},
			} {
				l := sealed(name, x.w, 0, 0, 0, 0, 0)
				if x.is {
					accepted(t, l, x.g, high)
				} else {
					refused(t, l, 1)
				}
			}
		}
	}
}

// P5.2: the bits of word 1 behind the mark are 0, each and all.
func TestRest(t *testing.T) {
	for _, g := range edges() {
		for _, high := range labels() {
			w := defined(g, high)[1]
			for at := 49; at < 64; at++ {
				refused(t, sealed(name, w|1<<at, 0, 0, 0, 0, 0), 1)
			}
			refused(t, sealed(name, w|0x7FFF<<49, 0, 0, 0, 0, 0), 1)
		}
	}
	w := fields(3, 5, 9, 0)
	for rest := uint64(1); rest < 1<<15; rest++ {
		refused(t, sealed(name, w|rest<<49, 0, 0, 0, 0, 0), 1)
	}
}

// P5.2: words 2 to 6 are 0, and the first one that is not is told.
func TestZeros(t *testing.T) {
	for _, high := range labels() {
		w := defined(some, high)[1]
		for first := 2; first <= 6; first++ {
			for at := range 64 {
				for set := range 1 << (6 - first) {
					l := []uint64{name, w, 0, 0, 0, 0, 0}
					l[first] = 1 << at
					for k := range 6 - first {
						l[first+1+k] = uint64(set >> k & 1)
					}
					refused(t, sealed(l...), first)
				}
			}
		}
	}
}

// P5.2: of several faults the one that the contract names first is told: at 0, at 7, at 1, then from 2 on.
func TestOrder(t *testing.T) {
	order := []int{0, 7, 1, 2, 3, 4, 5, 6}
	odd := []uint64{0, fields(0, 5, 9, 0), fields(3, 1, 9, 1), fields(3, 5, 256, 0), fields(3, 5, 9, 2), 1<<63 | fields(3, 5, 9, 1), math.MaxUint64}
	for set := 1; set < 1<<8; set++ {
		for _, w := range odd {
			l := []uint64{name, fields(3, 5, 9, 1), 0, 0, 0, 0, 0}
			for at := range 7 {
				switch {
				case set>>at&1 == 0:
				case at == 1:
					l[at] = w
				default:
					l[at] ^= 1
				}
			}
			l = sealed(l...)
			if set>>7 == 1 {
				l[7] ^= 1 << 40
			}
			first := slices.IndexFunc(order, func(at int) bool { return set>>at&1 == 1 })
			refused(t, l, order[first])
			refused(t, l[:7], 0)
			refused(t, append(l, 0), 0)
		}
	}
}

// The fault is told by an error of its own kind, which wraps the fault, which wraps the number.
func TestWrapped(t *testing.T) {
	short := defined(some, false)[:7]
	long := sealed(name, fields(3, 5, 9, 0), 0, 0, 7, 0, 0)
	for at, l := range map[int][]uint64{0: short, 4: long} {
		_, _, err := Decode(l)
		if _, bare := err.(api.Fault); bare || err == nil {
			t.Fatalf("Decode(%#x): %T", l, err)
		}
		if f := errors.Unwrap(err); f != (api.Fault{At: at, Err: api.ErrForm}) {
			t.Errorf("Decode(%#x): the error wraps %v", l, f)
		}
		if !errors.Is(err, api.ErrForm) || errors.Is(err, api.ErrArg) || err.Error() == "" {
			t.Errorf("Decode(%#x): %v", l, err)
		}
	}
}

// P5.3: whatever is a superblock is what its geometry and its label are encoded to; the words are drawn near to such ones.
func TestDrawn(t *testing.T) {
	n := noise(1)
	good := 0
	for range 200_000 {
		l := []uint64{name, fields(n.Uint64N(10), n.Uint64N(67), n.Uint64N(258), n.Uint64N(2)), 0, 0, 0, 0, 0}
		if n.IntN(4) == 0 {
			l[n.IntN(7)] ^= 1 << n.IntN(64)
		}
		l = sealed(l...)
		g, high, err := Decode(l)
		if err != nil {
			continue
		}
		good++
		if again, e := Encode(g, high); !slices.Equal(again, l) || e != api.OK {
			t.Fatalf("%#x is decoded to %v, %v, which is encoded to %#x, %v", l, g, high, again, e)
		}
	}
	if good < 10_000 {
		t.Errorf("only %d superblocks were drawn", good)
	}
}

// flip is l with the bits of the pattern flipped, from bit at on.
func flip(l []uint64, at int, pattern uint32) []uint64 {
	l = slices.Clone(l)
	l[at/64] ^= uint64(pattern) << (at % 64)
	if at%64 > 32 && at/64 < 7 {
		l[at/64+1] ^= uint64(pattern) >> (64 - at%64)
	}
	return l
}

// P5.3: with some of 32 consecutive bits flipped it is no superblock: a fault of the name is told at 0, any other one by the seal.
func TestFlipped(t *testing.T) {
	n := noise(2)
	for _, g := range []api.Geom{some, {Procs: 1, Inodes: 2, Blocks: 4}, {Procs: 8, Inodes: 64, Blocks: 255}} {
		for _, high := range labels() {
			l := defined(g, high)
			for at := range 512 {
				most := uint32(math.MaxUint32)
				if at > 512-32 {
					most >>= at - (512 - 32)
				}
				patterns := []uint32{1, math.MaxUint32}
				for k := 1; k < 32; k++ {
					patterns = append(patterns, 1|1<<k, 1<<k-1)
				}
				for range 20 {
					patterns = append(patterns, n.Uint32()|1)
				}
				for _, p := range patterns {
					x := flip(l, at, p&most)
					if x[0] != name {
						refused(t, x, 0)
					} else {
						refused(t, x, 7)
					}
				}
			}
		}
	}
}

// The chapter's examples.
func TestExamples(t *testing.T) {
	l, e := Encode(some, true)
	want := []uint64{0x65736F6C63726170, 0x0001000900050003, 0, 0, 0, 0, 0}
	if !slices.Equal(l, sum.Seal(want)) || e != api.OK {
		t.Errorf("Encode = %#x, %v", l, e)
	}
	refused(t, make([]uint64, 8), 0)
	refused(t, make([]uint64, 7), 0)
}
