package inode

import (
	"encoding/binary"
	"errors"
	"hash/crc32"
	"math"
	"math/bits"
	"math/rand/v2"
	"slices"
	"testing"

	"parclose/api"
	"parclose/sum"
)

// some is a geometry whose numbers are all different.
var some = api.Geom{Procs: 3, Inodes: 5, Blocks: 9}

// noise is a row of numbers that are the same in each run.
func noise(seed uint64) *rand.Rand {
	return rand.New(rand.NewPCG(seed, 6))
}

// sealed is the words and their seal, as the definition of layer 2 tells it.
func sealed(l ...uint64) []uint64 {
	var b []byte
	for _, w := range l {
		b = binary.LittleEndian.AppendUint64(b, w)
	}
	c := crc32.ChecksumIEEE(b)
	return append(slices.Clone(l), uint64(c)|uint64(^c)<<32)
}

// head is word 0 of these numbers, none of which is cut to its field.
func head(kind, links, gen uint64) uint64 {
	return kind | links<<8 | gen<<32
}

// defined is the words of a record, as the chapter's definition tells them.
func defined(x api.Inode) []uint64 {
	body := uint64(x.Map)
	if x.Kind == api.KindDir {
		body = uint64(x.Heads[0]) | uint64(x.Heads[1])<<8 | uint64(x.Heads[2])<<16 | uint64(x.Heads[3])<<24
	}
	return sealed(head(uint64(x.Kind), uint64(x.Links), uint64(x.Gen)), uint64(x.Size), uint64(x.Attr), body, uint64(x.Parent), uint64(x.Mtime), uint64(x.Ctime))
}

// geometries are valid ones, up to the least and the greatest.
func geometries() []api.Geom {
	return []api.Geom{some, {Procs: 1, Inodes: 2, Blocks: 4}, {Procs: 8, Inodes: 64, Blocks: 255}, {Procs: 2, Inodes: 64, Blocks: 4}, {Procs: 8, Inodes: 2, Blocks: 128}}
}

// kinds are all that there are.
func kinds() []uint8 {
	return []uint8{0, api.KindFile, api.KindDir, api.KindLink}
}

// part is a number of a record: the word that has it, which ones it may be for each kind, and how it is told to a record (false: a record cannot have that number).
type part struct {
	name        string
	word        int
	least, most [4]int64
	set         func(x *api.Inode, v int64) bool
}

// whole sets a number that an int has.
func whole(at func(x *api.Inode) *int) func(x *api.Inode, v int64) bool {
	return func(x *api.Inode, v int64) bool {
		*at(x) = int(v)
		return true
	}
}

// long sets a number that an int64 has.
func long(at func(x *api.Inode) *int64) func(x *api.Inode, v int64) bool {
	return func(x *api.Inode, v int64) bool {
		*at(x) = v
		return true
	}
}

// parts are all numbers of a record but its Kind, as the chapter's definition tells them: each in a row of free, file, directory, link.
func parts(g api.Geom) []part {
	blocks, inodes := int64(g.Blocks), int64(g.Inodes)
	time := int64(1 << 40)
	l := []part{
		{"Links", 0, [4]int64{}, [4]int64{0, 8, 1, 8}, whole(func(x *api.Inode) *int { return &x.Links })},
		{"Gen", 0, [4]int64{}, [4]int64{math.MaxUint32, math.MaxUint32, math.MaxUint32, math.MaxUint32}, func(x *api.Inode, v int64) bool {
			x.Gen = uint32(v)
			return int64(x.Gen) == v
		}},
		{"Size", 1, [4]int64{0, 0, 0, 1}, [4]int64{0, 8192, 4096, 64}, long(func(x *api.Inode) *int64 { return &x.Size })},
		{"Attr", 2, [4]int64{0, 1, 1, 1}, [4]int64{0, blocks, blocks, blocks}, whole(func(x *api.Inode) *int { return &x.Attr })},
		{"Map", 3, [4]int64{0, 0, 0, 1}, [4]int64{0, blocks, 0, blocks}, whole(func(x *api.Inode) *int { return &x.Map })},
		{"Parent", 4, [4]int64{0, 0, 1, 0}, [4]int64{0, 0, inodes, 0}, whole(func(x *api.Inode) *int { return &x.Parent })},
		{"Mtime", 5, [4]int64{}, [4]int64{0, time, time, time}, long(func(x *api.Inode) *int64 { return &x.Mtime })},
		{"Ctime", 6, [4]int64{}, [4]int64{0, time, time, time}, long(func(x *api.Inode) *int64 { return &x.Ctime })},
	}
	for k := range 4 {
		l = append(l, part{"Heads", 3, [4]int64{}, [4]int64{0, 0, blocks, 0}, whole(func(x *api.Inode) *int { return &x.Heads[k] })})
	}
	return l
}

// samples are valid records of that kind: the least one, the greatest one, and some between.
func samples(kind uint8, g api.Geom, n *rand.Rand) []api.Inode {
	l := make([]api.Inode, 6)
	for k := range l {
		l[k].Kind = kind
		for _, p := range parts(g) {
			least, most := p.least[kind], p.most[kind]
			switch k {
			case 0:
				p.set(&l[k], least)
			case 1:
				p.set(&l[k], most)
			default:
				p.set(&l[k], least+n.Int64N(most-least+1))
			}
		}
	}
	return l
}

// numbers are those that a part is tried with: its bounds and what is next to them, and what is like them in its lowest bits.
func numbers(least, most int64) []int64 {
	l := []int64{math.MinInt64, math.MinInt64 + 1, math.MinInt32, -256, -1, 0, 1, 2, 3, 4, 5, 8, 9, 10, 63, 64, 65, 255, 256, 257, 4095, 4096, 4097, 8191, 8192, 8193, 1<<16 + 1, 1<<32 - 1, 1 << 32, 1<<32 + 1, 1<<40 - 1, 1 << 40, 1<<40 + 1, 1<<56 + 1, math.MaxInt64 - 1, math.MaxInt64}
	for _, n := range []int64{least, most} {
		l = append(l, n-1, n, n+1, n+256, n+1<<16, n+1<<32, n+math.MinInt64, -n)
	}
	return l
}

// accepted holds that the record is valid, and that it has these words and they are it.
func accepted(t *testing.T, x api.Inode, l []uint64, g api.Geom) {
	t.Helper()
	if !May(x, g) {
		t.Fatalf("May(%+v, %v) = false", x, g)
	}
	if got, e := Encode(x, g); !slices.Equal(got, l) || e != api.OK {
		t.Fatalf("Encode(%+v, %v) = %#x, %v; want %#x", x, g, got, e, l)
	}
	was := slices.Clone(l)
	if got, err := Decode(l, g); got != x || err != nil {
		t.Fatalf("Decode(%#x, %v) = %+v, %v; want %+v", l, g, got, err, x)
	}
	if !slices.Equal(l, was) {
		t.Fatalf("%#x was turned to %#x", was, l)
	}
}

// no holds that the record is not valid.
func no(t *testing.T, x api.Inode, g api.Geom) {
	t.Helper()
	if May(x, g) {
		t.Fatalf("May(%+v, %v) = true", x, g)
	}
	if got, e := Encode(x, g); len(got) != 0 || e != api.ErrArg {
		t.Fatalf("Encode(%+v, %v) = %#x, %v", x, g, got, e)
	}
}

// refused holds that the words are no record, that what is wrong is told at that word, and that nothing else is told.
func refused(t *testing.T, l []uint64, g api.Geom, at int, e api.Errno) {
	t.Helper()
	was := slices.Clone(l)
	x, err := Decode(l, g)
	var f api.Fault
	if x != (api.Inode{}) || !errors.As(err, &f) || f != (api.Fault{At: at, Err: e}) {
		t.Fatalf("Decode(%#x, %v) = %+v, %v; want %v at %d", l, g, x, err, e, at)
	}
	if !slices.Equal(l, was) {
		t.Fatalf("%#x was turned to %#x", was, l)
	}
}

// unformed holds that the words are refused for their form at that word.
func unformed(t *testing.T, l []uint64, g api.Geom, at int) {
	t.Helper()
	refused(t, l, g, at, api.ErrForm)
}

// P6.1 to P6.3: valid records of all kinds have the defined words, and are decoded from them.
func TestValid(t *testing.T) {
	n := noise(1)
	for _, g := range geometries() {
		for _, kind := range kinds() {
			for range 50 {
				for _, x := range samples(kind, g, n) {
					accepted(t, x, defined(x), g)
				}
			}
		}
	}
}

// P6.1 to P6.3: each number of a record of each kind may be what the definition says, and nothing else.
func TestEachNumber(t *testing.T) {
	n := noise(2)
	for _, g := range geometries() {
		for _, kind := range kinds() {
			for _, x := range samples(kind, g, n) {
				for _, p := range parts(g) {
					least, most := p.least[kind], p.most[kind]
					for _, v := range numbers(least, most) {
						y := x
						if !p.set(&y, v) {
							continue
						}
						if least <= v && v <= most {
							accepted(t, y, defined(y), g)
						} else {
							no(t, y, g)
						}
					}
				}
			}
		}
	}
}

// P6.1: what all numbers of a kind may be: each value from 0 on, and a bit beyond.
func TestAllNumbers(t *testing.T) {
	for _, g := range geometries() {
		for _, kind := range kinds() {
			base := samples(kind, g, noise(3))[0]
			for _, p := range parts(g) {
				for v := int64(0); v <= 8200; v++ {
					x := base
					p.set(&x, v)
					if want := p.least[kind] <= v && v <= p.most[kind]; May(x, g) != want {
						t.Fatalf("May(%+v, %v) = %v", x, g, !want)
					}
				}
			}
		}
	}
}

// P6.1: there are four kinds, and no number fits to another one.
func TestKinds(t *testing.T) {
	n := noise(4)
	for kind := 4; kind < 256; kind++ {
		no(t, api.Inode{Kind: uint8(kind)}, some)
		no(t, api.Inode{Kind: uint8(kind), Gen: 7}, some)
		for _, like := range kinds() {
			for _, x := range samples(like, some, n) {
				x.Kind = uint8(kind)
				no(t, x, some)
				unformed(t, defined(x), some, 0)
			}
		}
	}
}

// P6.1: what one kind has, another one may lack: only free ones have nothing.
func TestFree(t *testing.T) {
	for _, gen := range []uint32{0, 1, 5, 1 << 31, math.MaxUint32} {
		x := api.Inode{Gen: gen}
		accepted(t, x, sealed(uint64(gen)<<32, 0, 0, 0, 0, 0, 0), some)
		for _, kind := range kinds()[1:] {
			no(t, api.Inode{Kind: kind, Gen: gen}, some)
		}
	}
}

// broken are geometries that may not be.
func broken() []api.Geom {
	l := []api.Geom{{}, {Procs: -3, Inodes: -5, Blocks: -9}}
	for _, n := range []int{math.MinInt, -1, 0, 256, 1<<32 + 5, math.MaxInt} {
		l = append(l, api.Geom{Procs: n, Inodes: 5, Blocks: 9}, api.Geom{Procs: 3, Inodes: n, Blocks: 9}, api.Geom{Procs: 3, Inodes: 5, Blocks: n})
	}
	return append(l, api.Geom{Procs: 9, Inodes: 5, Blocks: 9}, api.Geom{Procs: 3, Inodes: 1, Blocks: 9}, api.Geom{Procs: 3, Inodes: 65, Blocks: 9}, api.Geom{Procs: 3, Inodes: 5, Blocks: 3})
}

// P6.1, P6.2: no record is valid with a geometry that may not be; that is told ahead of whatever is wrong with the words.
func TestGeometry(t *testing.T) {
	n := noise(5)
	for _, g := range broken() {
		for _, kind := range kinds() {
			for _, x := range samples(kind, some, n) {
				no(t, x, g)
				l := defined(x)
				refused(t, l, g, 0, api.ErrArg)
				l[7]++
				refused(t, l, g, 0, api.ErrArg)
				refused(t, l[:5], g, 0, api.ErrArg)
			}
		}
		no(t, api.Inode{}, g)
		refused(t, nil, g, 0, api.ErrArg)
		refused(t, make([]uint64, 8), g, 0, api.ErrArg)
	}
}

// P6.1 and R5: words that were encoded share nothing with those that are encoded later.
func TestNewWords(t *testing.T) {
	x := api.Inode{Kind: api.KindFile, Links: 2, Gen: 3, Size: 4, Attr: 5, Map: 6, Mtime: 7, Ctime: 8}
	first, _ := Encode(x, some)
	clear(first[:cap(first)])
	second, e := Encode(x, some)
	if !slices.Equal(second, defined(x)) || e != api.OK {
		t.Errorf("Encode = %#x, %v", second, e)
	}
}

// P6.2: there are eight words, no fewer and no more, whatever they are.
func TestLength(t *testing.T) {
	unformed(t, nil, some, 0)
	unformed(t, []uint64{}, some, 0)
	n := noise(6)
	for _, kind := range kinds() {
		for _, x := range samples(kind, some, n) {
			l := append(defined(x), defined(x)...)
			for count := range len(l) + 1 {
				if count != 8 {
					unformed(t, l[:count:count], some, 0)
				}
			}
			accepted(t, x, l[:8], some)
			accepted(t, x, l[8:], some)
			// Sealed well, but by one word too few, or too many.
			unformed(t, sealed(l[:6]...), some, 0)
			unformed(t, sealed(l[:8]...), some, 0)
			unformed(t, sealed(append(slices.Clone(l[:7]), 0)...), some, 0)
		}
	}
	unformed(t, make([]uint64, 1000), some, 0)
}

// P6.2: word 7 is the seal to the last bit, whatever the others are.
func TestSeal(t *testing.T) {
	n := noise(7)
	var rows [][]uint64
	for _, kind := range kinds() {
		for _, x := range samples(kind, some, n) {
			rows = append(rows, defined(x))
		}
	}
	rows = append(rows, sealed(head(9, 9, 9), 1, 2, 3, 4, 5, 6), sealed(math.MaxUint64, 0, 0, 0, 0, 0, 0))
	for _, l := range rows {
		was := l[7]
		for at := range 64 {
			l[7] = was ^ 1<<at
			unformed(t, l, some, 7)
		}
		for _, w := range []uint64{0, 1, math.MaxUint64, ^was, bits.RotateLeft64(was, 32), was &^ math.MaxUint32, was & math.MaxUint32} {
			l[7] = w
			unformed(t, l, some, 7)
		}
	}
}

// fits tells whether word at is that of a valid record of that kind, as the chapter's definition tells it.
func fits(kind uint8, at int, w uint64, g api.Geom) bool {
	blocks, inodes := uint64(g.Blocks), uint64(g.Inodes)
	if kind == 0 {
		return w == 0 || at == 0 && w<<32 == 0
	}
	switch at {
	case 0:
		links := [4]uint64{0, 8, 1, 8}
		return kind <= 3 && w&0xFF == uint64(kind) && w>>8&0xFF <= links[kind] && w>>16&0xFFFF == 0
	case 1:
		return w <= [4]uint64{0, 8192, 4096, 64}[kind] && (w > 0 || kind != 3)
	case 2:
		return w >= 1 && w <= blocks
	case 3:
		if kind == 2 {
			var b [8]byte
			binary.LittleEndian.PutUint64(b[:], w)
			return uint64(max(b[0], b[1], b[2], b[3])) <= blocks && max(b[4], b[5], b[6], b[7]) == 0
		}
		return w <= blocks && (w > 0 || kind == 1)
	case 4:
		if kind == 2 {
			return w >= 1 && w <= inodes
		}
		return w == 0
	}
	return w <= 1<<40
}

// judged holds that sealed words are told as the model tells them: as a record that has them, or at the first one that does not fit.
func judged(t *testing.T, l []uint64, g api.Geom) bool {
	t.Helper()
	for at, w := range l[:7] {
		if !fits(uint8(l[0]), at, w, g) {
			unformed(t, l, g, at)
			return false
		}
	}
	x, err := Decode(l, g)
	if err != nil || !slices.Equal(defined(x), l) {
		t.Fatalf("Decode(%#x, %v) = %+v, %v", l, g, x, err)
	}
	accepted(t, x, l, g)
	return true
}

// P6.2: word 0 is that of a record of some kind: all of its lower half, with any Gen.
func TestHeads(t *testing.T) {
	n := noise(8)
	for _, kind := range kinds() {
		l := defined(samples(kind, some, n)[2])[:7]
		for low := range uint64(1 << 16) {
			l[0] = low | uint64(n.Uint32())<<32
			judged(t, sealed(l...), some)
		}
		for at := 16; at < 32; at++ {
			for _, low := range []uint64{uint64(kind), uint64(kind) | 1<<8} {
				l[0] = low | 1<<at | uint64(n.Uint32())<<32
				unformed(t, sealed(l...), some, 0)
			}
		}
	}
}

// words are what a word is tried with: small ones, powers of 2 and what is next to them, and the bounds of the greatest.
func words() []uint64 {
	var l []uint64
	for w := range uint64(260) {
		l = append(l, w)
	}
	for at := range 64 {
		l = append(l, 1<<at-1, 1<<at, 1<<at+1, 1<<at+5)
	}
	return append(l, 4097, 8193, math.MaxUint64, math.MaxUint64-1, math.MaxUint64-1<<32, 1<<40+2)
}

// P6.2: each of words 1 to 6 is that of some valid record of the kind, or it is told.
func TestEachWord(t *testing.T) {
	n := noise(9)
	for _, g := range geometries() {
		for _, kind := range kinds() {
			l := samples(kind, g, n)
			for at := 1; at <= 6; at++ {
				for _, w := range words() {
					row := defined(l[n.IntN(len(l))])[:7]
					row[at] = w
					judged(t, sealed(row...), g)
				}
			}
		}
	}
}

// P6.2: each head of a directory is a block, or 0, and there are four of them.
func TestBuckets(t *testing.T) {
	for _, g := range geometries() {
		l := defined(samples(api.KindDir, g, noise(10))[2])[:7]
		for k := range 8 {
			for b := range uint64(256) {
				for _, rest := range []uint64{0, 0x01010101, 0x01000400} {
					l[3] = rest&^(0xFF<<(8*k)) | b<<(8*k)
					judged(t, sealed(l...), g)
				}
			}
		}
	}
}

// P6.2: of several faults the one that the contract names first is told: of the geometry, of the length, of the seal, then from word 0 on.
func TestOrder(t *testing.T) {
	n := noise(11)
	order := []int{7, 0, 1, 2, 3, 4, 5, 6}
	for _, kind := range kinds() {
		for _, x := range samples(kind, some, n) {
			for set := 1; set < 1<<8; set++ {
				l := defined(x)[:7]
				for at := range 7 {
					if set>>at&1 == 1 {
						// No field, and no number, has this bit.
						l[at] |= 1 << []int{20, 50, 50, 50, 50, 50, 50}[at]
					}
				}
				l = sealed(l...)
				if set>>7 == 1 {
					l[7] ^= 1 << 40
				}
				first := slices.IndexFunc(order, func(at int) bool { return set>>at&1 == 1 })
				unformed(t, l, some, order[first])
				unformed(t, l[:7], some, 0)
				unformed(t, append(l, 0), some, 0)
				refused(t, l, api.Geom{Procs: 3, Inodes: 5}, 0, api.ErrArg)
			}
		}
	}
}

// P6.2: words are looked at by the Kind that word 0 has, which may be another one than that of the record they come from.
func TestOtherKind(t *testing.T) {
	n := noise(12)
	for _, g := range geometries() {
		for range 200 {
			for _, kind := range kinds() {
				x := samples(kind, g, n)[n.IntN(6)]
				for _, other := range kinds() {
					l := defined(x)[:7]
					l[0] = l[0]&^0xFF | uint64(other)
					judged(t, sealed(l...), g)
				}
			}
		}
	}
	file := api.Inode{Kind: api.KindFile, Links: 1, Size: 3, Attr: 2, Map: 4}
	for _, x := range []struct {
		kind, links uint64
		at          int
	}{{0, 0, 1}, {0, 1, 0}, {2, 1, 4}, {2, 2, 0}, {3, 1, 7}, {4, 1, 0}} {
		l := defined(file)[:7]
		l[0] = head(x.kind, x.links, 0)
		if x.at < 7 {
			unformed(t, sealed(l...), some, x.at)
			continue
		}
		link := file
		link.Kind = api.KindLink
		accepted(t, link, sealed(l...), some)
	}
}

// P6.2, P6.3: whatever words are drawn near to records, they are told as the model tells them, and those that are a record are what it is encoded to.
func TestDrawn(t *testing.T) {
	n := noise(13)
	var all [5][]api.Inode
	for k, g := range geometries() {
		for _, kind := range kinds() {
			for range 20 {
				all[k] = append(all[k], samples(kind, g, n)...)
			}
		}
	}
	good := 0
	for range 200_000 {
		k := n.IntN(len(all))
		g := geometries()[k]
		l := defined(all[k][n.IntN(len(all[k]))])[:7]
		for range n.IntN(3) {
			at := n.IntN(7)
			switch n.IntN(4) {
			case 0:
				l[at] ^= 1 << n.IntN(64)
			case 1:
				l[at] += n.Uint64N(5) - 2
			case 2:
				l[at] = 0
			default:
				l[at] = l[n.IntN(7)]
			}
		}
		if judged(t, sealed(l...), g) {
			good++
		}
	}
	if good < 50_000 || good > 190_000 {
		t.Errorf("%d records were drawn", good)
	}
}

// flip is l with the bits of the pattern flipped, from bit at on.
func flip(l []uint64, at int, pattern uint32) []uint64 {
	l = slices.Clone(l)
	l[at/64] ^= uint64(pattern) << (at % 64)
	if at%64 > 32 && at/64 < 7 {
		l[at/64+1] ^= uint64(pattern) >> (64 - at%64)
	}
	return l
}

// P6.3: with some of 32 consecutive bits flipped it is no record: the seal tells it.
func TestFlipped(t *testing.T) {
	n := noise(14)
	for _, kind := range kinds() {
		for _, x := range samples(kind, some, n)[:3] {
			l := defined(x)
			for at := range 512 {
				most := uint32(math.MaxUint32)
				if at > 512-32 {
					most >>= at - (512 - 32)
				}
				patterns := []uint32{1, math.MaxUint32}
				for k := 1; k < 32; k++ {
					patterns = append(patterns, 1|1<<k, 1<<k-1)
				}
				for range 20 {
					patterns = append(patterns, n.Uint32()|1)
				}
				for _, p := range patterns {
					unformed(t, flip(l, at, p&most), some, 7)
				}
			}
		}
	}
}

// What is wrong is told by an error of its own kind, which wraps the fault, which wraps the number.
func TestWrapped(t *testing.T) {
	l := defined(api.Inode{Gen: 1})
	long := sealed(0, 0, 0, 0, 9, 0, 0)
	for _, x := range []struct {
		l []uint64
		g api.Geom
		f api.Fault
	}{
		{l, api.Geom{}, api.Fault{At: 0, Err: api.ErrArg}},
		{l[:7], some, api.Fault{At: 0, Err: api.ErrForm}},
		{make([]uint64, 8), some, api.Fault{At: 7, Err: api.ErrForm}},
		{long, some, api.Fault{At: 4, Err: api.ErrForm}},
	} {
		_, err := Decode(x.l, x.g)
		if _, bare := err.(api.Fault); bare || err == nil {
			t.Fatalf("Decode(%#x): %T", x.l, err)
		}
		if f := errors.Unwrap(err); f != x.f {
			t.Errorf("Decode(%#x): the error wraps %v", x.l, f)
		}
		for _, e := range []api.Errno{api.ErrArg, api.ErrForm, api.ErrNone} {
			if errors.Is(err, e) != (e == x.f.Err) {
				t.Errorf("Decode(%#x): %v is %v: %v", x.l, err, e, errors.Is(err, e))
			}
		}
		if err.Error() == "" {
			t.Errorf("Decode(%#x): no text", x.l)
		}
	}
}

// The chapter's examples.
func TestExamples(t *testing.T) {
	accepted(t, api.Inode{Gen: 5}, sum.Seal([]uint64{0x0000000500000000, 0, 0, 0, 0, 0, 0}), some)
	dir := api.Inode{Kind: api.KindDir, Links: 1, Gen: 1, Attr: 2, Heads: [4]int{3, 0, 0, 4}, Parent: 1}
	accepted(t, dir, sum.Seal([]uint64{0x0000000100000102, 0, 2, 0x04000003, 1, 0, 0}), some)
	unformed(t, make([]uint64, 8), some, 7)
}
