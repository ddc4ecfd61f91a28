package entry

import (
	"encoding/binary"
	"errors"
	"hash/crc32"
	"math"
	"math/bits"
	"math/rand/v2"
	"slices"
	"strings"
	"testing"

	"parclose/api"
)

// some is a geometry whose numbers are all different.
var some = api.Geom{Procs: 3, Inodes: 5, Blocks: 9}

// noise is a row of numbers that are the same in each run.
func noise(seed uint64) *rand.Rand {
	return rand.New(rand.NewPCG(seed, 7))
}

// geometries are valid ones, up to the least and the greatest.
func geometries() []api.Geom {
	return []api.Geom{some, {Procs: 1, Inodes: 2, Blocks: 4}, {Procs: 8, Inodes: 64, Blocks: 255}, {Procs: 2, Inodes: 64, Blocks: 4}, {Procs: 8, Inodes: 2, Blocks: 128}}
}

// broken are geometries that may not be.
func broken() []api.Geom {
	l := []api.Geom{{}, {Procs: -3, Inodes: -5, Blocks: -9}, {Procs: 9, Inodes: 5, Blocks: 9}, {Procs: 3, Inodes: 1, Blocks: 9}, {Procs: 3, Inodes: 65, Blocks: 9}, {Procs: 3, Inodes: 5, Blocks: 3}}
	for _, n := range []int{math.MinInt, -1, 0, 256, 1<<32 + 5, math.MaxInt} {
		l = append(l, api.Geom{Procs: n, Inodes: 5, Blocks: 9}, api.Geom{Procs: 3, Inodes: n, Blocks: 9}, api.Geom{Procs: 3, Inodes: 5, Blocks: n})
	}
	return l
}

// summed is the three words of these 20 bytes, and their checksum behind them.
func summed(b []byte) []uint64 {
	b = binary.LittleEndian.AppendUint32(slices.Clone(b), crc32.ChecksumIEEE(b))
	var l []uint64
	for at := 0; at < len(b); at += 8 {
		l = append(l, binary.LittleEndian.Uint64(b[at:]))
	}
	return l
}

// bytesOf is the first 20 bytes of a slot, as the chapter's definition tells them, from numbers that a byte has each.
func bytesOf(name string, ino, kind, length, rest byte) []byte {
	b := make([]byte, 20)
	copy(b[:16], name)
	b[16], b[17], b[18], b[19] = ino, kind, length, rest
	return b
}

// defined is the words of a slot, as the chapter's definition tells them.
func defined(s api.Slot) []uint64 {
	if s == (api.Slot{}) {
		return []uint64{0, 0, 0}
	}
	return summed(bytesOf(s.Name, byte(s.Ino), s.Kind, byte(len(s.Name)), 0))
}

// may tells whether the slot is valid, as the chapter's definition tells it.
func may(s api.Slot, g api.Geom) bool {
	if s == (api.Slot{}) {
		return true
	}
	kind := s.Kind == api.KindFile || s.Kind == api.KindDir || s.Kind == api.KindLink
	return s.Ino >= 1 && s.Ino <= g.Inodes && kind && s.Name != "" && len(s.Name) <= 16 && !strings.Contains(s.Name, "\x00") && !strings.Contains(s.Name, "/")
}

// told is the slot that three words are, as the chapter's definition tells it, and whether they are one.
func told(l []uint64, g api.Geom) (api.Slot, bool) {
	var b []byte
	for _, w := range l {
		b = binary.LittleEndian.AppendUint64(b, w)
	}
	if strings.Trim(string(b), "\x00") == "" {
		return api.Slot{}, true
	}
	n := int(b[18])
	if n < 1 || n > 16 || b[19] != 0 || crc32.ChecksumIEEE(b[:20]) != binary.LittleEndian.Uint32(b[20:]) {
		return api.Slot{}, false
	}
	s := api.Slot{Ino: int(b[16]), Kind: b[17], Name: string(b[:n])}
	if !may(s, g) || strings.Trim(string(b[n:16]), "\x00") != "" {
		return api.Slot{}, false
	}
	return s, true
}

// nameOf is a name of n bytes, any of those that may be in one.
func nameOf(n *rand.Rand, length int) string {
	b := make([]byte, length)
	for k := range b {
		for b[k] == 0 || b[k] == '/' {
			b[k] = byte(n.Uint32())
		}
	}
	return string(b)
}

// drawn is a valid slot that is not empty.
func drawn(n *rand.Rand, g api.Geom) api.Slot {
	return api.Slot{Ino: 1 + n.IntN(g.Inodes), Kind: uint8(1 + n.IntN(3)), Name: nameOf(n, 1+n.IntN(16))}
}

// blockOf is a valid block; some of its slots are empty.
func blockOf(n *rand.Rand, g api.Geom) api.DirBlock {
	b := api.DirBlock{Next: n.IntN(g.Blocks + 1)}
	for k := range b.Slots {
		if n.IntN(3) > 0 {
			b.Slots[k] = drawn(n, g)
		}
	}
	return b
}

// blockDefined is the words of a block, as the chapter's definition tells them.
func blockDefined(b api.DirBlock) []uint64 {
	l := []uint64{uint64(b.Next) | 0x44495231<<32, 0}
	for _, s := range b.Slots {
		l = append(l, defined(s)...)
	}
	return l
}

// accepted holds that the slot is valid, and that it has these words and they are it.
func accepted(t *testing.T, s api.Slot, l []uint64, g api.Geom) {
	t.Helper()
	if !May(s, g) {
		t.Fatalf("May(%+v, %v) = false", s, g)
	}
	if got, e := Encode(s, g); !slices.Equal(got, l) || e != api.OK {
		t.Fatalf("Encode(%+v, %v) = %#x, %v; want %#x", s, g, got, e, l)
	}
	was := slices.Clone(l)
	if got, err := Decode(l, g); got != s || err != nil {
		t.Fatalf("Decode(%#x, %v) = %+v, %v; want %+v", l, g, got, err, s)
	}
	if !slices.Equal(l, was) {
		t.Fatalf("%#x was turned to %#x", was, l)
	}
}

// no holds that the slot is not valid, alone and in a block.
func no(t *testing.T, s api.Slot, g api.Geom) {
	t.Helper()
	if May(s, g) {
		t.Fatalf("May(%+v, %v) = true", s, g)
	}
	if got, e := Encode(s, g); len(got) != 0 || e != api.ErrArg {
		t.Fatalf("Encode(%+v, %v) = %#x, %v", s, g, got, e)
	}
	for k := range 10 {
		var b api.DirBlock
		b.Slots[k] = s
		if got, e := Block(b, g); len(got) != 0 || e != api.ErrArg {
			t.Fatalf("Block(%+v, %v) = %#x, %v", b, g, got, e)
		}
	}
}

// faulty holds that the error tells that number at that place.
func faulty(t *testing.T, err error, at int, e api.Errno) {
	t.Helper()
	var f api.Fault
	if !errors.As(err, &f) || f != (api.Fault{At: at, Err: e}) {
		t.Fatalf("%v; want %v at %d", err, e, at)
	}
}

// refused holds that the words are no slot, and that nothing else is told.
func refused(t *testing.T, l []uint64, g api.Geom, e api.Errno) {
	t.Helper()
	was := slices.Clone(l)
	s, err := Decode(l, g)
	if s != (api.Slot{}) {
		t.Fatalf("Decode(%#x, %v) = %+v, %v", l, g, s, err)
	}
	faulty(t, err, 0, e)
	if !slices.Equal(l, was) {
		t.Fatalf("%#x was turned to %#x", was, l)
	}
}

// judged holds three words against the definition, and tells whether they are a slot.
func judged(t *testing.T, l []uint64, g api.Geom) bool {
	t.Helper()
	s, ok := told(l, g)
	if !ok {
		refused(t, l, g, api.ErrForm)
		return false
	}
	accepted(t, s, l, g)
	return true
}

// whole holds that the block has these words, and that they are it.
func whole(t *testing.T, b api.DirBlock, l []uint64, g api.Geom) {
	t.Helper()
	if got, e := Block(b, g); !slices.Equal(got, l) || e != api.OK {
		t.Fatalf("Block(%+v, %v) = %#x, %v; want %#x", b, g, got, e, l)
	}
	was := slices.Clone(l)
	if got, err := Read(l, g); got != b || err != nil {
		t.Fatalf("Read(%#x, %v) = %+v, %v; want %+v", l, g, got, err, b)
	}
	if !slices.Equal(l, was) {
		t.Fatalf("%#x was turned to %#x", was, l)
	}
}

// unread holds that the words are no block, that what is wrong is told at that word, and that nothing else is told.
func unread(t *testing.T, l []uint64, g api.Geom, at int, e api.Errno) {
	t.Helper()
	was := slices.Clone(l)
	b, err := Read(l, g)
	if b != (api.DirBlock{}) {
		t.Fatalf("Read(%#x, %v) = %+v, %v", l, g, b, err)
	}
	faulty(t, err, at, e)
	if !slices.Equal(l, was) {
		t.Fatalf("%#x was turned to %#x", was, l)
	}
}

// P7.1, P7.2, P7.4: valid slots have the defined words, and are decoded from them.
func TestValid(t *testing.T) {
	n := noise(1)
	for _, g := range geometries() {
		accepted(t, api.Slot{}, []uint64{0, 0, 0}, g)
		for ino := 1; ino <= g.Inodes; ino++ {
			for kind := api.KindFile; kind <= api.KindLink; kind++ {
				for length := 1; length <= 16; length++ {
					s := api.Slot{Ino: ino, Kind: kind, Name: nameOf(n, length)}
					accepted(t, s, defined(s), g)
				}
			}
		}
	}
}

// P7.1: Ino is that of an inode, whatever it is like in its lowest bits.
func TestIno(t *testing.T) {
	n := noise(2)
	for _, g := range geometries() {
		l := []int{math.MinInt, math.MinInt + 1, math.MinInt32, math.MaxInt, math.MaxInt - 1, 1<<16 + 1, 1<<32 + 1, 1<<56 + 1, -256, -255}
		for ino := -70; ino <= 600; ino++ {
			l = append(l, ino)
		}
		for _, ino := range l {
			s := drawn(n, g)
			s.Ino = ino
			if 1 <= ino && ino <= g.Inodes {
				accepted(t, s, defined(s), g)
			} else {
				no(t, s, g)
			}
		}
	}
}

// P7.1: there are three kinds.
func TestKinds(t *testing.T) {
	n := noise(3)
	for kind := range 256 {
		s := drawn(n, some)
		s.Kind = uint8(kind)
		if 1 <= kind && kind <= 3 {
			accepted(t, s, defined(s), some)
		} else {
			no(t, s, some)
		}
	}
}

// P7.1: a name has from 1 to 16 bytes, none of which is 0 or a slash, wherever it is; the dots are names like others.
func TestNames(t *testing.T) {
	n := noise(4)
	slot := func(name string) api.Slot { return api.Slot{Ino: 2, Kind: api.KindDir, Name: name} }
	for length := range 600 {
		s := slot(nameOf(n, length))
		if 1 <= length && length <= 16 {
			accepted(t, s, defined(s), some)
		} else {
			no(t, s, some)
		}
	}
	for length := 1; length <= 16; length++ {
		for k := range length {
			for b := range 256 {
				name := []byte(nameOf(n, length))
				name[k] = byte(b)
				if s := slot(string(name)); b == 0 || b == '/' {
					no(t, s, some)
				} else {
					accepted(t, s, defined(s), some)
				}
			}
		}
	}
	for _, name := range []string{".", "..", "low", " ", "\n", "\xff\xfe", "é", "\u2215", "a\\b", "abcdefgh", "abcdefghi", "0123456789abcdef"} {
		s := slot(name)
		accepted(t, s, defined(s), some)
	}
	for _, name := range []string{"", "/", "\x00", "a/", "/a", "a\x00", "\x00a", "0123456789abcdefg", "0123456789abcdef/", "0123456789abcdef\x00", strings.Repeat("x", 256), strings.Repeat("x", 257), strings.Repeat("x", 272), strings.Repeat("x", 1<<16+1)} {
		no(t, slot(name), some)
	}
}

// P7.1: a slot is empty if it has nothing at all; each other one needs all three.
func TestEmpty(t *testing.T) {
	for _, s := range []api.Slot{{Ino: 1}, {Kind: 1}, {Name: "a"}, {Ino: 1, Kind: 1}, {Ino: 1, Name: "a"}, {Kind: 1, Name: "a"}, {Name: "\x00"}, {Ino: -1}, {Ino: 256}} {
		no(t, s, some)
	}
	accepted(t, api.Slot{}, []uint64{0, 0, 0}, some)
	// A sum is no part of an empty one.
	refused(t, summed(make([]byte, 20)), some, api.ErrForm)
}

// P7.1 to P7.3: nothing is valid with a geometry that may not be; that is told ahead of whatever is wrong with the words.
func TestGeometry(t *testing.T) {
	n := noise(5)
	for _, g := range broken() {
		no(t, api.Slot{}, g)
		no(t, drawn(n, some), g)
		for _, next := range []int{0, 1, -1, 9} {
			if w, e := Head(next, g); w != 0 || e != api.ErrArg {
				t.Fatalf("Head(%d, %v) = %#x, %v", next, g, w, e)
			}
		}
		b := blockOf(n, some)
		for _, x := range []api.DirBlock{b, {}} {
			if l, e := Block(x, g); len(l) != 0 || e != api.ErrArg {
				t.Fatalf("Block(%+v, %v) = %#x, %v", x, g, l, e)
			}
		}
		l := blockDefined(b)
		for _, row := range [][]uint64{nil, {0, 0, 0}, {1, 1}, defined(drawn(n, some)), l} {
			refused(t, row, g, api.ErrArg)
			unread(t, row, g, 0, api.ErrArg)
		}
		l[1], l[31] = 1, 1
		unread(t, l, g, 0, api.ErrArg)
		l[0] = 0
		unread(t, l, g, 0, api.ErrArg)
	}
}

// P7.1: Head has each block, and none, and nothing else.
func TestHead(t *testing.T) {
	for _, g := range geometries() {
		l := []int{math.MinInt, math.MinInt32, math.MaxInt, math.MaxInt - 255, 1<<16 + 1, 1<<32 + 1, 1 << 32, -256}
		for next := -300; next <= 600; next++ {
			l = append(l, next)
		}
		for _, next := range l {
			want, e := uint64(0), api.ErrArg
			if 0 <= next && next <= g.Blocks {
				want, e = 0x4449523100000000+uint64(next), api.OK
			}
			if w, got := Head(next, g); w != want || got != e {
				t.Fatalf("Head(%d, %v) = %#x, %v; want %#x, %v", next, g, w, got, want, e)
			}
			b := api.DirBlock{Next: next}
			if e == api.OK {
				whole(t, b, append([]uint64{want}, make([]uint64, 31)...), g)
			} else if l, got := Block(b, g); len(l) != 0 || got != e {
				t.Fatalf("Block(%+v, %v) = %#x, %v", b, g, l, got)
			}
		}
	}
}

// P7.1, P7.3, P7.4: valid blocks have the defined words, and are read from them.
func TestBlock(t *testing.T) {
	n := noise(6)
	for _, g := range geometries() {
		for range 300 {
			b := blockOf(n, g)
			whole(t, b, blockDefined(b), g)
		}
		// One slot alone, each of the ten; and all of them, but for one.
		for k := range 10 {
			var one, rest api.DirBlock
			for j := range rest.Slots {
				rest.Slots[j] = drawn(n, g)
			}
			one.Slots[k] = drawn(n, g)
			rest.Slots[k] = api.Slot{}
			whole(t, one, blockDefined(one), g)
			whole(t, rest, blockDefined(rest), g)
		}
	}
}

// P7.1: a block needs all that it has to be valid.
func TestBlockRefused(t *testing.T) {
	n := noise(7)
	for range 300 {
		b := blockOf(n, some)
		x := b
		x.Slots[n.IntN(10)] = []api.Slot{{Ino: 6, Kind: 1, Name: "a"}, {Ino: 1, Kind: 4, Name: "a"}, {Ino: 1, Kind: 1}, {Name: "a"}, {Ino: 1, Kind: 1, Name: "a/b"}, {Kind: 1}, {Ino: -1}}[n.IntN(7)]
		y := b
		y.Next = []int{-1, 10, 256, math.MinInt, math.MaxInt}[n.IntN(5)]
		for _, z := range []api.DirBlock{x, y} {
			if l, e := Block(z, some); len(l) != 0 || e != api.ErrArg {
				t.Fatalf("Block(%+v) = %#x, %v", z, l, e)
			}
		}
	}
}

// P7.1 and R5: words that were encoded share nothing with those that are encoded later.
func TestNewWords(t *testing.T) {
	n := noise(8)
	b := blockOf(n, some)
	for _, s := range append(b.Slots[:], api.Slot{}) {
		first, _ := Encode(s, some)
		for k := range first[:cap(first)] {
			first[:cap(first)][k] = 5
		}
		accepted(t, s, defined(s), some)
	}
	first, _ := Block(b, some)
	for k := range first[:cap(first)] {
		first[:cap(first)][k] = 5
	}
	whole(t, b, blockDefined(b), some)
}

// P7.2: there are three words, no fewer and no more, whatever they are.
func TestLength(t *testing.T) {
	refused(t, nil, some, api.ErrForm)
	n := noise(9)
	for range 50 {
		s := drawn(n, some)
		l := append(defined(s), defined(s)...)
		for count := range len(l) + 1 {
			if count != 3 {
				refused(t, l[:count:count], some, api.ErrForm)
				refused(t, make([]uint64, count), some, api.ErrForm)
			}
		}
		accepted(t, s, l[:3], some)
		accepted(t, s, l[3:], some)
	}
	refused(t, make([]uint64, 1000), some, api.ErrForm)
}

// P7.2: each of the last word's numbers may be what the definition says, with a sum that fits, and nothing else.
func TestEachNumber(t *testing.T) {
	n := noise(10)
	for _, g := range geometries() {
		for at := 16; at < 20; at++ {
			for v := range 256 {
				for length := 1; length <= 16; length += 5 {
					b := bytesOf(nameOf(n, length), byte(1+n.IntN(g.Inodes)), byte(1+n.IntN(3)), byte(length), 0)
					b[at] = byte(v)
					judged(t, summed(b), g)
				}
			}
		}
	}
}

// P7.2: the name has as many bytes as its length says, without a slash or a 0, and nothing follows it.
func TestNameInWords(t *testing.T) {
	n := noise(11)
	good := 0
	for have := range 17 {
		for length := range 256 {
			for range 5 {
				if judged(t, summed(bytesOf(nameOf(n, have), 1, 1, byte(length), 0)), some) {
					good++
				}
			}
		}
	}
	if good != 16*5 {
		t.Errorf("%d were a slot", good)
	}
	for length := 1; length <= 16; length++ {
		for at := range 16 {
			for v := range 256 {
				b := bytesOf(nameOf(n, length), 3, 2, byte(length), 0)
				b[at] = byte(v)
				if judged(t, summed(b), some) != (at < length && v != 0 && v != '/' || at >= length && v == 0) {
					t.Errorf("byte %d of a name of %d is %d: %v", at, length, v, b)
				}
			}
		}
	}
}

// P7.2: the sum fits to the last bit.
func TestSum(t *testing.T) {
	n := noise(12)
	for range 50 {
		l := defined(drawn(n, some))
		was := l[2]
		low, high := was&math.MaxUint32, was>>32
		for at := range 32 {
			l[2] = was ^ 1<<(32+at)
			refused(t, l, some, api.ErrForm)
		}
		for _, c := range []uint64{0, 1, math.MaxUint32, ^high & math.MaxUint32, uint64(bits.ReverseBytes32(uint32(high))), uint64(bits.Reverse32(uint32(high)))} {
			l[2] = low | c<<32
			judged(t, l, some)
		}
		// The sum of fewer bytes, or of the words.
		b := binary.LittleEndian.AppendUint64(binary.LittleEndian.AppendUint64(nil, l[0]), l[1])
		for _, x := range [][]byte{b, binary.LittleEndian.AppendUint64(slices.Clone(b), low), binary.LittleEndian.AppendUint64(slices.Clone(b), was)} {
			l[2] = low | uint64(crc32.ChecksumIEEE(x))<<32
			refused(t, l, some, api.ErrForm)
		}
	}
}

// P7.2: words without a name are a slot only if all are 0.
func TestNearEmpty(t *testing.T) {
	for at := range 192 {
		l := make([]uint64, 3)
		l[at/64] = 1 << (at % 64)
		refused(t, l, some, api.ErrForm)
		if at < 160 {
			b := make([]byte, 20)
			b[at/8] = 1 << (at % 8)
			refused(t, summed(b), some, api.ErrForm)
		}
	}
}

// P7.2: whatever words are drawn near to slots, they are told as the definition tells them.
func TestDrawn(t *testing.T) {
	n := noise(13)
	good := 0
	for range 200_000 {
		g := geometries()[n.IntN(5)]
		s := drawn(n, g)
		b := bytesOf(s.Name, byte(s.Ino), s.Kind, byte(len(s.Name)), 0)
		for range n.IntN(3) {
			at := n.IntN(20)
			switch n.IntN(4) {
			case 0:
				b[at] ^= 1 << n.IntN(8)
			case 1:
				b[at] += byte(n.IntN(5) - 2)
			case 2:
				b[at] = 0
			default:
				b[at] = b[n.IntN(20)]
			}
		}
		if judged(t, summed(b), g) {
			good++
		}
	}
	if good < 50_000 || good > 190_000 {
		t.Errorf("%d slots were drawn", good)
	}
}

// P7.3: there are 32 words, no fewer and no more, whatever they are.
func TestBlockLength(t *testing.T) {
	n := noise(14)
	b := blockOf(n, some)
	l := append(blockDefined(b), blockDefined(b)...)
	for count := range len(l) + 1 {
		if count == 32 {
			continue
		}
		row := l[:count:count]
		unread(t, row, some, 0, api.ErrForm)
		unread(t, make([]uint64, count), some, 0, api.ErrForm)
		if count > 1 {
			row = slices.Clone(row)
			row[1] = 1
			unread(t, row, some, 0, api.ErrForm)
		}
	}
	whole(t, b, l[:32], some)
	whole(t, b, l[32:], some)
	unread(t, nil, some, 0, api.ErrForm)
}

// P7.3: word 0 is that of a valid block, to the last bit.
func TestReadHead(t *testing.T) {
	n := noise(15)
	for _, g := range geometries() {
		b := blockOf(n, g)
		l := blockDefined(b)
		for next := range 256 {
			l[0] = uint64(next) | 0x44495231<<32
			if next > g.Blocks {
				unread(t, l, g, 0, api.ErrForm)
				continue
			}
			b.Next = next
			whole(t, b, l, g)
		}
		b.Next = n.IntN(g.Blocks + 1)
		was := uint64(b.Next) | 0x44495231<<32
		for at := 8; at < 64; at++ {
			l[0] = was ^ 1<<at
			unread(t, l, g, 0, api.ErrForm)
		}
		for _, w := range []uint64{0, math.MaxUint64, bits.ReverseBytes64(was), bits.RotateLeft64(was, 32), 0x44495231, was | 0xFF00} {
			l[0] = w
			unread(t, l, g, 0, api.ErrForm)
		}
		l[0] = was
		whole(t, b, l, g)
	}
}

// P7.3: word 1 is 0.
func TestReadRest(t *testing.T) {
	b := blockOf(noise(16), some)
	l := blockDefined(b)
	for at := range 64 {
		l[1] = 1 << at
		unread(t, l, some, 1, api.ErrForm)
	}
	l[1] = l[0]
	unread(t, l, some, 1, api.ErrForm)
}

// P7.3: a slot that is not valid is told at its first word, whichever of its words is wrong.
func TestReadSlot(t *testing.T) {
	n := noise(17)
	for range 20 {
		b := blockOf(n, some)
		l := blockDefined(b)
		for k := range 10 {
			for off := range 3 {
				row := slices.Clone(l)
				row[2+3*k+off] ^= 1 << n.IntN(64)
				unread(t, row, some, 2+3*k, api.ErrForm)
			}
			// Well summed, and yet not valid: of what media have not, or without a name.
			for _, x := range [][]uint64{summed(bytesOf("a", 6, 1, 1, 0)), summed(bytesOf("a", 1, 4, 1, 0)), summed(bytesOf("a", 0, 1, 1, 0)), summed(bytesOf("", 1, 1, 0, 0)), summed(bytesOf("a/", 1, 1, 2, 0)), summed(bytesOf("ab", 1, 1, 1, 0)), summed(bytesOf("a", 1, 1, 17, 0)), summed(make([]byte, 20))} {
				row := slices.Clone(l)
				copy(row[2+3*k:], x)
				unread(t, row, some, 2+3*k, api.ErrForm)
			}
		}
	}
}

// P7.3: of several faults the first one is told: of the geometry, of the length, then from word 0 on.
func TestOrder(t *testing.T) {
	n := noise(18)
	places := []int{0, 1}
	for k := range 10 {
		places = append(places, 2+3*k)
	}
	for set := 1; set < 1<<len(places); set++ {
		l := blockDefined(blockOf(n, some))
		for k, at := range places {
			if set>>k&1 == 1 {
				// No head has this bit, and no slot with it has a sum that fits.
				l[at] ^= 1 << 40
			}
		}
		first := places[bits.TrailingZeros(uint(set))]
		unread(t, l, some, first, api.ErrForm)
		if set%100 == 1 {
			unread(t, l[:31], some, 0, api.ErrForm)
			unread(t, append(l, 0), some, 0, api.ErrForm)
			unread(t, l, api.Geom{Procs: 3, Inodes: 5}, 0, api.ErrArg)
		}
	}
}

// P7.3: words of a block are told by the geometry that Read is given.
func TestOtherGeometry(t *testing.T) {
	large := api.Geom{Procs: 1, Inodes: 64, Blocks: 255}
	b := api.DirBlock{Next: 10}
	b.Slots[4] = api.Slot{Ino: 6, Kind: api.KindLink, Name: "far"}
	l := blockDefined(b)
	whole(t, b, l, large)
	unread(t, l, some, 0, api.ErrForm)
	b.Next = 9
	unread(t, blockDefined(b), some, 2+3*4, api.ErrForm)
	b.Slots[4].Ino = 5
	whole(t, b, blockDefined(b), some)
	refused(t, l[14:17], some, api.ErrForm)
}

// patterns are some of 32 consecutive bits, of which the lowest is one, that fit into this many.
func patterns(n *rand.Rand, room int) []uint32 {
	most := uint32(math.MaxUint32) >> (32 - min(room, 32))
	l := []uint32{1, math.MaxUint32}
	for k := 1; k < 32; k++ {
		l = append(l, 1|1<<k, 1<<k-1)
	}
	for range 20 {
		l = append(l, n.Uint32()|1)
	}
	for k := range l {
		l[k] &= most
	}
	return l
}

// flip is l with the bits of the pattern flipped, from bit at on.
func flip(l []uint64, at int, pattern uint32) []uint64 {
	l = slices.Clone(l)
	l[at/64] ^= uint64(pattern) << (at % 64)
	if at%64 > 32 && at/64+1 < len(l) {
		l[at/64+1] ^= uint64(pattern) >> (64 - at%64)
	}
	return l
}

// P7.4: with some of 32 consecutive bits flipped a slot is not valid, alone and in a block.
func TestFlipped(t *testing.T) {
	n := noise(19)
	for range 8 {
		s := drawn(n, some)
		l := defined(s)
		var b api.DirBlock
		k := n.IntN(10)
		b.Slots[k] = s
		for at := range 192 {
			for _, p := range patterns(n, 192-at) {
				row := flip(l, at, p)
				refused(t, row, some, api.ErrForm)
				all := blockDefined(b)
				copy(all[2+3*k:], row)
				unread(t, all, some, 2+3*k, api.ErrForm)
			}
		}
	}
}

// What is wrong is told by an error of its own kind, which wraps the fault, which wraps the number.
func TestWrapped(t *testing.T) {
	slot := func(l []uint64, g api.Geom) error { _, err := Decode(l, g); return err }
	block := func(l []uint64, g api.Geom) error { _, err := Read(l, g); return err }
	rest, last := blockDefined(api.DirBlock{}), blockDefined(api.DirBlock{})
	rest[1], last[31] = 1, 1
	for k, x := range []struct {
		err error
		f   api.Fault
	}{
		{slot(nil, api.Geom{}), api.Fault{Err: api.ErrArg}},
		{slot(nil, some), api.Fault{Err: api.ErrForm}},
		{slot([]uint64{1, 0, 0}, some), api.Fault{Err: api.ErrForm}},
		{block(nil, api.Geom{}), api.Fault{Err: api.ErrArg}},
		{block(nil, some), api.Fault{Err: api.ErrForm}},
		{block(make([]uint64, 32), some), api.Fault{Err: api.ErrForm}},
		{block(rest, some), api.Fault{At: 1, Err: api.ErrForm}},
		{block(last, some), api.Fault{At: 29, Err: api.ErrForm}},
	} {
		if _, bare := x.err.(api.Fault); bare || x.err == nil {
			t.Fatalf("%d: %T", k, x.err)
		}
		if f := errors.Unwrap(x.err); f != x.f {
			t.Errorf("%d: the error wraps %v", k, f)
		}
		for _, e := range []api.Errno{api.ErrArg, api.ErrForm, api.ErrNone} {
			if errors.Is(x.err, e) != (e == x.f.Err) {
				t.Errorf("%d: %v is %v: %v", k, x.err, e, errors.Is(x.err, e))
			}
		}
		if !strings.Contains(x.err.Error(), x.f.Error()) {
			t.Errorf("%d: %q", k, x.err.Error())
		}
	}
}

// The chapter's examples.
func TestExamples(t *testing.T) {
	accepted(t, api.Slot{}, []uint64{0, 0, 0}, some)
	l, e := Encode(api.Slot{Ino: 3, Kind: api.KindFile, Name: "ab"}, some)
	if e != api.OK || len(l) != 3 || l[0] != 0x6261 || l[1] != 0 || l[2]&math.MaxUint32 != 0x00020103 {
		t.Errorf("Encode = %#x, %v", l, e)
	}
	if w, e := Head(5, some); w != 0x4449523100000005 || e != api.OK {
		t.Errorf("Head(5) = %#x, %v", w, e)
	}
}
