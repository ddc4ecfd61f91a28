package geom

import (
	"math"
	"math/rand/v2"
	"testing"

	"parclose/api"
)

// small is the geometry of the chapter's examples.
var small = api.Geom{Procs: 1, Inodes: 2, Blocks: 4}

// odd are numbers that are no number of anything and no place of a word; also such that a product or a sum of them wraps round.
var odd = []int{math.MinInt, math.MinInt + 1, math.MinInt + 2, math.MinInt / 8, math.MinInt / 17, math.MinInt32, -256, -136, -64, -32, -8, -2, -1,
	math.MaxInt32, math.MaxInt32 + 1, math.MaxInt/32 + 1, math.MaxInt/8 + 1, math.MaxInt - 1, math.MaxInt}

// edges are the valid geometries all of whose numbers are the least, the greatest, or next to them.
func edges() []api.Geom {
	var l []api.Geom
	for _, procs := range []int{1, 2, 7, 8} {
		for _, inodes := range []int{2, 3, 63, 64} {
			for _, blocks := range []int{4, 5, 254, 255} {
				l = append(l, api.Geom{Procs: procs, Inodes: inodes, Blocks: blocks})
			}
		}
	}
	return l
}

// samples are the edges, and some geometries between.
func samples() []api.Geom {
	l := edges()
	n := rand.New(rand.NewPCG(4, 4))
	for range 60 {
		l = append(l, api.Geom{Procs: 1 + n.IntN(8), Inodes: 2 + n.IntN(63), Blocks: 4 + n.IntN(252)})
	}
	return l
}

// wrong are geometries that are not valid: by one number each, or by several.
func wrong() []api.Geom {
	l := []api.Geom{{}, {Procs: 9, Inodes: 65, Blocks: 256}, {Procs: 2, Inodes: 1, Blocks: 4}, {Procs: 4, Inodes: 4}}
	for _, g := range edges() {
		for _, n := range append([]int{0, 9, 10, 64, 255}, odd...) {
			l = append(l, api.Geom{Procs: n, Inodes: g.Inodes, Blocks: g.Blocks})
		}
		for _, n := range append([]int{0, 1, 65, 66, 255}, odd...) {
			l = append(l, api.Geom{Procs: g.Procs, Inodes: n, Blocks: g.Blocks})
		}
		for _, n := range append([]int{0, 1, 2, 3, 256, 257, 512}, odd...) {
			l = append(l, api.Geom{Procs: g.Procs, Inodes: g.Inodes, Blocks: n})
		}
	}
	return l
}

// layout is the region of each word, put one behind another as the definition tells them.
func layout(g api.Geom) []api.Region {
	var l []api.Region
	put := func(kind uint8, n, lines int) {
		for off := range 8 * lines {
			l = append(l, api.Region{Kind: kind, N: n, Off: off})
		}
	}
	put(1, 0, 1)
	put(2, 0, 1)
	for i := 1; i <= g.Inodes; i++ {
		put(3, i, 1)
	}
	for s := 0; s < g.Procs; s++ {
		put(4, s, 17)
	}
	for b := 1; b <= g.Blocks; b++ {
		put(5, b, 4)
	}
	return l
}

// call is one of the calls that tell where something begins, with the kind of region that it tells of.
type call struct {
	name string
	kind uint8
	of   func(api.Geom, int) (int, api.Errno)
}

func calls() []call {
	return []call{{"Inode", 3, Inode}, {"Slot", 4, Slot}, {"Block", 5, Block}}
}

// P4.1: each geometry that is valid has as many lines as its regions.
func TestAllValid(t *testing.T) {
	for procs := 1; procs <= 8; procs++ {
		for inodes := 2; inodes <= 64; inodes++ {
			for blocks := 4; blocks <= 255; blocks++ {
				g := api.Geom{Procs: procs, Inodes: inodes, Blocks: blocks}
				if e := Check(g); e != api.OK {
					t.Fatalf("Check(%v): %v", g, e)
				}
				n, e := Lines(g)
				if want := 1 + 1 + inodes + 17*procs + 4*blocks; n != want || e != api.OK {
					t.Fatalf("Lines(%v) = %d, %v; want %d", g, n, e, want)
				}
			}
		}
	}
}

// P4.1: a geometry around the limits is valid if each of its numbers is, and only then.
func TestAroundLimits(t *testing.T) {
	for procs := -1; procs <= 10; procs++ {
		for inodes := -1; inodes <= 66; inodes++ {
			for _, blocks := range []int{-4, -1, 0, 1, 2, 3, 4, 5, 8, 64, 128, 254, 255, 256, 257, 300} {
				g := api.Geom{Procs: procs, Inodes: inodes, Blocks: blocks}
				want := api.ErrArg
				if procs >= 1 && procs <= 8 && inodes >= 2 && inodes <= 64 && blocks >= 4 && blocks <= 255 {
					want = api.OK
				}
				if e := Check(g); e != want {
					t.Fatalf("Check(%v): %v, want %v", g, e, want)
				}
				if n, e := Lines(g); e != want || (n == 0) != (want != api.OK) {
					t.Fatalf("Lines(%v) = %d, %v", g, n, e)
				}
			}
		}
	}
}

// P4.1 to P4.3: of a geometry that is not valid all calls say so, whatever else they are asked, and nothing more.
func TestNotValid(t *testing.T) {
	for _, g := range wrong() {
		if e := Check(g); e != api.ErrArg {
			t.Fatalf("Check(%v): %v", g, e)
		}
		if n, e := Lines(g); n != 0 || e != api.ErrArg {
			t.Fatalf("Lines(%v) = %d, %v", g, n, e)
		}
		for _, n := range append([]int{0, 1, 2, 16, 100, 256}, odd...) {
			for _, c := range calls() {
				if at, e := c.of(g, n); at != 0 || e != api.ErrArg {
					t.Fatalf("%s(%v, %d) = %d, %v", c.name, g, n, at, e)
				}
			}
			if r, e := What(g, n); r != (api.Region{}) || e != api.ErrArg {
				t.Fatalf("What(%v, %d) = %v, %v", g, n, r, e)
			}
		}
	}
}

// P4.2: each inode, slot and block begins where the layout has the first of its words; nothing else begins anywhere.
func TestPlaces(t *testing.T) {
	for _, g := range samples() {
		begins := map[api.Region]int{}
		for at, r := range layout(g) {
			if r.Off == 0 {
				begins[r] = at
			}
		}
		for _, c := range calls() {
			for n := -300; n <= 300; n++ {
				at, e := c.of(g, n)
				want, is := begins[api.Region{Kind: c.kind, N: n}]
				if is && (at != want || e != api.OK) || !is && (at != 0 || e != api.ErrNone) {
					t.Fatalf("%s(%v, %d) = %d, %v; want %d, %v", c.name, g, n, at, e, want, is)
				}
			}
			for _, n := range odd {
				if at, e := c.of(g, n); at != 0 || e != api.ErrNone {
					t.Fatalf("%s(%v, %d) = %d, %v", c.name, g, n, at, e)
				}
			}
		}
	}
}

// P4.2: inodes and blocks are counted from 1 on, slots from 0 on, each to the last one.
func TestFirstAndLast(t *testing.T) {
	for _, g := range edges() {
		for _, x := range []struct {
			call
			low, high int
		}{{calls()[0], 1, g.Inodes}, {calls()[1], 0, g.Procs - 1}, {calls()[2], 1, g.Blocks}} {
			for _, n := range []int{x.low, x.high} {
				if at, e := x.of(g, n); at == 0 || e != api.OK {
					t.Fatalf("%s(%v, %d) = %d, %v", x.name, g, n, at, e)
				}
			}
			for _, n := range []int{x.low - 1, x.high + 1} {
				if at, e := x.of(g, n); at != 0 || e != api.ErrNone {
					t.Fatalf("%s(%v, %d) = %d, %v", x.name, g, n, at, e)
				}
			}
		}
	}
}

// P4.3: each word has the region that the layout has there.
func TestWhat(t *testing.T) {
	for _, g := range samples() {
		for at, want := range layout(g) {
			if r, e := What(g, at); r != want || e != api.OK {
				t.Fatalf("What(%v, %d) = %v, %v; want %v", g, at, r, e, want)
			}
		}
	}
}

// P4.3: ahead of the first word and behind the last one there is nothing.
func TestWhatBeyond(t *testing.T) {
	for _, g := range samples() {
		end := len(layout(g))
		for _, at := range append([]int{end, end + 1, end + 7, end + 8, end + 31, end + 32, 2 * end, -end}, odd...) {
			if r, e := What(g, at); r != (api.Region{}) || e != api.ErrNone {
				t.Fatalf("What(%v, %d) = %v, %v", g, at, r, e)
			}
		}
	}
}

// start is where the region r begins, as the calls tell it.
func start(g api.Geom, r api.Region) (int, api.Errno) {
	for _, c := range calls() {
		if c.kind == r.Kind {
			return c.of(g, r.N)
		}
	}
	return 8 * int(r.Kind-api.RegSuper), api.OK
}

// P4.4: the words of all lines are told apart by their regions, each stands where its region begins and so much behind it,
// and the regions' words are all there are.
func TestAgree(t *testing.T) {
	size := map[uint8]int{api.RegSuper: 8, api.RegMaps: 8, api.RegInode: 8, api.RegSlot: 136, api.RegBlock: 32}
	for _, g := range samples() {
		all, e := Lines(g)
		if e != api.OK {
			t.Fatal(g, e)
		}
		seen := map[api.Region]int{}
		count := map[uint8]int{}
		for at := range 8 * all {
			r, e := What(g, at)
			if e != api.OK || r.Off < 0 || r.Off >= size[r.Kind] {
				t.Fatalf("What(%v, %d) = %v, %v", g, at, r, e)
			}
			if was, is := seen[r]; is {
				t.Fatalf("%v: the words %d and %d are both %v", g, was, at, r)
			}
			seen[r] = at
			count[r.Kind]++
			if from, e := start(g, r); from+r.Off != at || e != api.OK {
				t.Fatalf("%v: word %d is %v, which begins at %d, %v", g, at, r, from, e)
			}
		}
		for kind, n := range map[uint8]int{api.RegSuper: 1, api.RegMaps: 1, api.RegInode: g.Inodes, api.RegSlot: g.Procs, api.RegBlock: g.Blocks} {
			if count[kind] != n*size[kind] {
				t.Fatalf("%v: %d words of kind %d, want %d of %d words each", g, count[kind], kind, n, size[kind])
			}
		}
	}
}

// P4.4: a region consists of whole lines: the words of one line have one region, in order.
func TestWholeLines(t *testing.T) {
	for _, g := range samples() {
		all, _ := Lines(g)
		for line := range all {
			first, e := What(g, 8*line)
			if first.Off%8 != 0 || e != api.OK {
				t.Fatalf("What(%v, %d) = %v, %v", g, 8*line, first, e)
			}
			for k := range 8 {
				want := first
				want.Off += k
				if r, e := What(g, 8*line+k); r != want || e != api.OK {
					t.Fatalf("What(%v, %d) = %v, %v; want %v", g, 8*line+k, r, e, want)
				}
			}
		}
	}
}

// The greatest geometry fits on a device.
func TestFits(t *testing.T) {
	n, e := Lines(api.Geom{Procs: api.MaxSlots, Inodes: api.MaxInodes, Blocks: api.MaxBlocks})
	if n != 1222 || n > api.MaxLines || e != api.OK {
		t.Errorf("%d lines, %v", n, e)
	}
}

// The chapter's table, and the words next to those that it has.
func TestExamples(t *testing.T) {
	if n, e := Lines(small); n != 37 || e != api.OK {
		t.Errorf("Lines = %d, %v", n, e)
	}
	for _, x := range []struct {
		of   func(api.Geom, int) (int, api.Errno)
		n    int
		want int
		e    api.Errno
	}{
		{Inode, 1, 16, api.OK}, {Inode, 2, 24, api.OK}, {Inode, 0, 0, api.ErrNone}, {Inode, 3, 0, api.ErrNone},
		{Slot, 0, 32, api.OK}, {Slot, 1, 0, api.ErrNone}, {Slot, -1, 0, api.ErrNone},
		{Block, 1, 168, api.OK}, {Block, 4, 264, api.OK}, {Block, 5, 0, api.ErrNone}, {Block, 0, 0, api.ErrNone},
	} {
		if at, e := x.of(small, x.n); at != x.want || e != x.e {
			t.Errorf("of %d: %d, %v; want %d, %v", x.n, at, e, x.want, x.e)
		}
	}
	for _, x := range []struct {
		at   int
		want api.Region
		e    api.Errno
	}{
		{0, api.Region{Kind: api.RegSuper}, api.OK},
		{7, api.Region{Kind: api.RegSuper, Off: 7}, api.OK},
		{8, api.Region{Kind: api.RegMaps}, api.OK},
		{15, api.Region{Kind: api.RegMaps, Off: 7}, api.OK},
		{16, api.Region{Kind: api.RegInode, N: 1}, api.OK},
		{24, api.Region{Kind: api.RegInode, N: 2}, api.OK},
		{31, api.Region{Kind: api.RegInode, N: 2, Off: 7}, api.OK},
		{32, api.Region{Kind: api.RegSlot}, api.OK},
		{167, api.Region{Kind: api.RegSlot, Off: 135}, api.OK},
		{168, api.Region{Kind: api.RegBlock, N: 1}, api.OK},
		{295, api.Region{Kind: api.RegBlock, N: 4, Off: 31}, api.OK},
		{296, api.Region{}, api.ErrNone},
		{-1, api.Region{}, api.ErrNone},
	} {
		if r, e := What(small, x.at); r != x.want || e != x.e {
			t.Errorf("What(%d) = %v, %v; want %v, %v", x.at, r, e, x.want, x.e)
		}
	}
}
