package view

import (
	"encoding/binary"
	"errors"
	"math"
	"math/rand/v2"
	"reflect"
	"slices"
	"strings"
	"testing"

	"parclose/ahead"
	"parclose/api"
	"parclose/attr"
	"parclose/entry"
	"parclose/inode"
	"parclose/media"
	"parclose/sum"
	"parclose/super"
)

// some is a geometry whose numbers are all different; small is the least one, large the greatest.
var (
	some  = api.Geom{Procs: 3, Inodes: 5, Blocks: 9}
	small = api.Geom{Procs: 1, Inodes: 2, Blocks: 4}
	large = api.Geom{Procs: 8, Inodes: 64, Blocks: 255}
)

// noise is a row of numbers that are the same in each run.
func noise(seed uint64) *rand.Rand {
	return rand.New(rand.NewPCG(seed, 19))
}

// geometries are valid ones, up to the least and the greatest.
func geometries() []api.Geom {
	return []api.Geom{some, small, large, {Procs: 2, Inodes: 64, Blocks: 4}, {Procs: 8, Inodes: 2, Blocks: 128}}
}

// broken are geometries that may not be.
func broken() []api.Geom {
	l := []api.Geom{{}, {Procs: -3, Inodes: -5, Blocks: -9}, {Procs: 9, Inodes: 5, Blocks: 9}, {Procs: 3, Inodes: 1, Blocks: 9}, {Procs: 3, Inodes: 65, Blocks: 9}, {Procs: 3, Inodes: 5, Blocks: 3}}
	for _, n := range []int{math.MinInt, -1, 0, 256, 1<<32 + 5, math.MaxInt} {
		l = append(l, api.Geom{Procs: n, Inodes: 5, Blocks: 9}, api.Geom{Procs: 3, Inodes: n, Blocks: 9}, api.Geom{Procs: 3, Inodes: 5, Blocks: n})
	}
	return l
}

// odd are numbers that no inode has, in any geometry.
var odd = []int{math.MinInt, math.MinInt + 1, math.MinInt32, -65, -64, -2, -1, 0, 65, 66, 255, 256, math.MaxInt32, 1 << 32, 1<<32 + 1, 1<<61 + 1, math.MaxInt - 1, math.MaxInt}

// linesOf is how many lines the media have, as chapter 4 tells it.
func linesOf(g api.Geom) int { return 2 + g.Inodes + 17*g.Procs + 4*g.Blocks }

// inodeAt is where the record of an inode begins, as chapter 4 tells it.
func inodeAt(i int) int { return 16 + 8*(i-1) }

// blockAt is where a block begins, as chapter 4 tells it.
func blockAt(g api.Geom, b int) int { return 16 + 8*g.Inodes + 136*g.Procs + 32*(b-1) }

// land is media while they are laid out: all their words.
type land struct {
	t     *testing.T
	g     api.Geom
	words []uint64
}

// bare is media whose inodes are all free, and whose blocks and maps are 0.
func bare(t *testing.T, g api.Geom) *land {
	m := &land{t: t, g: g, words: make([]uint64, 8*linesOf(g))}
	for i := 1; i <= g.Inodes; i++ {
		m.inode(i, api.Inode{Gen: uint32(i)})
	}
	return m
}

// inode lays a record.
func (m *land) inode(i int, x api.Inode) {
	m.t.Helper()
	l, e := inode.Encode(x, m.g)
	if e != api.OK {
		m.t.Fatal(i, x, e)
	}
	copy(m.words[inodeAt(i):], l)
}

// attr lays attributes in a block.
func (m *land) attr(b int, a api.Attr) {
	m.t.Helper()
	l, e := attr.Encode(a)
	if e != api.OK {
		m.t.Fatal(b, a, e)
	}
	copy(m.words[blockAt(m.g, b):], l)
}

// names lays a block of a directory.
func (m *land) names(b int, x api.DirBlock) {
	m.t.Helper()
	l, e := entry.Block(x, m.g)
	if e != api.OK {
		m.t.Fatal(b, x, e)
	}
	copy(m.words[blockAt(m.g, b):], l)
}

// bytes lays bytes in a block, from its first one on.
func (m *land) bytes(b int, s string) {
	m.t.Helper()
	if len(s) > 256 {
		m.t.Fatal(b, len(s))
	}
	for k := range len(s) {
		at := blockAt(m.g, b) + k/8
		m.words[at] = m.words[at]&^(0xFF<<(k%8*8)) | uint64(s[k])<<(k%8*8)
	}
}

// view is one of a device of these words, without an Ahead.
func (m *land) view() *View {
	m.t.Helper()
	d, e := media.Of(m.words)
	if e != api.OK {
		m.t.Fatal(e)
	}
	return m.of(d, nil)
}

// of is a view of that device.
func (m *land) of(d *media.Dev, a *ahead.Ahead) *View {
	m.t.Helper()
	v, e := Of(m.g, d, a)
	if e != api.OK || v == nil {
		m.t.Fatal(v, e)
	}
	return v
}

// fault is what is wrong, as the chapter tells it: the zero one is nothing.
type fault = api.Fault

// none is the fault of what there is not.
var none = fault{Err: api.ErrNone}

// form is the fault of a word.
func form(at int) fault { return fault{At: at, Err: api.ErrForm} }

// faultOf is the fault that an error tells, and whether it tells it as the chapter says: by wrapping it, and its number.
func faultOf(err error) (fault, bool) {
	if err == nil {
		return fault{}, true
	}
	var f fault
	if !errors.As(err, &f) || f.Err == api.OK || !errors.Is(err, f.Err) || !errors.Is(err, f) || err.Error() == "" {
		return f, false
	}
	for _, other := range []api.Errno{api.ErrNil, api.ErrNone, api.ErrForm} {
		if errors.Is(err, other) != (other == f.Err) {
			return f, false
		}
	}
	return f, true
}

// holds holds an error to a fault.
func holds(t *testing.T, err error, want fault) {
	t.Helper()
	if got, ok := faultOf(err); !ok || got != want {
		t.Fatalf("error %v tells %+v (%v); want %+v", err, got, ok, want)
	}
}

// inside is the fault of words that were decoded: its place is that of the word on the media.
func inside(err error, from int) fault {
	var f fault
	if errors.As(err, &f) {
		return form(from + f.At)
	}
	return f
}

// text is the visible bytes of a block, in order.
func (m *land) text(b int) []byte {
	var l []byte
	for _, w := range m.words[blockAt(m.g, b):][:32] {
		l = binary.LittleEndian.AppendUint64(l, w)
	}
	return l
}

// readInode is what Inode returns, as the chapter tells it.
func (m *land) readInode(i int) (api.Inode, fault) {
	if i < 1 || i > m.g.Inodes {
		return api.Inode{}, none
	}
	x, err := inode.Decode(m.words[inodeAt(i):][:8], m.g)
	return x, inside(err, inodeAt(i))
}

// readKind is the record of an inode of that kind, as the chapter tells it.
func (m *land) readKind(i int, kind uint8) (api.Inode, fault) {
	x, f := m.readInode(i)
	if f == (fault{}) && x.Kind != kind {
		return api.Inode{}, none
	}
	return x, f
}

// readAttr is what Attr returns, as the chapter tells it.
func (m *land) readAttr(i int) (api.Attr, fault) {
	x, f := m.readInode(i)
	if f == (fault{}) && x.Kind == 0 {
		f = none
	}
	if f != (fault{}) {
		return api.Attr{}, f
	}
	a, err := attr.Decode(m.words[blockAt(m.g, x.Attr):][:32])
	return a, inside(err, blockAt(m.g, x.Attr))
}

// readMap is what Map returns, as the chapter tells it.
func (m *land) readMap(i int) ([]int, fault) {
	x, f := m.readKind(i, api.KindFile)
	if f != (fault{}) {
		return nil, f
	}
	l := make([]int, 32)
	if x.Map == 0 {
		return l, f
	}
	for k, b := range m.text(x.Map)[:32] {
		if l[k] = int(b); l[k] > m.g.Blocks {
			return nil, form(blockAt(m.g, x.Map) + k/8)
		}
	}
	return l, f
}

// readDir is what Dir returns, as the chapter tells it.
func (m *land) readDir(i int) (api.Dir, fault) {
	x, f := m.readKind(i, api.KindDir)
	if f != (fault{}) {
		return api.Dir{}, f
	}
	var d api.Dir
	for k := range 4 {
		for b := x.Heads[k]; b != 0; {
			at := blockAt(m.g, b)
			read, err := entry.Read(m.words[at:][:32], m.g)
			if err != nil {
				return api.Dir{}, inside(err, at)
			}
			d.Buckets[k] = append(d.Buckets[k], api.Chunk{Block: b, Slots: read.Slots})
			if len(d.Buckets[k]) == m.g.Blocks && read.Next > 0 {
				return api.Dir{}, form(at)
			}
			b = read.Next
		}
	}
	return d, f
}

// readBody is what Body returns, as the chapter tells it.
func (m *land) readBody(i int) (string, fault) {
	x, f := m.readKind(i, api.KindLink)
	if f != (fault{}) {
		return "", f
	}
	return string(m.text(x.Map)[:x.Size]), f
}

// readBytes is all bytes of a file, as the chapter tells them.
func (m *land) readBytes(i int) (string, fault) {
	x, _ := m.readInode(i)
	numbers, f := m.readMap(i)
	if f != (fault{}) {
		return "", f
	}
	l := make([]byte, x.Size)
	for n := range l {
		if b := numbers[n/256]; b > 0 {
			l[n] = m.text(b)[n%256]
		}
	}
	return string(l), f
}

// piece is n bytes of all from off on, or as many as there are.
func piece(all string, off int64, n int) string {
	var l []byte
	for k := range len(all) {
		if off >= 0 && int64(k) >= off && len(l) < n {
			l = append(l, all[k])
		}
	}
	return string(l)
}

// zeros is how many of the first n bits are 0.
func zeros(l []uint64, n int) int {
	count := 0
	for k := range n {
		if l[k/64]>>(k%64)&1 == 0 {
			count++
		}
	}
	return count
}

// sameDir tells whether both directories are equal (of their lists, an empty one and none are).
func sameDir(a, b api.Dir) bool {
	for k := range a.Buckets {
		if !slices.Equal(a.Buckets[k], b.Buckets[k]) {
			return false
		}
	}
	return true
}

// agree holds all that the view tells to what the words are.
func (m *land) agree(v *View) {
	m.t.Helper()
	if g := v.Geom(); g != m.g {
		m.t.Fatal(g, m.g)
	}
	for at, want := range m.words {
		if w, e := v.Word(at); w != want || e != api.OK {
			m.t.Fatalf("Word(%d) = %x, %v; want %x", at, w, e, want)
		}
	}
	inodes, blocks := v.Rows()
	if !slices.Equal(inodes, m.words[8:9]) || !slices.Equal(blocks, m.words[9:13]) {
		m.t.Fatal(inodes, blocks, m.words[8:13])
	}
	freeInodes, freeBlocks := v.Free()
	if freeInodes != zeros(inodes, m.g.Inodes) || freeBlocks != zeros(blocks, m.g.Blocks) {
		m.t.Fatal(freeInodes, freeBlocks, inodes, blocks)
	}
	for i := -1; i <= m.g.Inodes+2; i++ {
		m.agreeInode(v, i)
		m.agreeFile(v, i)
	}
}

// agreeInode holds what the view tells of an inode of any kind to what the words are.
func (m *land) agreeInode(v *View, i int) {
	m.t.Helper()
	x, err := v.Inode(i)
	wantX, f := m.readInode(i)
	if holds(m.t, err, f); x != wantX {
		m.t.Fatal(i, x, wantX)
	}
	a, err := v.Attr(i)
	wantA, f := m.readAttr(i)
	if holds(m.t, err, f); !attr.Same(a, wantA) {
		m.t.Fatal(i, a, wantA)
	}
	d, err := v.Dir(i)
	wantD, f := m.readDir(i)
	if holds(m.t, err, f); !sameDir(d, wantD) {
		m.t.Fatal(i, d, wantD)
	}
	s, err := v.Body(i)
	wantS, f := m.readBody(i)
	if holds(m.t, err, f); s != wantS {
		m.t.Fatalf("%d: %q; want %q", i, s, wantS)
	}
}

// agreeFile holds what the view tells of an inode's map and bytes to what the words are.
func (m *land) agreeFile(v *View, i int) {
	m.t.Helper()
	l, err := v.Map(i)
	want, f := m.readMap(i)
	if holds(m.t, err, f); !slices.Equal(l, want) {
		m.t.Fatal(i, l, want)
	}
	all, f := m.readBytes(i)
	for _, x := range []struct {
		off int64
		n   int
	}{{0, 8192}, {0, 100}, {5, 6}, {250, 20}, {256, 256}, {math.MaxInt64, math.MaxInt}, {-1, 9}, {3, -1}} {
		s, err := v.Bytes(i, x.off, x.n)
		if holds(m.t, err, f); s != piece(all, x.off, x.n) {
			m.t.Fatalf("Bytes(%d, %d, %d) = %q; want %q", i, x.off, x.n, s, piece(all, x.off, x.n))
		}
	}
}

// attrs is some attributes, with lists and values.
func attrs(k int) api.Attr {
	return api.Attr{
		Bits: uint8(k % 8), Uid: uint16(k), Gid: 7,
		Access: api.Acl{Owner: 6, Group: 4, Users: []api.Named{{Id: uint16(k), Perm: 5}}, HasMask: true, Mask: 7},
		HasDef: true,
		Def:    api.Acl{Owner: 7, Groups: []api.Named{{Id: 3, Perm: 1}}, HasMask: true, Mask: 3},
		Xattrs: []api.Xattr{{Key: "a", Val: "one"}, {Key: "b", Val: strings.Repeat("x", k%17)}},
	}
}

// pattern is n bytes, of which no two near ones are equal.
func pattern(n, salt int) string {
	l := make([]byte, n)
	for k := range l {
		l[k] = byte(k*7 + k/256*3 + salt)
	}
	return string(l)
}

// The chapter's example: media that are freshly made.
func TestExamples(t *testing.T) {
	for _, high := range []bool{false, true} {
		for _, g := range geometries() {
			m := bare(t, g)
			for i := 1; i <= g.Inodes; i++ {
				m.inode(i, api.Inode{})
			}
			l, _ := super.Encode(g, high)
			copy(m.words, l)
			root := api.Inode{Kind: api.KindDir, Links: 1, Gen: 1, Attr: 1, Parent: 1}
			m.inode(1, root)
			open := api.Attr{Access: api.Acl{Owner: 7, Group: 7, Other: 7}}
			m.attr(1, open)
			m.words[8], m.words[9] = 1, 1
			v := m.view()
			if x, err := v.Inode(1); x != root || err != nil {
				t.Error(g, x, err)
			}
			if a, err := v.Attr(1); !attr.Same(a, open) || err != nil {
				t.Error(g, a, err)
			}
			if d, err := v.Dir(1); !sameDir(d, api.Dir{}) || err != nil {
				t.Error(g, d, err)
			}
			if inodes, blocks := v.Free(); inodes != g.Inodes-1 || blocks != g.Blocks-1 {
				t.Error(g, inodes, blocks)
			}
			m.agree(v)
		}
	}
}

// P19.1: Of without a device is ErrNil, whatever else is wrong.
func TestOfNil(t *testing.T) {
	for _, g := range append(geometries(), broken()...) {
		for _, a := range []*ahead.Ahead{nil, ahead.New()} {
			if v, e := Of(g, nil, a); v != nil || e != api.ErrNil {
				t.Error(g, v, e)
			}
		}
	}
}

// P19.1: a geometry that is not valid is ErrArg, whatever the device has.
func TestOfGeometry(t *testing.T) {
	for _, g := range broken() {
		for _, lines := range []int{1, 2, linesOf(small), linesOf(some), linesOf(g), api.MaxLines} {
			d, e := media.New(max(1, min(lines, api.MaxLines)))
			if e != api.OK {
				t.Fatal(e)
			}
			for _, a := range []*ahead.Ahead{nil, ahead.New()} {
				if v, e := Of(g, d, a); v != nil || e != api.ErrArg {
					t.Error(g, lines, v, e)
				}
			}
		}
	}
}

// P19.1: the device has the lines of the geometry, no fewer, and, as nothing follows the last block, no more.
func TestOfLines(t *testing.T) {
	for _, g := range geometries() {
		lines := linesOf(g)
		for _, n := range []int{1, 2, lines - 4, lines - 1, lines, lines + 1, lines + 4, 2 * lines, api.MaxLines} {
			d, _ := media.New(n)
			v, e := Of(g, d, nil)
			if n == lines && (v == nil || e != api.OK) || n != lines && (v != nil || e != api.ErrArg) {
				t.Error(g, n, v, e)
			}
		}
	}
}

// P19.1: of all valid numbers of slots, inodes and blocks there are views, and they tell them.
func TestGeom(t *testing.T) {
	for procs := 1; procs <= 8; procs++ {
		for inodes := 2; inodes <= 64; inodes += 1 + procs {
			for blocks := 4; blocks <= 255; blocks += 5 * procs {
				g := api.Geom{Procs: procs, Inodes: inodes, Blocks: blocks}
				d, _ := media.New(linesOf(g))
				v, e := Of(g, d, nil)
				if e != api.OK || v.Geom() != g {
					t.Fatal(g, e, v.Geom())
				}
			}
		}
	}
}

// P19.1: a word that the media don't have is ErrArg, also where one is committed for its place.
func TestWordNone(t *testing.T) {
	for _, g := range geometries() {
		m := bare(t, g)
		end := len(m.words)
		a := ahead.New()
		for _, at := range []int{end, end + 1, math.MaxInt} {
			if e := a.Put([]api.Redo{{At: at, Word: 5}}); e != api.OK {
				t.Fatal(e)
			}
		}
		d, _ := media.Of(m.words)
		for _, v := range []*View{m.of(d, nil), m.of(d, a)} {
			for _, at := range []int{math.MinInt, -end, -1, end, end + 1, 1 << 32, math.MaxInt} {
				if w, e := v.Word(at); w != 0 || e != api.ErrArg {
					t.Error(g, at, w, e)
				}
			}
			m.agree(v)
		}
	}
}

// P19.1: each word has the value that is committed, or else the one of the device, persistent or pending.
func TestWordVisible(t *testing.T) {
	m := bare(t, small)
	d, _ := media.Of(m.words)
	a := ahead.New()
	v := m.of(d, a)
	for at := range m.words {
		see := func(want uint64) {
			t.Helper()
			if w, e := v.Word(at); w != want || e != api.OK {
				t.Fatalf("Word(%d) = %x, %v; want %x", at, w, e, want)
			}
		}
		see(m.words[at])
		d.Store(at, uint64(at)+100)
		see(uint64(at) + 100)
		a.Put([]api.Redo{{At: at, Word: uint64(at) + 200}})
		see(uint64(at) + 200)
		d.Store(at, uint64(at)+300)
		see(uint64(at) + 200)
		a.Put([]api.Redo{{At: at, Word: 0}})
		see(0)
		a.Done(at)
		see(uint64(at) + 300)
		d.Crash(nil)
		see(m.words[at])
	}
	m.agree(v)
}

// scene is media with files, directories, links and a free inode.
func scene(t *testing.T) *land {
	m := bare(t, some)
	m.inode(1, api.Inode{Kind: api.KindDir, Links: 1, Gen: 3, Size: 3, Attr: 1, Heads: [4]int{2, 0, 3, 0}, Parent: 1})
	m.attr(1, attrs(1))
	b := api.DirBlock{Next: 4}
	b.Slots[0] = api.Slot{Ino: 2, Kind: api.KindFile, Name: "ab"}
	b.Slots[9] = api.Slot{Ino: 4, Kind: api.KindLink, Name: "0123456789abcdef"}
	m.names(2, b)
	m.names(3, api.DirBlock{})
	b = api.DirBlock{}
	b.Slots[4] = api.Slot{Ino: 3, Kind: api.KindDir, Name: "c"}
	m.names(4, b)
	m.inode(2, api.Inode{Kind: api.KindFile, Links: 1, Gen: 1, Size: 300, Attr: 5, Map: 6, Mtime: 4, Ctime: 5})
	m.attr(5, attrs(2))
	m.bytes(6, "\x00\x07")
	m.bytes(7, pattern(256, 1))
	m.inode(4, api.Inode{Kind: api.KindLink, Links: 1, Gen: 9, Size: 11, Attr: 8, Map: 9})
	m.attr(8, attrs(3))
	m.bytes(9, "over/there/and more")
	m.inode(5, api.Inode{Kind: api.KindFile, Links: 1, Size: 1, Attr: 5})
	m.words[8], m.words[9] = 0x1B, 0x1FF
	return m
}

// P19.1: everything is read through what is visible at the time of the call.
func TestVisible(t *testing.T) {
	before, after := bare(t, some), scene(t)
	d, _ := media.Of(before.words)
	a := ahead.New()
	v := before.of(d, a)
	before.agree(v)
	for at, w := range after.words {
		switch {
		case w == before.words[at]:
		case at%3 == 0:
			d.Store(at, w)
		case at%3 == 1:
			a.Put([]api.Redo{{At: at, Word: w}})
		default:
			d.Store(at, ^w)
			a.Put([]api.Redo{{At: at, Word: w}})
		}
	}
	after.agree(v)
	for _, r := range a.List() {
		d.Store(r.At, r.Word)
		a.Done(r.At)
	}
	after.agree(v)
	d.Crash(nil)
	before.agree(v)
}

// P19.1: one device can have views through different Aheads, and one Ahead can be laid over two devices.
func TestViewsApart(t *testing.T) {
	before, after := bare(t, some), scene(t)
	d, _ := media.Of(before.words)
	full, _ := media.Of(after.words)
	a := ahead.New()
	for at, w := range after.words {
		a.Put([]api.Redo{{At: at, Word: w}})
	}
	bareView, aheadView := before.of(d, nil), before.of(d, a)
	fullView := after.of(full, ahead.New())
	for range 2 {
		before.agree(bareView)
		after.agree(aheadView)
		after.agree(fullView)
	}
}

// P19.1, R5: to read changes neither the device nor what is committed.
func TestReadOnly(t *testing.T) {
	m := scene(t)
	d, _ := media.Of(m.words)
	d.Store(16, m.words[16])
	d.Store(40, 1)
	d.Flush(5)
	a := ahead.New()
	a.Put([]api.Redo{{At: 40, Word: m.words[40]}, {At: 9999, Word: 3}})
	words, kept, pending, list := d.Words(), d.Kept(), d.Pending(), a.List()
	m.agree(m.of(d, a))
	if !slices.Equal(d.Words(), words) || !slices.Equal(d.Kept(), kept) || !slices.Equal(d.Pending(), pending) || !slices.Equal(a.List(), list) {
		t.Error("reading changed something")
	}
}

// R3: of nil, what returns an error returns ErrNil at 0, and everything else is zero.
func TestNil(t *testing.T) {
	var v *View
	want := fault{Err: api.ErrNil}
	for _, i := range append(slices.Clone(odd), 1, 2, 64) {
		if w, e := v.Word(i); w != 0 || e != api.ErrNil {
			t.Error(i, w, e)
		}
		x, err := v.Inode(i)
		if holds(t, err, want); x != (api.Inode{}) {
			t.Error(i, x)
		}
		a, err := v.Attr(i)
		if holds(t, err, want); !reflect.ValueOf(a).IsZero() {
			t.Error(i, a)
		}
		l, err := v.Map(i)
		if holds(t, err, want); l != nil {
			t.Error(i, l)
		}
		d, err := v.Dir(i)
		if holds(t, err, want); !reflect.ValueOf(d).IsZero() {
			t.Error(i, d)
		}
		s, err := v.Body(i)
		if holds(t, err, want); s != "" {
			t.Error(i, s)
		}
		s, err = v.Bytes(i, int64(i), i)
		if holds(t, err, want); s != "" {
			t.Error(i, s)
		}
	}
	if g := v.Geom(); g != (api.Geom{}) {
		t.Error(g)
	}
	if inodes, blocks := v.Rows(); inodes != nil || blocks != nil {
		t.Error(inodes, blocks)
	}
	if inodes, blocks := v.Free(); inodes != 0 || blocks != 0 {
		t.Error(inodes, blocks)
	}
}

// P19.2: each inode has the record that stands at its place.
func TestInode(t *testing.T) {
	for _, g := range geometries() {
		m := bare(t, g)
		for i := 1; i <= g.Inodes; i++ {
			x := []api.Inode{
				{Gen: uint32(i)},
				{Kind: api.KindFile, Links: i % 9, Gen: math.MaxUint32, Size: 8192, Attr: g.Blocks, Map: i % (g.Blocks + 1), Mtime: int64(i), Ctime: 1 << 40},
				{Kind: api.KindDir, Links: 1, Gen: uint32(i), Size: 4096, Attr: 1, Heads: [4]int{0, 1, g.Blocks, 2}, Parent: i},
				{Kind: api.KindLink, Links: 8, Gen: 5, Size: 64, Attr: 3, Map: 4, Mtime: 1 << 40, Ctime: int64(i)},
			}[i%4]
			m.inode(i, x)
			if got, err := m.view().Inode(i); got != x || err != nil {
				t.Fatal(g, i, got, err)
			}
		}
		v := m.view()
		for i := 1; i <= g.Inodes; i++ {
			got, err := v.Inode(i)
			if want, _ := m.readInode(i); got != want || err != nil {
				t.Fatal(g, i, got, err)
			}
		}
	}
}

// P19.2, P19.3: an inode that there is not is ErrNone at 0 wherever it is asked for, also ahead of a wrong off or n.
func TestInodeNone(t *testing.T) {
	for _, g := range geometries() {
		v := bare(t, g).view()
		for _, i := range append(slices.Clone(odd), g.Inodes+1, g.Inodes+2, -g.Inodes) {
			refusedAll(t, v, i, none)
		}
	}
}

// refusedAll holds all that is told of an inode to that fault.
func refusedAll(t *testing.T, v *View, i int, f fault) {
	t.Helper()
	x, err := v.Inode(i)
	if holds(t, err, f); x != (api.Inode{}) {
		t.Fatal(i, x)
	}
	refusedRest(t, v, i, f)
}

// refusedRest holds all that is told of an inode beside its record to that fault.
func refusedRest(t *testing.T, v *View, i int, f fault) {
	t.Helper()
	a, err := v.Attr(i)
	if holds(t, err, f); !reflect.ValueOf(a).IsZero() {
		t.Fatal(i, a)
	}
	d, err := v.Dir(i)
	if holds(t, err, f); !reflect.ValueOf(d).IsZero() {
		t.Fatal(i, d)
	}
	s, err := v.Body(i)
	if holds(t, err, f); s != "" {
		t.Fatal(i, s)
	}
	refusedFile(t, v, i, f)
}

// refusedFile holds an inode's map and bytes to that fault.
func refusedFile(t *testing.T, v *View, i int, f fault) {
	t.Helper()
	l, err := v.Map(i)
	if holds(t, err, f); l != nil {
		t.Fatal(i, l)
	}
	for _, off := range []int64{0, 1, -1, math.MaxInt64} {
		for _, n := range []int{0, 1, -1, math.MaxInt} {
			s, err := v.Bytes(i, off, n)
			if holds(t, err, f); s != "" {
				t.Fatal(i, off, n, s)
			}
		}
	}
}

// P19.2: words that are no record are ErrForm, at the place on the media of the word that inode.Decode tells.
func TestInodeForm(t *testing.T) {
	reached := map[int]bool{}
	for _, g := range geometries() {
		for _, i := range []int{1, 2, g.Inodes} {
			for _, x := range []api.Inode{{Kind: api.KindFile, Attr: 1, Map: 2}, {Kind: api.KindDir, Attr: 1, Parent: 1}} {
				for at := range 8 {
					m := bare(t, g)
					m.inode(i, x)
					// Of word 0 a bit that no record has: the high ones are those of Gen.
					m.words[inodeAt(i)+at] ^= 1 << min(60, 20+40*at)
					if at < 7 {
						reseal(m.words[inodeAt(i):][:8])
					}
					refusedAll(t, m.view(), i, form(inodeAt(i)+at))
					reached[at] = true
					m.agree(m.view())
				}
			}
		}
	}
	if len(reached) != 8 {
		t.Error(reached)
	}
}

// reseal makes the last word the seal of the others, in place.
func reseal(l []uint64) {
	copy(l, sum.Seal(l[:len(l)-1]))
}

// P19.2: one record that is wrong is no matter to the others.
func TestInodeApart(t *testing.T) {
	for wrong := 1; wrong <= 5; wrong++ {
		m := scene(t)
		m.words[inodeAt(wrong)+7]++
		v := m.view()
		m.agree(v)
		for i := 1; i <= 5; i++ {
			if _, err := v.Inode(i); (err != nil) != (i == wrong) {
				t.Error(wrong, i, err)
			}
		}
	}
}

// P19.3: a free inode has nothing but its record, whatever its Gen is.
func TestFreeInode(t *testing.T) {
	for _, gen := range []uint32{0, 1, math.MaxUint32} {
		m := scene(t)
		m.inode(3, api.Inode{Gen: gen})
		v := m.view()
		if x, err := v.Inode(3); x != (api.Inode{Gen: gen}) || err != nil {
			t.Error(x, err)
		}
		refusedRest(t, v, 3, none)
	}
}

// P19.3: what a kind does not have is ErrNone at 0, also where the words that it has are none of the kind.
func TestKinds(t *testing.T) {
	for _, wrong := range []bool{false, true} {
		m := scene(t)
		for b := 1; wrong && b <= 9; b++ {
			for k := range 32 {
				m.words[blockAt(some, b)+k] = math.MaxUint64
			}
		}
		v := m.view()
		for i, kind := range map[int]uint8{1: api.KindDir, 2: api.KindFile, 4: api.KindLink} {
			if x, err := v.Inode(i); x.Kind != kind || err != nil {
				t.Fatal(i, x, err)
			}
			if kind != api.KindFile {
				refusedFile(t, v, i, none)
			}
			if kind != api.KindDir {
				d, err := v.Dir(i)
				if holds(t, err, none); !reflect.ValueOf(d).IsZero() {
					t.Error(i, d)
				}
			}
			if kind != api.KindLink {
				s, err := v.Body(i)
				if holds(t, err, none); s != "" {
					t.Error(i, s)
				}
			}
		}
		m.agree(v)
	}
}

// P19.3: attributes are those of the block Attr, of each kind, whichever block it is.
func TestAttr(t *testing.T) {
	for _, g := range geometries() {
		m := bare(t, g)
		for b := 1; b <= g.Blocks; b++ {
			m.attr(b, attrs(b))
		}
		for b := 1; b <= g.Blocks; b++ {
			m.inode(1, api.Inode{Kind: api.KindFile, Attr: b})
			m.inode(2, []api.Inode{
				{Kind: api.KindDir, Attr: b, Parent: 1},
				{Kind: api.KindLink, Attr: b, Size: 1, Map: 1},
			}[b%2])
			v := m.view()
			for i := 1; i <= 2; i++ {
				if a, err := v.Attr(i); !attr.Same(a, attrs(b)) || err != nil {
					t.Fatal(g, b, i, a, err)
				}
			}
		}
	}
}

// P19.3: words that are no attributes are ErrForm, at the place on the media of the word that attr.Decode tells.
func TestAttrForm(t *testing.T) {
	for _, g := range geometries() {
		for _, b := range []int{1, 2, g.Blocks} {
			for _, x := range []api.Inode{{Kind: api.KindFile, Attr: b}, {Kind: api.KindDir, Attr: b, Parent: 1}, {Kind: api.KindLink, Attr: b, Size: 1, Map: 1}} {
				for at := range 32 {
					m := bare(t, g)
					m.inode(2, x)
					m.attr(b, attrs(b))
					m.words[blockAt(g, b)+at] ^= 1 << 63
					want := form(blockAt(g, b) + 31)
					if at == 0 {
						want = form(blockAt(g, b))
					}
					a, err := m.view().Attr(2)
					if holds(t, err, want); !reflect.ValueOf(a).IsZero() {
						t.Fatal(a)
					}
					if at == 0 || at == 31 {
						continue
					}
					reseal(m.words[blockAt(g, b):][:32])
					m.agreeInode(m.view(), 2)
					if at == 1 {
						_, err := m.view().Attr(2)
						holds(t, err, form(blockAt(g, b)+1))
					}
				}
			}
		}
	}
}

// P19.3: without Map all numbers are 0, whatever stands in the blocks.
func TestMapNone(t *testing.T) {
	for _, g := range geometries() {
		m := bare(t, g)
		for at := blockAt(g, 1); at < len(m.words); at++ {
			m.words[at] = math.MaxUint64
		}
		m.inode(2, api.Inode{Kind: api.KindFile, Attr: 1, Size: 8192})
		v := m.view()
		if l, err := v.Map(2); !slices.Equal(l, make([]int, 32)) || err != nil {
			t.Error(g, l, err)
		}
		if s, err := v.Bytes(2, 0, 9999); s != strings.Repeat("\x00", 8192) || err != nil {
			t.Error(g, len(s), err)
		}
	}
}

// P19.3: a map has 32 numbers, each from 0 to Blocks, in the first four words of its block; the others are no matter.
func TestMap(t *testing.T) {
	for _, g := range geometries() {
		for _, b := range []int{1, 2, g.Blocks} {
			m := bare(t, g)
			m.inode(1, api.Inode{Kind: api.KindFile, Attr: 1, Map: b})
			for at := range 32 {
				m.words[blockAt(g, b)+at] = math.MaxUint64
			}
			for first := range g.Blocks + 1 {
				var want []int
				var l []byte
				for k := range 32 {
					n := (first + k*k) % (g.Blocks + 1)
					want, l = append(want, n), append(l, byte(n))
				}
				m.bytes(b, string(l))
				if got, err := m.view().Map(1); !slices.Equal(got, want) || err != nil {
					t.Fatal(g, b, got, want, err)
				}
			}
		}
	}
}

// P19.3: a number greater than Blocks is ErrForm at its word on the media, of several the first one.
func TestMapForm(t *testing.T) {
	for _, g := range geometries() {
		for b := 1; b <= min(g.Blocks, 6); b++ {
			for k := range 32 {
				for _, n := range []int{g.Blocks, g.Blocks + 1, 254, 255} {
					m := bare(t, g)
					m.inode(2, api.Inode{Kind: api.KindFile, Attr: 1, Map: b, Size: 1})
					l := make([]byte, 32)
					l[k] = byte(n)
					m.bytes(b, string(l))
					if n > g.Blocks && n < 256 {
						refusedFile(t, m.view(), 2, form(blockAt(g, b)+k/8))
					}
					m.agreeFile(m.view(), 2)
					for later := k + 1; later < 32; later += 5 {
						l[later] = 255
						m.bytes(b, string(l))
						m.agreeFile(m.view(), 2)
					}
				}
			}
		}
	}
}

// P19.3: a map is looked at alone: its numbers may be any blocks, also that of the attributes, its own, and one twice.
func TestMapShared(t *testing.T) {
	m := bare(t, small)
	m.inode(1, api.Inode{Kind: api.KindFile, Attr: 2, Map: 3, Size: 256*4 + 9})
	m.attr(2, attrs(9))
	m.bytes(3, "\x02\x03\x02\x03\x03")
	v := m.view()
	if l, err := v.Map(1); !slices.Equal(l[:6], []int{2, 3, 2, 3, 3, 0}) || err != nil {
		t.Error(l, err)
	}
	m.agree(v)
}

// P19.3: each piece of a file's bytes, at the edges of words, blocks and its size, with blocks and without.
func TestBytes(t *testing.T) {
	for _, size := range []int{0, 1, 7, 8, 9, 255, 256, 257, 300, 511, 512, 513, 1000, 1024, 2047, 7936, 8191, 8192} {
		m := bare(t, some)
		m.inode(2, api.Inode{Kind: api.KindFile, Attr: 1, Map: 2, Size: int64(size)})
		numbers := make([]byte, 32)
		for k := range numbers {
			if k%4 != 1 {
				numbers[k] = byte(3 + k%7)
			}
		}
		m.bytes(2, string(numbers))
		for b := 3; b <= 9; b++ {
			m.bytes(b, pattern(256, 11*b))
		}
		all, f := m.readBytes(2)
		if f != (fault{}) || len(all) != size {
			t.Fatal(size, len(all), f)
		}
		v := m.view()
		for _, off := range []int{0, 1, 7, 8, 9, 248, 255, 256, 257, 260, 511, 512, 513, 1000, size - 257, size - 256, size - 9, size - 8, size - 1, size, size + 1, size + 256, 8191, 8192, 8193} {
			for _, n := range []int{0, 1, 2, 7, 8, 9, 248, 255, 256, 257, 512, 8191, 8192, 8193, size, size - off, size - off + 1} {
				s, err := v.Bytes(2, int64(off), n)
				if want := piece(all, int64(off), n); s != want || err != nil {
					t.Fatalf("size %d: Bytes(2, %d, %d) = %q, %v; want %q", size, off, n, s, err, want)
				}
			}
		}
	}
}

// P19.3: a negative off or n, and one behind the end, has no bytes, however far it is; a great n has all that there are.
func TestBytesFar(t *testing.T) {
	m := scene(t)
	v := m.view()
	all, _ := m.readBytes(2)
	if len(all) != 300 {
		t.Fatal(len(all))
	}
	far := []int64{math.MinInt64, math.MinInt64 + 1, -1 << 32, -256, -1, 300, 301, 1 << 31, 1 << 32, 1<<32 + 5, math.MaxInt64 - 1, math.MaxInt64}
	for _, off := range far {
		for _, n := range []int{math.MinInt, -1, 0, 1, 256, 1 << 32, math.MaxInt} {
			if s, err := v.Bytes(2, off, n); s != "" || err != nil {
				t.Error(off, n, s, err)
			}
		}
	}
	for _, off := range []int64{0, 1, 255, 256, 299} {
		for _, n := range []int{math.MinInt, math.MinInt + 1, -1 << 32, -256, -1} {
			if s, err := v.Bytes(2, off, n); s != "" || err != nil {
				t.Error(off, n, s, err)
			}
		}
		for _, n := range []int{300, 1 << 31, 1 << 32, math.MaxInt - 300, math.MaxInt - 1, math.MaxInt} {
			if s, err := v.Bytes(2, off, n); s != all[off:] || err != nil {
				t.Error(off, n, s, err)
			}
		}
	}
}

// P19.3: of each byte of a file, the block and the byte in it, one by one, with 32 blocks of their own.
func TestBytesEach(t *testing.T) {
	g := api.Geom{Procs: 1, Inodes: 2, Blocks: 40}
	m := bare(t, g)
	m.inode(1, api.Inode{Kind: api.KindFile, Attr: 1, Map: 2, Size: 8192})
	var numbers []byte
	for k := range 32 {
		numbers = append(numbers, byte(40-k))
		m.bytes(40-k, pattern(256, 5*k))
	}
	m.bytes(2, string(numbers))
	v := m.view()
	for n := range 8192 {
		want := pattern(256, 5*(n/256))[n%256 : n%256+1]
		if s, err := v.Bytes(1, int64(n), 1); s != want || err != nil {
			t.Fatalf("%d: %q, %v; want %q", n, s, err, want)
		}
	}
}

// P19.3: a link's body of each length, of any bytes, from the block Map, whichever that is.
func TestBody(t *testing.T) {
	r := noise(1)
	for _, g := range geometries() {
		for size := 1; size <= 64; size++ {
			b := 1 + r.IntN(g.Blocks)
			m := bare(t, g)
			m.inode(g.Inodes, api.Inode{Kind: api.KindLink, Attr: 1, Size: int64(size), Map: b})
			want := pattern(256, r.IntN(256))
			m.bytes(b, want)
			if s, err := m.view().Body(g.Inodes); s != want[:size] || err != nil {
				t.Fatalf("%v %d: %q, %v; want %q", g, size, s, err, want[:size])
			}
		}
	}
}

// slot is one that has a name of its own for each number.
func slot(k int) api.Slot {
	return api.Slot{Ino: 1 + k%2, Kind: uint8(1 + k%3), Name: "n" + string(rune('a'+k%26)) + string(rune('a'+k/26%26)) + string(rune('a'+k/676))}
}

// P19.3: each bucket has the blocks that Next leads to from its head on, in order, with their slots.
func TestDir(t *testing.T) {
	m := bare(t, some)
	chains := [4][]int{{9}, {}, {2, 5, 3, 8}, {7, 4}}
	var want api.Dir
	x := api.Inode{Kind: api.KindDir, Links: 1, Attr: 1, Parent: 2}
	for k, chain := range chains {
		for at, b := range chain {
			c := api.DirBlock{}
			if at+1 < len(chain) {
				c.Next = chain[at+1]
			}
			for s := range c.Slots {
				if (s+b)%3 > 0 {
					c.Slots[s] = slot(10*b + s)
				}
			}
			m.names(b, c)
			want.Buckets[k] = append(want.Buckets[k], api.Chunk{Block: b, Slots: c.Slots})
		}
		if len(chain) > 0 {
			x.Heads[k] = chain[0]
		}
	}
	m.inode(3, x)
	v := m.view()
	if d, err := v.Dir(3); !sameDir(d, want) || err != nil {
		t.Error(d, err)
	}
	m.agree(v)
}

// P19.3: one bucket can have all blocks, if the last one has no Next; a directory is read without its attributes.
func TestDirWhole(t *testing.T) {
	for _, g := range geometries() {
		for k := range 4 {
			m := bare(t, g)
			x := api.Inode{Kind: api.KindDir, Attr: 1, Parent: 1}
			x.Heads[k] = g.Blocks
			m.inode(2, x)
			for b := g.Blocks; b >= 1; b-- {
				c := api.DirBlock{Next: b - 1}
				c.Slots[b%10] = slot(b)
				m.names(b, c)
			}
			d, err := m.view().Dir(2)
			if err != nil || len(d.Buckets[k]) != g.Blocks || d.Buckets[k][g.Blocks-1].Block != 1 || d.Buckets[k][0].Slots[g.Blocks%10] != slot(g.Blocks) {
				t.Fatal(g, k, err, len(d.Buckets[k]))
			}
			m.names(1, api.DirBlock{Next: g.Blocks})
			d, err = m.view().Dir(2)
			if holds(t, err, form(blockAt(g, 1))); !reflect.ValueOf(d).IsZero() {
				t.Fatal(g, k)
			}
		}
	}
}

// P19.3: a bucket that leads back to one of its blocks is ErrForm, at the block that is the Blocks-th one.
func TestDirRound(t *testing.T) {
	for _, g := range []api.Geom{small, some, large} {
		for length := 1; length <= min(g.Blocks, 12); length++ {
			for back := 1; back <= length; back++ {
				m := bare(t, g)
				m.inode(1, api.Inode{Kind: api.KindDir, Attr: 1, Parent: 1, Heads: [4]int{0, 0, 1, 0}})
				for b := 1; b < length; b++ {
					m.names(b, api.DirBlock{Next: b + 1})
				}
				m.names(length, api.DirBlock{Next: back})
				last := 1
				for which := 1; which < g.Blocks; which++ {
					if last++; last > length {
						last = back
					}
				}
				d, err := m.view().Dir(1)
				if holds(t, err, form(blockAt(g, last))); !reflect.ValueOf(d).IsZero() {
					t.Fatal(g, length, back)
				}
			}
		}
	}
}

// P19.3: the blocks of each bucket are counted by themselves: together they can be more than there are.
func TestDirTogether(t *testing.T) {
	m := bare(t, small)
	for b := 4; b >= 1; b-- {
		m.names(b, api.DirBlock{Next: b - 1})
	}
	m.inode(1, api.Inode{Kind: api.KindDir, Attr: 1, Parent: 1, Heads: [4]int{4, 3, 4, 4}})
	d, err := m.view().Dir(1)
	if err != nil || len(d.Buckets[0]) != 4 || len(d.Buckets[1]) != 3 || len(d.Buckets[2]) != 4 || len(d.Buckets[3]) != 4 {
		t.Error(d, err)
	}
	m.agree(m.view())
}

// P19.3: words that are no block of a directory are ErrForm, at the place on the media of the word that entry.Read tells.
func TestDirForm(t *testing.T) {
	for _, g := range geometries() {
		for which := range 3 {
			for at := range 32 {
				m := bare(t, g)
				m.inode(2, api.Inode{Kind: api.KindDir, Attr: 1, Parent: 1, Heads: [4]int{0, 2, 0, 0}})
				for k, b := range []int{2, 4, 3} {
					c := api.DirBlock{Next: []int{4, 3, 0}[k]}
					for s := range c.Slots {
						c.Slots[s] = slot(10*b + s)
					}
					m.names(b, c)
				}
				b := []int{2, 4, 3}[which]
				m.words[blockAt(g, b)+at] ^= 1 << 61
				want := form(blockAt(g, b) + at)
				if at >= 2 {
					want = form(blockAt(g, b) + 2 + (at-2)/3*3)
				}
				d, err := m.view().Dir(2)
				if holds(t, err, want); !reflect.ValueOf(d).IsZero() {
					t.Fatal(g, d)
				}
			}
		}
	}
}

// P19.3: of several faults the one that is met first is told: bucket by bucket, block by block, and a block's own words first.
func TestDirFirst(t *testing.T) {
	m := bare(t, small)
	m.inode(1, api.Inode{Kind: api.KindDir, Attr: 1, Parent: 1, Heads: [4]int{1, 2, 3, 4}})
	for b := 1; b <= 4; b++ {
		m.names(b, api.DirBlock{Next: b})
	}
	told := func(want int) {
		t.Helper()
		_, err := m.view().Dir(1)
		holds(t, err, form(want))
		m.agreeInode(m.view(), 1)
	}
	told(blockAt(small, 1))
	m.words[blockAt(small, 1)+5] = 1
	told(blockAt(small, 1) + 5)
	m.words[blockAt(small, 2)+1] = 1
	told(blockAt(small, 1) + 5)
	m.names(1, api.DirBlock{})
	told(blockAt(small, 2) + 1)
	m.names(1, api.DirBlock{Next: 2})
	told(blockAt(small, 2) + 1)
	m.names(2, api.DirBlock{})
	told(blockAt(small, 3))
	m.words[blockAt(small, 4)] = 0
	told(blockAt(small, 3))
	m.names(3, api.DirBlock{})
	told(blockAt(small, 4))
	// The fourth block of a bucket, whose words are wrong, and which goes on.
	m.names(1, api.DirBlock{Next: 2})
	m.names(2, api.DirBlock{Next: 3})
	m.names(3, api.DirBlock{Next: 4})
	m.names(4, api.DirBlock{Next: 1})
	told(blockAt(small, 4))
	m.words[blockAt(small, 4)+8] = 1
	told(blockAt(small, 4) + 8)
}

// P19.4: the rows are the words 8, and 9 to 12, whatever they have.
func TestRows(t *testing.T) {
	r := noise(2)
	for _, g := range geometries() {
		for range 50 {
			m := bare(t, g)
			for at := range 16 {
				m.words[at] = r.Uint64()
			}
			inodes, blocks := m.view().Rows()
			if !slices.Equal(inodes, m.words[8:9]) || !slices.Equal(blocks, m.words[9:13]) {
				t.Fatal(g, inodes, blocks, m.words[:16])
			}
		}
	}
}

// P19.4: each bit of an inode, and of a block, that is 1 is one fewer that is free; bits behind these are no matter.
func TestFree(t *testing.T) {
	for _, g := range geometries() {
		m := bare(t, g)
		see := func(inodes, blocks int) {
			t.Helper()
			if i, b := m.view().Free(); i != inodes || b != blocks {
				t.Fatal(g, i, b, inodes, blocks, m.words[8:13])
			}
		}
		see(g.Inodes, g.Blocks)
		for k := range 64 {
			m.words[8] = 1 << k
			want := g.Inodes
			if k < g.Inodes {
				want--
			}
			see(want, g.Blocks)
		}
		m.words[8] = 0
		for k := range 256 {
			m.words[9+k/64] = 1 << (k % 64)
			want := g.Blocks
			if k < g.Blocks {
				want--
			}
			see(g.Inodes, want)
			m.words[9+k/64] = 0
		}
		for at := 8; at < 13; at++ {
			m.words[at] = math.MaxUint64
		}
		see(0, 0)
		m.words[7], m.words[13] = math.MaxUint64, math.MaxUint64
		see(0, 0)
	}
}

// P19.4: the maps are counted, and not what the inodes say.
func TestFreeBits(t *testing.T) {
	m := scene(t)
	for _, x := range [][2]uint64{{0, 0}, {1, 2}, {0x1F, 0x1FF}, {0x10, 0x100}, {math.MaxUint64, 0}, {0, math.MaxUint64}} {
		m.words[8], m.words[9] = x[0], x[1]
		m.agree(m.view())
	}
}

// R5: what is told is new memory each time.
func TestMemory(t *testing.T) {
	m := scene(t)
	v := m.view()
	for range 2 {
		l, _ := v.Map(2)
		for k := range l {
			l[k] = 99
		}
		a, _ := v.Attr(1)
		a.Access.Users[0].Perm, a.Def.Groups[0].Perm, a.Xattrs[0].Val = 7, 7, "two"
		d, _ := v.Dir(1)
		d.Buckets[0][0].Block, d.Buckets[0][1].Slots[4].Ino, d.Buckets[2][0].Slots[0].Name = 1, 1, "x"
		_ = append(d.Buckets[0][:1], api.Chunk{Block: 5})
		inodes, blocks := v.Rows()
		inodes[0], blocks[0], blocks[3] = 77, 78, 79
		_, _ = append(inodes, 1), append(blocks, 1)
		m.agree(v)
	}
}

// R5: no two lists of one answer share memory, nor those of two answers.
func TestMemoryApart(t *testing.T) {
	m := scene(t)
	x := api.Inode{Kind: api.KindDir, Attr: 1, Parent: 1, Heads: [4]int{2, 2, 2, 4}}
	m.inode(1, x)
	v := m.view()
	d, _ := v.Dir(1)
	twin, _ := v.Dir(1)
	for k := range d.Buckets {
		_ = append(d.Buckets[k], api.Chunk{Block: 77})
		d.Buckets[k][0].Block = 100 + k
	}
	for k := range d.Buckets {
		if d.Buckets[k][0].Block != 100+k || twin.Buckets[k][0].Block != x.Heads[k] {
			t.Error(k, d.Buckets[k], twin.Buckets[k])
		}
	}
	inodes, blocks := v.Rows()
	more := append(inodes, 5)
	if blocks[0] != m.words[9] || more[1] != 5 {
		t.Error(inodes, blocks)
	}
	first, _ := v.Map(2)
	second, _ := v.Map(2)
	first[0] = 55
	if second[0] == 55 {
		t.Error(second)
	}
}

// drawnRecord is a record of any kind that may be.
func drawnRecord(r *rand.Rand, g api.Geom) api.Inode {
	b := func(least int) int { return least + r.IntN(g.Blocks+1-least) }
	switch r.IntN(5) {
	case 0:
		return api.Inode{Gen: r.Uint32()}
	case 1:
		return api.Inode{Kind: api.KindLink, Links: r.IntN(9), Size: 1 + r.Int64N(64), Attr: b(1), Map: b(1)}
	case 2, 3:
		return api.Inode{Kind: api.KindDir, Links: r.IntN(2), Size: r.Int64N(40), Attr: b(1), Heads: [4]int{b(0), b(0), 0, b(0)}, Parent: 1 + r.IntN(g.Inodes)}
	}
	return api.Inode{Kind: api.KindFile, Links: r.IntN(9), Size: r.Int64N(8193), Attr: b(1), Map: b(0), Ctime: 1}
}

// drawn is media with any records, and with blocks of all kinds.
func drawn(t *testing.T, r *rand.Rand, g api.Geom) *land {
	m := bare(t, g)
	for i := 1; i <= g.Inodes; i++ {
		m.inode(i, drawnRecord(r, g))
	}
	for b := 1; b <= g.Blocks; b++ {
		switch r.IntN(4) {
		case 0:
			m.attr(b, attrs(r.IntN(1000)))
		case 1:
			l := make([]byte, 256)
			for k := range l {
				l[k] = byte(r.IntN(g.Blocks + 1))
			}
			m.bytes(b, string(l))
		default:
			c := api.DirBlock{Next: max(0, r.IntN(2*g.Blocks)-g.Blocks)}
			for k := range c.Slots {
				if r.IntN(2) == 0 {
					c.Slots[k] = slot(r.IntN(900))
				}
			}
			m.names(b, c)
		}
	}
	for at := 8; at < 13; at++ {
		m.words[at] = r.Uint64()
	}
	return m
}

// over is a view of the land's words, which are partly persistent, partly pending, and partly committed.
func (m *land) over(r *rand.Rand) *View {
	m.t.Helper()
	base := slices.Clone(m.words)
	a := ahead.New()
	var stores []api.Redo
	for at, w := range m.words {
		switch r.IntN(8) {
		case 0:
			base[at] = r.Uint64()
			a.Put([]api.Redo{{At: at, Word: w}})
		case 1:
			base[at] = r.Uint64()
			stores = append(stores, api.Redo{At: at, Word: w})
		}
	}
	d, e := media.Of(base)
	if e != api.OK {
		m.t.Fatal(e)
	}
	for _, x := range stores {
		d.Store(x.At, x.Word)
	}
	return m.of(d, a)
}

// All promises: drawn media are read as the chapter tells it, wherever their words stand, and also with some words turned.
func TestDrawn(t *testing.T) {
	r := noise(3)
	for round := range 400 {
		g := api.Geom{Procs: 1 + r.IntN(8), Inodes: 2 + r.IntN(9), Blocks: 4 + r.IntN(12)}
		m := drawn(t, r, g)
		m.agree(m.view())
		m.agree(m.over(r))
		for range 1 + round%7 {
			m.words[r.IntN(len(m.words))] ^= 1 << r.IntN(64)
		}
		m.agree(m.over(r))
	}
	for _, g := range geometries() {
		m := drawn(t, r, g)
		m.agree(m.over(r))
	}
}

// R1: media of any words are read.
func TestNoise(t *testing.T) {
	r := noise(4)
	for range 100 {
		m := bare(t, some)
		for at := range m.words {
			m.words[at] = r.Uint64() >> r.IntN(64)
		}
		for i := 1; i <= some.Inodes; i++ {
			if r.IntN(3) > 0 {
				m.inode(i, drawnRecord(r, some))
			}
		}
		m.agree(m.over(r))
	}
}
