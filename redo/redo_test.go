package redo

import (
	"encoding/binary"
	"errors"
	"hash/crc32"
	"math"
	"math/rand/v2"
	"slices"
	"strings"
	"testing"

	"parclose/api"
)

// noise is a row of numbers that are the same in each run.
func noise(seed uint64) *rand.Rand {
	return rand.New(rand.NewPCG(seed, 16))
}

// commitOfWords is the commit word of so many entries with that body, as the definition tells it.
func commitOfWords(entries int, body []uint64) uint64 {
	var b []byte
	for _, w := range body {
		b = binary.LittleEndian.AppendUint64(b, w)
	}
	return uint64(entries) + 256*0x52 + uint64(crc32.ChecksumIEEE(b))*(1<<32)
}

// modelLay is what Lay is to return.
func modelLay(l []api.Redo) ([]uint64, uint64, api.Errno) {
	if len(l) > 64 {
		return nil, 0, 5
	}
	body := make([]uint64, 2*len(l))
	for i, r := range l {
		if r.At < 0 || r.At >= 1048576 {
			return nil, 0, 2
		}
		body[2*i], body[2*i+1] = uint64(r.At), r.Word
	}
	return body, commitOfWords(len(l), body), 0
}

// modelRead is what Read is to return; ok tells whether there is no error.
func modelRead(slot []uint64) (l []api.Redo, there, ok bool) {
	if len(slot) != 136 {
		return nil, false, false
	}
	if slot[0] == 0 {
		return nil, false, true
	}
	entries := int(slot[0] % 256)
	if entries > 64 {
		return nil, false, false
	}
	for i := range entries {
		at := slot[8+2*i]
		if at >= 1048576 {
			return nil, false, false
		}
		l = append(l, api.Redo{At: int(at), Word: slot[9+2*i]})
	}
	_, commit, e := modelLay(l)
	if e != 0 || commit != slot[0] {
		return nil, false, false
	}
	return l, true, true
}

// modelApply is what Apply is to return.
func modelApply(words []uint64, l []api.Redo) ([]uint64, api.Errno) {
	row := slices.Clone(words)
	for _, r := range l {
		if r.At < 0 || r.At >= len(words) {
			return nil, 2
		}
		row[r.At] = r.Word
	}
	return row, 0
}

// holdsLay holds Lay to the contract, and returns what it returned.
func holdsLay(t *testing.T, l []api.Redo) ([]uint64, uint64, api.Errno) {
	t.Helper()
	before := slices.Clone(l)
	body, commit, e := Lay(l)
	want, wantCommit, wantErr := modelLay(l)
	if e != wantErr || commit != wantCommit || !slices.Equal(body, want) {
		t.Fatalf("Lay(%v) = %#x, %#x, %v; want %#x, %#x, %v", l, body, commit, e, want, wantCommit, wantErr)
	}
	if !slices.Equal(l, before) {
		t.Fatalf("Lay(%v) made the list %v", before, l)
	}
	return body, commit, e
}

// holdsForm holds an error to what the chapter says of ErrForm.
func holdsForm(t *testing.T, err error) {
	t.Helper()
	var f api.Fault
	if !errors.Is(err, api.ErrForm) || !errors.As(err, &f) || f != (api.Fault{At: 0, Err: 7}) {
		t.Fatalf("error %v; want one that wraps ErrForm at 0", err)
	}
	if _, bare := err.(api.Fault); bare {
		t.Fatalf("error %v is the fault itself; want one that wraps it", err)
	}
	if err.Error() == "" {
		t.Fatal("the error has no text")
	}
}

// holdsRead holds Read to the contract, and returns what it returned.
func holdsRead(t *testing.T, slot []uint64) ([]api.Redo, bool, error) {
	t.Helper()
	before := slices.Clone(slot)
	l, there, err := Read(slot)
	want, wantThere, ok := modelRead(slot)
	if there != wantThere || (err == nil) != ok || !slices.Equal(l, want) {
		t.Fatalf("Read(%#x) = %v, %v, %v; want %v, %v, no error: %v", slot, l, there, err, want, wantThere, ok)
	}
	if !ok {
		holdsForm(t, err)
	}
	if !slices.Equal(slot, before) {
		t.Fatalf("Read(%#x) made the slot %#x", before, slot)
	}
	return l, there, err
}

// holdsApply holds Apply to the contract, and returns what it returned.
func holdsApply(t *testing.T, words []uint64, l []api.Redo) ([]uint64, api.Errno) {
	t.Helper()
	before, beforeList := slices.Clone(words), slices.Clone(l)
	row, e := Apply(words, l)
	want, wantErr := modelApply(words, l)
	if e != wantErr || !slices.Equal(row, want) {
		t.Fatalf("Apply(%#x, %v) = %#x, %v; want %#x, %v", words, l, row, e, want, wantErr)
	}
	if !slices.Equal(words, before) || !slices.Equal(l, beforeList) {
		t.Fatalf("Apply(%#x, %v) made its arguments %#x, %v", before, beforeList, words, l)
	}
	return row, e
}

// drawn is a list of so many entries for words below the limit.
func drawn(n *rand.Rand, entries, limit int) []api.Redo {
	var l []api.Redo
	for range entries {
		l = append(l, api.Redo{At: n.IntN(limit), Word: n.Uint64()})
	}
	return l
}

// slotOf is a slot with that commit word and body; everything else in it is drawn, or 0 without a source.
func slotOf(n *rand.Rand, commit uint64, body []uint64) []uint64 {
	slot := make([]uint64, 136)
	if n != nil {
		for k := range slot {
			slot[k] = n.Uint64()
		}
	}
	slot[0] = commit
	copy(slot[8:], body)
	return slot
}

// edges are numbers at, below and above the limits of an index.
func edges() []int {
	return []int{math.MinInt, math.MinInt32, -1 << 20, -1, 0, 1, 255, 256, 1<<20 - 1, 1 << 20, 1<<20 + 1, 1 << 32, 1<<32 + 1, math.MaxInt}
}

// TestLaySizes: P16.1: lists of each length up to the limit, and beyond it.
func TestLaySizes(t *testing.T) {
	n := noise(1)
	for entries := range 200 {
		_, _, e := holdsLay(t, drawn(n, entries, 1<<20))
		if (e == api.OK) != (entries <= api.MaxRedo) {
			t.Fatalf("%d entries: %v", entries, e)
		}
	}
	if _, _, e := holdsLay(t, make([]api.Redo, 1<<20)); e != api.ErrLong {
		t.Fatal(e)
	}
}

// TestLayIndexes: P16.1: each index at the limits, in each place of lists of all kinds of length.
func TestLayIndexes(t *testing.T) {
	n := noise(2)
	for _, entries := range []int{1, 2, 3, 63, 64} {
		for i := range entries {
			for _, at := range edges() {
				l := drawn(n, entries, 1<<20)
				l[i].At = at
				_, _, e := holdsLay(t, l)
				if (e == api.OK) != (at >= 0 && at < 1<<20) {
					t.Fatalf("index %d: %v", at, e)
				}
			}
		}
	}
}

// TestLayWords: P16.1: any word may be stored, and one word may be stored several times.
func TestLayWords(t *testing.T) {
	for _, w := range []uint64{0, 1, 1 << 31, 1 << 32, 1 << 63, math.MaxUint64} {
		holdsLay(t, []api.Redo{{At: 3, Word: w}})
		holdsLay(t, []api.Redo{{At: 3, Word: w}, {At: 3, Word: ^w}, {At: 3, Word: w}})
	}
}

// TestLayOrder: P16.1: a list that is too long is ErrLong, whatever its indexes are.
func TestLayOrder(t *testing.T) {
	l := make([]api.Redo, 65)
	for _, at := range edges() {
		for _, i := range []int{0, 63, 64} {
			bad := slices.Clone(l)
			bad[i].At = at
			if _, _, e := holdsLay(t, bad); e != api.ErrLong {
				t.Fatalf("index %d at %d: %v", at, i, e)
			}
		}
	}
}

// TestCommit: P16.1: which fields the commit word has, and that it is never 0.
func TestCommit(t *testing.T) {
	n := noise(3)
	for range 500 {
		entries := n.IntN(65)
		body, commit, _ := holdsLay(t, drawn(n, entries, 1<<20))
		if commit%256 != uint64(entries) || commit>>8%256 != 0x52 || commit>>16%65536 != 0 || len(body) != 2*entries {
			t.Fatalf("%d entries: %#x, %d words", entries, commit, len(body))
		}
	}
}

// TestReadSizes: P16.2: only slots of 136 words are read, whatever they have in them.
func TestReadSizes(t *testing.T) {
	_, commit, _ := Lay(nil)
	for size := range 300 {
		for _, first := range []uint64{0, commit, math.MaxUint64} {
			slot := make([]uint64, size)
			if size > 0 {
				slot[0] = first
			}
			holdsRead(t, slot)
		}
	}
	holdsRead(t, nil)
}

// TestReadClear: P16.2: nothing is in a slot whose commit word is 0, whatever else it has.
func TestReadClear(t *testing.T) {
	n := noise(4)
	for entries := range 65 {
		body, _, _ := Lay(drawn(n, entries, 1<<20))
		for _, slot := range [][]uint64{slotOf(nil, 0, body), slotOf(n, 0, body)} {
			if l, there, err := holdsRead(t, slot); len(l) > 0 || there || err != nil {
				t.Fatal(l, there, err)
			}
		}
	}
}

// TestReadLaid: P16.2, P16.4: Read returns what was laid, whatever else is in the slot.
func TestReadLaid(t *testing.T) {
	n := noise(5)
	for entries := range 65 {
		for round := range 8 {
			laid := drawn(n, entries, 1<<20)
			if round == 0 && entries > 0 {
				laid[0].At, laid[entries-1].At = 0, 1<<20-1
			}
			body, commit, _ := Lay(laid)
			for _, slot := range [][]uint64{slotOf(nil, commit, body), slotOf(n, commit, body)} {
				l, there, err := holdsRead(t, slot)
				if !there || err != nil || !slices.Equal(l, laid) {
					t.Fatalf("Read = %v, %v, %v; laid %v", l, there, err, laid)
				}
			}
		}
	}
}

// TestReadEntries: P16.2: entries that Lay does not accept are ErrForm, though the commit word fits them.
func TestReadEntries(t *testing.T) {
	n := noise(6)
	for _, entries := range []int{1, 2, 64} {
		for i := range entries {
			for _, at := range []uint64{1<<20 - 1, 1 << 20, 1<<20 + 1, 1 << 31, 1 << 32, 1<<32 + 5, 1<<63 - 1, 1 << 63, 1<<63 + 5, math.MaxUint64} {
				body, _, _ := Lay(drawn(n, entries, 1<<20))
				body[2*i] = at
				_, there, _ := holdsRead(t, slotOf(n, commitOfWords(entries, body), body))
				if there != (at < 1<<20) {
					t.Fatalf("At %#x of entry %d: %v", at, i, there)
				}
			}
		}
	}
}

// TestReadCounts: P16.2: a commit word with more entries than a slot has is ErrForm, even with the checksum of what is there.
func TestReadCounts(t *testing.T) {
	n := noise(7)
	for count := range 256 {
		// Of what stands in the slot, as many entries as there are: so it fits up to 64.
		body, _, _ := Lay(drawn(n, 64, 1<<20))
		_, there, _ := holdsRead(t, slotOf(nil, commitOfWords(count, body[:2*min(count, 64)]), body))
		if there != (count <= 64) {
			t.Fatalf("%d entries: %v", count, there)
		}
		// With words beyond the slot, all zero, summed with it.
		long := append(slices.Clone(body), make([]uint64, 2*256)...)
		holdsRead(t, slotOf(nil, commitOfWords(count, long[:2*count]), body))
	}
}

// TestReadCommitBits: P16.2: with any one bit of the commit word flipped, it is the one of no list.
func TestReadCommitBits(t *testing.T) {
	n := noise(8)
	for _, entries := range []int{0, 1, 2, 3, 31, 64} {
		body, commit, _ := Lay(drawn(n, entries, 1<<20))
		for bit := range 64 {
			if _, there, err := holdsRead(t, slotOf(n, commit^1<<bit, body)); there || err == nil {
				t.Fatalf("%d entries, bit %d of the commit word flipped: %v, %v", entries, bit, there, err)
			}
		}
	}
}

// TestReadOtherWords: P16.2: words of all kinds at the place of the commit word.
func TestReadOtherWords(t *testing.T) {
	n := noise(9)
	for _, first := range []uint64{1, 0x5200, 0x52, 0x5201, 0x5300, 0x5200 << 32, 1 << 63, math.MaxUint64, 0x15200, 0x5200 + 1<<31, 0x5200 + 1<<32} {
		holdsRead(t, slotOf(nil, first, nil))
		holdsRead(t, slotOf(n, first, nil))
	}
	for range 2000 {
		holdsRead(t, slotOf(n, n.Uint64(), nil))
		holdsRead(t, slotOf(n, n.Uint64()&0xFFFFFFFF000000FF|0x5200, nil))
	}
}

// TestFlips: P16.4: a slot in whose entries bits within 32 consecutive ones are flipped is ErrForm.
func TestFlips(t *testing.T) {
	n := noise(10)
	for _, entries := range []int{1, 2, 3, 17, 64} {
		body, commit, _ := Lay(drawn(n, entries, 1<<20))
		for at := range 128*entries - 31 {
			flips := []uint32{1, 1<<31 | 1, math.MaxUint32, n.Uint32() | 1, n.Uint32() | 1}
			for _, flip := range flips {
				bad := slices.Clone(body)
				bad[at/64] ^= uint64(flip) << (at % 64)
				if at%64 > 32 {
					bad[at/64+1] ^= uint64(flip) >> (64 - at%64)
				}
				if l, there, err := Read(slotOf(nil, commit, bad)); there || len(l) > 0 || !errors.Is(err, api.ErrForm) {
					t.Fatalf("%d entries, %#x flipped from bit %d on: %v, %v, %v", entries, flip, at, l, there, err)
				}
			}
		}
	}
}

// TestStale: P16.2: a commit word with the entries of another list, or with its own in another order, is ErrForm.
func TestStale(t *testing.T) {
	n := noise(11)
	for entries := 1; entries <= 64; entries++ {
		_, commit, _ := Lay(drawn(n, entries, 1<<20))
		other, _, _ := Lay(drawn(n, entries, 1<<20))
		if _, there, err := holdsRead(t, slotOf(nil, commit, other)); there || err == nil {
			t.Fatalf("%d entries of another list: %v, %v", entries, there, err)
		}
	}
	l := drawn(n, 2, 1<<20)
	_, commit, _ := Lay(l)
	turned, _, _ := Lay([]api.Redo{l[1], l[0]})
	if _, there, err := holdsRead(t, slotOf(nil, commit, turned)); there || err == nil {
		t.Fatal(there, err)
	}
	body, commit, _ := Lay(l)
	// The body begins at word 8, and nowhere else.
	for from := 1; from <= 16; from++ {
		slot := make([]uint64, 136)
		slot[0] = commit
		copy(slot[from:], body)
		if _, there, _ := holdsRead(t, slot); there != (from == 8) {
			t.Fatalf("the body at %d: %v", from, there)
		}
	}
}

// TestFormTexts: P16.2: each error has a text of its own cause.
func TestFormTexts(t *testing.T) {
	body := []uint64{1 << 20, 0}
	texts := map[string]int{}
	for _, slot := range [][]uint64{nil, slotOf(nil, 1, nil), slotOf(nil, commitOfWords(1, body), body)} {
		_, _, err := Read(slot)
		holdsForm(t, err)
		if !strings.Contains(err.Error(), "error 7 at 0") {
			t.Fatal(err)
		}
		texts[err.Error()]++
	}
	if len(texts) != 3 {
		t.Fatal(texts)
	}
}

// TestApply: P16.3: each index at the limits of rows of all small lengths, in each place of the list.
func TestApply(t *testing.T) {
	n := noise(12)
	for size := range 20 {
		words := make([]uint64, size)
		for k := range words {
			words[k] = n.Uint64()
		}
		holdsApply(t, words, nil)
		for _, at := range append(edges(), size-2, size-1, size, size+1) {
			r := api.Redo{At: at, Word: n.Uint64()}
			_, e := holdsApply(t, words, []api.Redo{r})
			if (e == api.OK) != (at >= 0 && at < size) {
				t.Fatalf("index %d of %d words: %v", at, size, e)
			}
			if size > 0 {
				for i := range 4 {
					holdsApply(t, words, slices.Insert(drawn(n, 3, size), i, r))
				}
			}
		}
	}
}

// TestApplyLimits: P16.3: neither the length of the list nor the limit of an index in a slot counts here.
func TestApplyLimits(t *testing.T) {
	n := noise(13)
	words := make([]uint64, 1<<20+2)
	if _, e := holdsApply(t, words, []api.Redo{{At: 1 << 20, Word: 5}, {At: 1<<20 + 1, Word: 6}}); e != api.OK {
		t.Fatal(e)
	}
	if _, e := holdsApply(t, words[:300], drawn(n, 1000, 300)); e != api.OK {
		t.Fatal(e)
	}
}

// TestApplyTwice: P16.4: a list that is applied twice does what it does once.
func TestApplyTwice(t *testing.T) {
	n := noise(14)
	for range 500 {
		size := 1 + n.IntN(12)
		words := make([]uint64, size)
		l := drawn(n, n.IntN(20), size)
		once, _ := holdsApply(t, words, l)
		twice, _ := holdsApply(t, once, l)
		if !slices.Equal(once, twice) {
			t.Fatalf("%v: once %#x, twice %#x", l, once, twice)
		}
	}
}

// TestApplyLast: P16.4: of the entries for one word the last one counts.
func TestApplyLast(t *testing.T) {
	n := noise(15)
	for range 500 {
		size := 1 + n.IntN(6)
		words := make([]uint64, size)
		for k := range words {
			words[k] = n.Uint64()
		}
		l := drawn(n, n.IntN(20), size)
		want := slices.Clone(words)
		for at := range size {
			for i := len(l) - 1; i >= 0; i-- {
				if l[i].At == at {
					want[at] = l[i].Word
					break
				}
			}
		}
		if row, _ := holdsApply(t, words, l); !slices.Equal(row, want) {
			t.Fatalf("Apply(%#x, %v) = %#x; want %#x", words, l, row, want)
		}
	}
}

// TestNothing: R4: no list and an empty one are equivalent.
func TestNothing(t *testing.T) {
	for _, l := range [][]api.Redo{nil, {}} {
		if body, commit, e := holdsLay(t, l); len(body) > 0 || commit != 0x5200 || e != api.OK {
			t.Fatal(body, commit, e)
		}
		for _, words := range [][]uint64{nil, {}} {
			if row, e := holdsApply(t, words, l); len(row) > 0 || e != api.OK {
				t.Fatal(row, e)
			}
		}
	}
	if l, there, err := holdsRead(t, slotOf(noise(16), 0x5200, nil)); len(l) > 0 || !there || err != nil {
		t.Fatal(l, there, err)
	}
}

// TestOwnMemory: R5: what is returned shares nothing with what was passed.
func TestOwnMemory(t *testing.T) {
	l := []api.Redo{{At: 1, Word: 5}, {At: 0, Word: 6}}
	body, commit, _ := Lay(l)
	slot := slotOf(nil, commit, body)
	read, _, _ := Read(slot)
	words := []uint64{1, 2, 3}
	row, _ := Apply(words, l)
	same, _ := Apply(words, nil)
	clear(l)
	clear(slot)
	clear(words)
	if !slices.Equal(body, []uint64{1, 5, 0, 6}) || !slices.Equal(row, []uint64{6, 5, 3}) || !slices.Equal(same, []uint64{1, 2, 3}) {
		t.Fatal(body, row, same)
	}
	if !slices.Equal(read, []api.Redo{{At: 1, Word: 5}, {At: 0, Word: 6}}) {
		t.Fatal(read)
	}
}

// TestExamples: the chapter's table.
func TestExamples(t *testing.T) {
	body, commit, e := holdsLay(t, []api.Redo{{At: 5, Word: 7}})
	if !slices.Equal(body, []uint64{5, 7}) || commit%(1<<32) != 0x5201 || e != api.OK {
		t.Error(body, commit, e)
	}
	if body, commit, e := holdsLay(t, nil); len(body) > 0 || commit != 0x5200 || e != api.OK {
		t.Error(body, commit, e)
	}
	if body, commit, e := holdsLay(t, []api.Redo{{At: 1 << 20}}); len(body) > 0 || commit != 0 || e != api.ErrArg {
		t.Error(body, commit, e)
	}
	if l, there, err := holdsRead(t, make([]uint64, 136)); len(l) > 0 || there || err != nil {
		t.Error(l, there, err)
	}
	_, _, err := holdsRead(t, make([]uint64, 135))
	holdsForm(t, err)
	if row, e := holdsApply(t, []uint64{0, 0}, []api.Redo{{At: 1, Word: 9}, {At: 1, Word: 8}}); !slices.Equal(row, []uint64{0, 8}) || e != api.OK {
		t.Error(row, e)
	}
}
