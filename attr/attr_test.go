package attr

import (
	"encoding/binary"
	"errors"
	"hash/crc32"
	"math"
	"math/bits"
	"math/rand/v2"
	"slices"
	"strings"
	"testing"

	"parclose/api"
	"parclose/sum"
)

// noise is a row of numbers that are the same in each run.
func noise(seed uint64) *rand.Rand {
	return rand.New(rand.NewPCG(seed, 10))
}

// sealed is the words and their seal, as the definition of layer 2 tells it.
func sealed(l ...uint64) []uint64 {
	var b []byte
	for _, w := range l {
		b = binary.LittleEndian.AppendUint64(b, w)
	}
	c := crc32.ChecksumIEEE(b)
	return append(slices.Clone(l), uint64(c)|uint64(^c)<<32)
}

// bit is 1 for true.
func bit(on bool) uint64 {
	if on {
		return 1
	}
	return 0
}

// headOf is the head of a list, as the chapter's definition tells it.
func headOf(a api.Acl) uint64 {
	return uint64(a.Owner) | uint64(a.Group)<<4 | uint64(a.Other)<<8 | uint64(a.Mask)<<12 |
		bit(a.HasMask)<<16 | uint64(len(a.Users))<<20 | uint64(len(a.Groups))<<24
}

// putText puts the bytes of the text to the words from the first one on.
func putText(l []uint64, s string) {
	for k := range len(s) {
		l[k/8] |= uint64(s[k]) << (8 * (k % 8))
	}
}

// fields is words 0 to 30 of valid attributes, as the chapter's definition tells them.
func fields(a api.Attr) []uint64 {
	l := make([]uint64, 31)
	l[0] = uint64(a.Bits) | bit(a.HasDef)<<3 | uint64(len(a.Xattrs))<<4 | 0x41545452<<32
	l[1] = uint64(a.Uid) | uint64(a.Gid)<<16
	l[2], l[3] = headOf(a.Access), headOf(a.Def)
	for at, row := range map[int][]api.Named{4: a.Access.Users, 6: a.Access.Groups, 8: a.Def.Users, 10: a.Def.Groups} {
		for k, n := range row {
			l[at+k/2] |= (uint64(n.Id) + 65536*uint64(n.Perm)) << (32 * (k % 2))
		}
	}
	for k, x := range a.Xattrs {
		putText(l[12+4*k:], x.Key)
		l[13+4*k] = uint64(len(x.Key)) | uint64(len(x.Val))<<8
		putText(l[14+4*k:], x.Val)
	}
	return l
}

// defined is all words of valid attributes.
func defined(a api.Attr) []uint64 {
	return sealed(fields(a)...)
}

// orderly tells whether the entries may stand in a list, as the definition of layer 9 tells it.
func orderly(l []api.Named) bool {
	for i, x := range l {
		if x.Perm > 7 || i > 0 && l[i-1].Id >= x.Id {
			return false
		}
	}
	return len(l) <= 4
}

// validAcl tells whether there may be such a list, as the definition of layer 9 tells it.
func validAcl(a api.Acl) bool {
	if !a.HasMask && (a.Mask != 0 || len(a.Users) > 0 || len(a.Groups) > 0) {
		return false
	}
	return a.Owner <= 7 && a.Group <= 7 && a.Other <= 7 && a.Mask <= 7 && orderly(a.Users) && orderly(a.Groups)
}

// zeroAcl tells whether the list is the zero one.
func zeroAcl(a api.Acl) bool {
	return a.Owner == 0 && a.Group == 0 && a.Other == 0 && !a.HasMask && a.Mask == 0 && len(a.Users) == 0 && len(a.Groups) == 0
}

// errorOf is what Check is to return, as the chapter's definition tells it.
func errorOf(a api.Attr) api.Errno {
	if a.Bits > 7 || !validAcl(a.Access) || a.HasDef && !validAcl(a.Def) || !a.HasDef && !zeroAcl(a.Def) || len(a.Xattrs) > 4 {
		return 622
	}
	for i, x := range a.Xattrs {
		if len(x.Key) < 1 || len(x.Key) > 8 || strings.Contains(x.Key, "\x00") || len(x.Val) > 16 {
			return 622
		}
		for _, y := range a.Xattrs[i+1:] {
			if slices.Compare([]byte(x.Key), []byte(y.Key)) >= 0 {
				return 622
			}
		}
	}
	return 0
}

// equalAcl tells whether the lists are the same; one without entries is like none.
func equalAcl(a, b api.Acl) bool {
	return a.Owner == b.Owner && a.Group == b.Group && a.Other == b.Other && a.HasMask == b.HasMask && a.Mask == b.Mask &&
		slices.Equal(a.Users, b.Users) && slices.Equal(a.Groups, b.Groups)
}

// equal tells whether the attributes are the same; no values are like an empty list of them.
func equal(a, b api.Attr) bool {
	return a.Bits == b.Bits && a.Uid == b.Uid && a.Gid == b.Gid && a.HasDef == b.HasDef &&
		equalAcl(a.Access, b.Access) && equalAcl(a.Def, b.Def) && slices.Equal(a.Xattrs, b.Xattrs)
}

// twinAcl is an equal list in other memory.
func twinAcl(a api.Acl) api.Acl {
	a.Users = append(make([]api.Named, 0, len(a.Users)+3), a.Users...)
	a.Groups = append(make([]api.Named, 0, len(a.Groups)+3), a.Groups...)
	return a
}

// twin is equal attributes in other memory, with room behind each list.
func twin(a api.Attr) api.Attr {
	a.Access, a.Def = twinAcl(a.Access), twinAcl(a.Def)
	a.Xattrs = append(make([]api.Xattr, 0, len(a.Xattrs)+3), a.Xattrs...)
	return a
}

// entries are that many that may stand in a list.
func entries(n *rand.Rand, count int) []api.Named {
	var l []api.Named
	id := n.IntN(3)
	for range count {
		l = append(l, api.Named{Id: uint16(id), Perm: uint8(n.IntN(8))})
		id += 1 + n.IntN(1<<uint(n.IntN(15)))
	}
	return l
}

// drawnAcl is a valid list.
func drawnAcl(n *rand.Rand) api.Acl {
	a := api.Acl{Owner: uint8(n.IntN(8)), Group: uint8(n.IntN(8)), Other: uint8(n.IntN(8)), HasMask: n.IntN(4) > 0}
	if a.HasMask {
		a.Mask, a.Users, a.Groups = uint8(n.IntN(8)), entries(n, n.IntN(5)), entries(n, n.IntN(5))
	}
	return a
}

// drawnText is a text of that many bytes, none of which is less than least.
func drawnText(n *rand.Rand, count, least int) string {
	b := make([]byte, count)
	for k := range b {
		b[k] = byte(least + n.IntN(256-least))
	}
	return string(b)
}

// drawnXattrs are values with keys that may be.
func drawnXattrs(n *rand.Rand) []api.Xattr {
	keys := map[string]int{}
	for range n.IntN(5) {
		keys[drawnText(n, 1+n.IntN(8), 1)] = 0
	}
	var l []api.Xattr
	for key := range keys {
		l = append(l, api.Xattr{Key: key})
	}
	slices.SortFunc(l, func(x, y api.Xattr) int { return strings.Compare(x.Key, y.Key) })
	for k := range l {
		l[k].Val = drawnText(n, n.IntN(17), 0)
	}
	return l
}

// drawn is valid attributes.
func drawn(n *rand.Rand) api.Attr {
	a := api.Attr{Bits: uint8(n.IntN(8)), Uid: uint16(n.IntN(1 << 16)), Gid: uint16(n.IntN(1 << 16)), Access: drawnAcl(n), Xattrs: drawnXattrs(n)}
	if n.IntN(2) > 0 {
		a.HasDef, a.Def = true, drawnAcl(n)
	}
	return a
}

// fullAcl is a valid list that has as much as one may have.
func fullAcl() api.Acl {
	return api.Acl{
		Owner: 7, Group: 7, Other: 7, HasMask: true, Mask: 7,
		Users:  []api.Named{{Id: 0, Perm: 7}, {Id: 1, Perm: 1}, {Id: 5, Perm: 3}, {Id: 65535, Perm: 7}},
		Groups: []api.Named{{Id: 0, Perm: 7}, {Id: 5, Perm: 1}, {Id: 6, Perm: 2}, {Id: 65535, Perm: 7}},
	}
}

// full is valid attributes that have as much as any may have.
func full() api.Attr {
	val := strings.Repeat("\xFF", 16)
	return api.Attr{
		Bits: 7, Uid: 65535, Gid: 65535, Access: fullAcl(), HasDef: true, Def: fullAcl(),
		Xattrs: []api.Xattr{{Key: "\x01", Val: val}, {Key: "a", Val: ""}, {Key: "aaaaaaaa", Val: val}, {Key: "\xFF\xFF\xFF\xFF\xFF\xFF\xFF\xFF", Val: val}},
	}
}

// samples are valid attributes: none, all, and many between.
func samples(seed uint64, count int) []api.Attr {
	n := noise(seed)
	l := []api.Attr{{}, full(), {HasDef: true}, {Access: api.Acl{HasMask: true}}, {Uid: 1}, {Gid: 1}}
	for range count {
		l = append(l, drawn(n))
	}
	return l
}

// anyAcl is a list of any numbers, and of any entries.
func anyAcl(n *rand.Rand) api.Acl {
	a := api.Acl{Owner: uint8(n.IntN(256)), Group: uint8(n.IntN(256)), Other: uint8(n.IntN(256)), Mask: uint8(n.IntN(256)), HasMask: n.IntN(2) > 0}
	for range n.IntN(7) {
		a.Users = append(a.Users, api.Named{Id: uint16(n.IntN(8)), Perm: uint8(n.IntN(256))})
		a.Groups = append(a.Groups, api.Named{Id: uint16(n.IntN(8)), Perm: uint8(n.IntN(256))})
	}
	return a
}

// anyAttr is attributes of any numbers, and of any lists.
func anyAttr(n *rand.Rand) api.Attr {
	a := api.Attr{Bits: uint8(n.IntN(256)), Uid: uint16(n.IntN(1 << 16)), Gid: uint16(n.IntN(1 << 16)), Access: anyAcl(n), HasDef: n.IntN(2) > 0, Def: anyAcl(n)}
	for range n.IntN(7) {
		a.Xattrs = append(a.Xattrs, api.Xattr{Key: drawnText(n, n.IntN(12), 0), Val: drawnText(n, n.IntN(24), 0)})
	}
	return a
}

// spoiled is valid attributes, one thing of which is another one, that may be wrong by itself.
func spoiled(n *rand.Rand) api.Attr {
	a := drawn(n)
	b := anyAttr(n)
	switch n.IntN(9) {
	case 0:
		a.Bits = b.Bits
	case 1:
		a.Access = b.Access
	case 2:
		a.Access.HasMask = b.Access.HasMask
	case 3:
		a.HasDef = b.HasDef
	case 4:
		a.Def = b.Def
	case 5:
		a.Def.Mask = uint8(n.IntN(9))
	case 6:
		a.Xattrs = b.Xattrs
	case 7:
		slices.Reverse(a.Xattrs)
	case 8:
		a.Xattrs = append(a.Xattrs, api.Xattr{Key: drawnText(n, n.IntN(9), 0), Val: drawnText(n, n.IntN(18), 0)})
	}
	return a
}

// checks holds that Check returns what the definition tells, that Encode does with it what it is to, and that neither turns anything.
func checks(t *testing.T, a api.Attr) api.Errno {
	t.Helper()
	was := twin(a)
	want := errorOf(a)
	if got := Check(a); got != want {
		t.Fatalf("Check(%+v) = %v; want %v", a, got, want)
	}
	l, e := Encode(a)
	if e != want || e != api.OK && len(l) != 0 {
		t.Fatalf("Encode(%+v) = %#x, %v; want %v", a, l, e, want)
	}
	if e == api.OK && !slices.Equal(l, defined(a)) {
		t.Fatalf("Encode(%+v) = %#x; want %#x", a, l, defined(a))
	}
	if !equal(a, was) {
		t.Fatalf("%+v was turned to %+v", was, a)
	}
	return want
}

// accepted holds that the words are those of the attributes, both ways.
func accepted(t *testing.T, a api.Attr, l []uint64) {
	t.Helper()
	if got, e := Encode(a); !slices.Equal(got, l) || e != api.OK {
		t.Fatalf("Encode(%+v) = %#x, %v; want %#x", a, got, e, l)
	}
	was := slices.Clone(l)
	if got, err := Decode(l); !equal(got, a) || err != nil {
		t.Fatalf("Decode(%#x) = %+v, %v; want %+v", l, got, err, a)
	}
	if !slices.Equal(l, was) {
		t.Fatalf("%#x was turned to %#x", was, l)
	}
}

// refused holds that the words are no attributes, that this is told at that word, and that nothing else is told.
func refused(t *testing.T, l []uint64, at int) {
	t.Helper()
	was := slices.Clone(l)
	a, err := Decode(l)
	var f api.Fault
	if !equal(a, api.Attr{}) || !errors.As(err, &f) || f != (api.Fault{At: at, Err: api.ErrForm}) {
		t.Fatalf("Decode(%#x) = %+v, %v; want a fault at %d", l, a, err, at)
	}
	if !slices.Equal(l, was) {
		t.Fatalf("%#x was turned to %#x", was, l)
	}
}

// P10.1: Bits may be from 0 to 7.
func TestCheckOfBits(t *testing.T) {
	for v := range 256 {
		for _, a := range samples(1, 20) {
			a.Bits = uint8(v)
			if e := checks(t, a); (e == api.OK) != (v < 8) {
				t.Fatalf("Check of Bits %d = %v", v, e)
			}
		}
	}
}

// P10.1: all users and groups may be the owner's.
func TestCheckOfOwners(t *testing.T) {
	for v := range 1 << 16 {
		a := api.Attr{Uid: uint16(v), Gid: uint16(65535 - v)}
		if e := checks(t, a); e != api.OK {
			t.Fatalf("Check(%+v) = %v", a, e)
		}
	}
}

// aclEdges are lists with one number at each of its values, and with one entry too many, or not in order.
func aclEdges() []api.Acl {
	var l []api.Acl
	for v := range 256 {
		for _, a := range []api.Acl{{}, {HasMask: true}, fullAcl()} {
			for k := range 6 {
				b := twinAcl(a)
				numbers := []*uint8{&b.Owner, &b.Group, &b.Other, &b.Mask}
				if len(b.Users) > 0 {
					numbers = append(numbers, &b.Users[v%4].Perm, &b.Groups[v%4].Perm)
				}
				if k < len(numbers) {
					*numbers[k] = uint8(v)
					l = append(l, b)
				}
			}
		}
	}
	five := []api.Named{{Id: 1}, {Id: 2}, {Id: 3}, {Id: 4}, {Id: 5}}
	for count := range 6 {
		l = append(l, api.Acl{HasMask: true, Users: five[:count]}, api.Acl{HasMask: true, Groups: five[:count]}, api.Acl{Users: five[:count]}, api.Acl{Groups: five[:count]})
	}
	for _, ids := range [][2]uint16{{5, 5}, {6, 5}, {5, 6}, {0, 0}, {0, 65535}, {65535, 0}, {256, 255}} {
		pair := []api.Named{{Id: ids[0]}, {Id: ids[1]}}
		l = append(l, api.Acl{HasMask: true, Users: pair}, api.Acl{HasMask: true, Groups: pair})
	}
	return append(l, api.Acl{HasMask: true, Users: []api.Named{}}, api.Acl{Users: []api.Named{}, Groups: []api.Named{}})
}

// P10.1: Access is valid; so is Def, if there is one; otherwise Def is the zero list, even if it would be valid.
func TestCheckOfLists(t *testing.T) {
	good := 0
	for _, l := range aclEdges() {
		for _, a := range []api.Attr{{}, full()} {
			b, c, d := a, a, a
			b.Access = l
			c.HasDef, c.Def = true, l
			d.HasDef, d.Def = false, l
			for _, x := range []api.Attr{b, c, d} {
				if checks(t, x) == api.OK {
					good++
				}
			}
		}
	}
	if good < 100 {
		t.Errorf("only %d were valid", good)
	}
	for _, l := range []api.Acl{{Owner: 1}, {Group: 1}, {Other: 1}, {HasMask: true}, {HasMask: true, Mask: 1}, {HasMask: true, Users: []api.Named{{}}}, {HasMask: true, Groups: []api.Named{{}}}} {
		if e := Check(api.Attr{Def: l}); e != api.EINVAL {
			t.Errorf("Check of Def %+v without HasDef = %v", l, e)
		}
		if e := Check(api.Attr{HasDef: true, Def: l}); e != api.OK {
			t.Errorf("Check of Def %+v = %v", l, e)
		}
	}
}

// P10.1: how many values there may be.
func TestCheckOfCounts(t *testing.T) {
	var l []api.Xattr
	for count := range 70 {
		if e := checks(t, api.Attr{Xattrs: l}); (e == api.OK) != (count <= 4) {
			t.Fatalf("Check of %d values = %v", count, e)
		}
		l = append(l, api.Xattr{Key: string(rune('0' + count))})
	}
	if e := Check(api.Attr{Xattrs: make([]api.Xattr, 1<<20)}); e != api.EINVAL {
		t.Errorf("Check of many values = %v", e)
	}
	checks(t, api.Attr{Xattrs: []api.Xattr{}})
}

// P10.1: how long keys and values may be, each at each place of the list.
func TestCheckOfLengths(t *testing.T) {
	base := []api.Xattr{{Key: "a"}, {Key: "b", Val: "x"}, {Key: "c"}, {Key: "d", Val: strings.Repeat("y", 16)}}
	for at := range base {
		for count := range 300 {
			l := slices.Clone(base)
			if l[at].Key = strings.Repeat(base[at].Key, count); (checks(t, api.Attr{Xattrs: l}) == api.OK) != (count >= 1 && count <= 8) {
				t.Fatalf("a key of %d bytes", count)
			}
			l = slices.Clone(base)
			if l[at].Val = strings.Repeat("z", count); (checks(t, api.Attr{Xattrs: l}) == api.OK) != (count <= 16) {
				t.Fatalf("a value of %d bytes", count)
			}
		}
		huge := strings.Repeat(base[at].Key, 1<<20)
		checks(t, api.Attr{Xattrs: []api.Xattr{{Key: huge}}})
		checks(t, api.Attr{Xattrs: []api.Xattr{{Key: "k", Val: huge}}})
	}
}

// P10.1: no byte of a key is 0, any other byte may be anywhere; a value's bytes may be any.
func TestCheckOfBytes(t *testing.T) {
	for v := range 256 {
		for count := 1; count <= 8; count++ {
			for at := range count {
				key := []byte(strings.Repeat("k", count))
				key[at] = byte(v)
				a := api.Attr{Xattrs: []api.Xattr{{Key: string(key)}}}
				if e := checks(t, a); (e == api.OK) != (v > 0) {
					t.Fatalf("Check of key %q = %v", key, e)
				}
			}
		}
		for count := 1; count <= 16; count++ {
			for at := range count {
				val := []byte(strings.Repeat("v", count))
				val[at] = byte(v)
				a := api.Attr{Xattrs: []api.Xattr{{Key: "k", Val: string(val)}}}
				if e := checks(t, a); e != api.OK {
					t.Fatalf("Check of value %q = %v", val, e)
				}
				accepted(t, a, defined(a))
			}
		}
	}
	for _, bad := range []string{"\x00", "\x00\x00", "a\x00", "\x00a", "a\x00b", "\x00aaaaaaa", "aaaaaaa\x00", "aaaa\x00aaa"} {
		for at := range 4 {
			l := []api.Xattr{{Key: "a"}, {Key: "b"}, {Key: "c"}, {Key: "d"}}
			l[at].Key = bad
			checks(t, api.Attr{Xattrs: l})
			if e := Check(api.Attr{Xattrs: l[at : at+1]}); e != api.EINVAL {
				t.Errorf("Check of key %q = %v", bad, e)
			}
		}
	}
}

// P10.1: keys ascend in the order of their bytes, and none is there twice.
func TestCheckOfOrder(t *testing.T) {
	keys := []string{"\x01", "\x01\x01", "A", "Z", "a", "a\x01", "aa", "aaaaaaaa", "ab", "b", "\x7F", "\x80", "\xC3\xA4", "\xFF", "\xFF\x01", "\xFF\xFF"}
	for i, x := range keys {
		for j, y := range keys {
			l := []api.Xattr{{Key: x, Val: "2"}, {Key: y, Val: "1"}}
			if e := checks(t, api.Attr{Xattrs: l}); (e == api.OK) != (i < j) {
				t.Fatalf("Check of keys %q, %q = %v", x, y, e)
			}
			for k, z := range keys {
				for m, u := range keys[:6] {
					l := []api.Xattr{{Key: x}, {Key: y}, {Key: z}, {Key: u}}
					e := checks(t, api.Attr{Xattrs: l[:3]})
					if (e == api.OK) != (i < j && j < k) {
						t.Fatalf("Check of keys %q, %q, %q = %v", x, y, z, e)
					}
					if e = Check(api.Attr{Xattrs: l}); (e == api.OK) != (i < j && j < k && k < m) {
						t.Fatalf("Check of keys %q, %q, %q, %q = %v", x, y, z, u, e)
					}
				}
			}
		}
	}
}

// P10.1, P10.2: attributes of any kind are told as the definition tells them, and both answers are common.
func TestCheckOfNoise(t *testing.T) {
	n := noise(2)
	good := 0
	for range 20000 {
		if e := checks(t, drawn(n)); e != api.OK {
			t.Fatalf("%v", e)
		}
		checks(t, anyAttr(n))
		if checks(t, spoiled(n)) == api.OK {
			good++
		}
	}
	if good < 1000 || good > 19000 {
		t.Errorf("%d of 20000 are valid", good)
	}
}

// modeOf is what Mode is to return, as the definitions tell it.
func modeOf(a api.Attr) uint16 {
	class := a.Access.Group
	if a.Access.HasMask {
		class = a.Access.Mask
	}
	return 512*uint16(a.Bits%8) + 64*uint16(a.Access.Owner%8) + 8*uint16(class%8) + uint16(a.Access.Other%8)
}

// P10.1: the mode has twelve bits, of Bits modulo 8, and of Access; nothing else counts.
func TestMode(t *testing.T) {
	for v := range 256 {
		for k := range 1 << 13 {
			l := api.Acl{Owner: uint8(k & 7), Group: uint8(k >> 3 & 7), Other: uint8(k >> 6 & 7), Mask: uint8(k >> 9 & 7), HasMask: k>>12 > 0}
			a := api.Attr{Bits: uint8(v), Access: l}
			if got, want := Mode(a), modeOf(a); got != want {
				t.Fatalf("Mode(%+v) = %o; want %o", a, got, want)
			}
		}
	}
	n := noise(3)
	for range 5000 {
		for _, a := range []api.Attr{drawn(n), anyAttr(n), spoiled(n)} {
			if got, want := Mode(a), modeOf(a); got != want || got > 4095 {
				t.Fatalf("Mode(%+v) = %o; want %o", a, got, want)
			}
			b := anyAttr(n)
			b.Bits, b.Access = a.Bits, a.Access
			if Mode(a) != Mode(b) {
				t.Fatalf("Mode(%+v) = %o; Mode(%+v) = %o", a, Mode(a), b, Mode(b))
			}
		}
	}
}

// otherAcls are lists that differ from a in one thing each.
func otherAcls(a api.Acl) []api.Acl {
	var l []api.Acl
	for k := range 4 {
		b := a
		*[]*uint8{&b.Owner, &b.Group, &b.Other, &b.Mask}[k]++
		l = append(l, b)
	}
	b := a
	b.HasMask = !a.HasMask
	l = append(l, b)
	for _, by := range []api.Named{{Id: 1}, {Id: 256}, {Perm: 1}} {
		for k := range a.Users {
			b := twinAcl(a)
			b.Users[k].Id += by.Id
			b.Users[k].Perm += by.Perm
			l = append(l, b)
		}
		for k := range a.Groups {
			b := twinAcl(a)
			b.Groups[k].Id += by.Id
			b.Groups[k].Perm += by.Perm
			l = append(l, b)
		}
	}
	b, c := twinAcl(a), twinAcl(a)
	b.Users = append(b.Users, api.Named{})
	c.Groups = append(c.Groups, api.Named{})
	return append(l, b, c)
}

// others are attributes that differ from a in one thing each.
func others(a api.Attr) []api.Attr {
	l := []api.Attr{a, a, a, a, a, a, a}
	l[0].Bits++
	l[1].Bits += 8
	l[2].Uid++
	l[3].Uid += 256
	l[4].Gid++
	l[5].Gid += 256
	l[6].HasDef = !a.HasDef
	for _, x := range otherAcls(a.Access) {
		b := a
		b.Access = x
		l = append(l, b)
	}
	for _, x := range otherAcls(a.Def) {
		b := a
		b.Def = x
		l = append(l, b)
	}
	for k := range a.Xattrs {
		b, c, d := twin(a), twin(a), twin(a)
		b.Xattrs[k].Key += "\x00"
		c.Xattrs[k].Val += "\x00"
		d.Xattrs = slices.Delete(d.Xattrs, k, k+1)
		l = append(l, b, c, d)
	}
	b := twin(a)
	b.Xattrs = append(b.Xattrs, api.Xattr{})
	return append(l, b)
}

// P10.1: Same tells any one difference, in each number, each entry and each value; of attributes that are valid, and of others.
func TestSameOfOthers(t *testing.T) {
	n := noise(4)
	for _, a := range append(samples(5, 200), anyAttr(n), anyAttr(n), anyAttr(n), spoiled(n), spoiled(n)) {
		for _, b := range others(a) {
			if Same(a, b) || Same(b, a) {
				t.Fatalf("Same(%+v, %+v)", a, b)
			}
		}
	}
	x, y := api.Xattr{Key: "a", Val: "1"}, api.Xattr{Key: "b", Val: "2"}
	for _, c := range [][2]api.Attr{
		{{Uid: 5}, {Gid: 5}},
		{{Uid: 5, Gid: 6}, {Uid: 6, Gid: 5}},
		{{Xattrs: []api.Xattr{x, y}}, {Xattrs: []api.Xattr{y, x}}},
		{{Xattrs: []api.Xattr{x}}, {Xattrs: []api.Xattr{x, x}}},
		{{Xattrs: []api.Xattr{{Key: "a", Val: "b"}}}, {Xattrs: []api.Xattr{{Key: "b", Val: "a"}}}},
		{{HasDef: true, Access: fullAcl()}, {HasDef: true, Def: fullAcl()}},
		{{HasDef: true}, {}},
	} {
		if Same(c[0], c[1]) || Same(c[1], c[0]) {
			t.Errorf("Same(%+v, %+v)", c[0], c[1])
		}
	}
}

// P10.1: Same of equal ones, that stand elsewhere; no list and an empty one are equivalent.
func TestSameOfEqual(t *testing.T) {
	n := noise(6)
	for _, a := range append(samples(7, 300), anyAttr(n), anyAttr(n), anyAttr(n)) {
		was := twin(a)
		if b := twin(a); !Same(a, b) || !Same(b, a) || !Same(a, a) || !equal(a, was) {
			t.Fatalf("not Same(%+v, %+v)", a, b)
		}
	}
	none := api.Acl{Users: []api.Named{}, Groups: []api.Named{}}
	a := api.Attr{Access: none, Def: none, Xattrs: []api.Xattr{}}
	if !Same(a, api.Attr{}) || !Same(api.Attr{}, a) || Check(a) != api.OK {
		t.Error("empty lists are not like none")
	}
	accepted(t, a, defined(api.Attr{}))
}

// spoilNamed turns all entries, also those that could be put behind them.
func spoilNamed(l []api.Named) {
	l = l[:cap(l)]
	for k := range l {
		l[k] = api.Named{Id: 54321, Perm: 99}
	}
}

// spoilXattrs turns all values, also those that could be put behind them.
func spoilXattrs(l []api.Xattr) {
	l = l[:cap(l)]
	for k := range l {
		l[k] = api.Xattr{Key: "spoiled", Val: "spoiled"}
	}
}

// spoilers turn one list of the attributes each.
func spoilers(a api.Attr) []func() {
	return []func(){
		func() { spoilNamed(a.Access.Users) }, func() { spoilNamed(a.Access.Groups) },
		func() { spoilNamed(a.Def.Users) }, func() { spoilNamed(a.Def.Groups) },
		func() { spoilXattrs(a.Xattrs) },
	}
}

// apart is the attributes without the list of that number, as spoilers count them.
func apart(a api.Attr, list int) api.Attr {
	switch list {
	case 0:
		a.Access.Users = nil
	case 1:
		a.Access.Groups = nil
	case 2:
		a.Def.Users = nil
	case 3:
		a.Def.Groups = nil
	case 4:
		a.Xattrs = nil
	}
	return a
}

// P10.1, R5: Copy returns equal attributes, valid or not, whose lists are shared neither with the argument nor with each other.
func TestCopy(t *testing.T) {
	n := noise(8)
	l := samples(9, 200)
	for range 200 {
		l = append(l, anyAttr(n), spoiled(n))
	}
	for _, a := range l {
		was := twin(a)
		for k := range 5 {
			b, c := Copy(a), Copy(a)
			if !equal(a, was) || !equal(b, was) || !Same(a, b) {
				t.Fatalf("Copy(%+v) = %+v; from then on %+v", was, b, a)
			}
			spoilers(b)[k]()
			if !equal(a, was) || !equal(c, was) || !equal(apart(b, k), apart(was, k)) {
				t.Fatalf("Copy(%+v): list %d is shared", was, k)
			}
		}
		b := Copy(a)
		for _, spoil := range spoilers(a) {
			spoil()
		}
		if !equal(b, was) {
			t.Fatalf("Copy(%+v): the lists are those of the argument", was)
		}
	}
}

// P10.1, R5: lists of its own also if those of the argument are one.
func TestCopyOfShared(t *testing.T) {
	row := append(make([]api.Named, 0, 8), api.Named{Id: 5}, api.Named{Id: 6})
	one := api.Acl{HasMask: true, Users: row, Groups: row}
	a := api.Attr{Access: one, HasDef: true, Def: one, Xattrs: append(make([]api.Xattr, 0, 8), api.Xattr{Key: "a"})}
	was := twin(a)
	for k := range 5 {
		b := Copy(a)
		spoilers(b)[k]()
		if !equal(apart(b, k), apart(was, k)) || !equal(a, was) {
			t.Errorf("list %d is shared", k)
		}
	}
}

// P10.2 to P10.4: valid attributes have the defined words, and are decoded from them.
func TestValid(t *testing.T) {
	for _, a := range samples(10, 20000) {
		accepted(t, a, defined(a))
	}
}

// P10.2 to P10.4: each number of attributes at each of its values stands where the definition says.
func TestEachNumber(t *testing.T) {
	for v := range 1 << 16 {
		id := uint16(v)
		for _, a := range []api.Attr{{Uid: id}, {Gid: id}, {Uid: id, Gid: ^id, Bits: uint8(v & 7), HasDef: v&8 > 0}} {
			accepted(t, a, defined(a))
		}
	}
	for v := range uint8(8) {
		for _, l := range []api.Acl{
			{Owner: v}, {Group: v}, {Other: v}, {HasMask: true, Mask: v},
			{HasMask: true, Users: []api.Named{{Id: 9, Perm: v}}}, {HasMask: true, Groups: []api.Named{{Id: 9, Perm: v}}},
		} {
			for _, a := range []api.Attr{{Access: l}, {HasDef: true, Def: l}} {
				accepted(t, a, defined(a))
			}
		}
	}
}

// P10.2 to P10.4: however many entries and values there are, of however many bytes.
func TestEachCount(t *testing.T) {
	n := noise(11)
	for k := range 5 * 5 * 5 * 5 {
		access := api.Acl{HasMask: true, Users: entries(n, k%5), Groups: entries(n, k/5%5)}
		def := api.Acl{HasMask: true, Users: entries(n, k/25%5), Groups: entries(n, k/125)}
		a := api.Attr{Access: access, HasDef: true, Def: def}
		accepted(t, a, defined(a))
	}
	for key := 1; key <= 8; key++ {
		for val := range 17 {
			for count := 1; count <= 4; count++ {
				var a api.Attr
				for k := range count {
					a.Xattrs = append(a.Xattrs, api.Xattr{Key: string(rune('a'+k)) + drawnText(n, key-1, 1), Val: drawnText(n, val, 0)})
				}
				accepted(t, a, defined(a))
			}
		}
	}
}

// P10.2 and R5: words that were encoded share nothing with those that are encoded later.
func TestNewWords(t *testing.T) {
	first, _ := Encode(full())
	clear(first[:cap(first)])
	second, e := Encode(full())
	if !slices.Equal(second, defined(full())) || e != api.OK {
		t.Errorf("Encode = %#x, %v", second, e)
	}
}

// P10.3 and R5: attributes that were decoded share nothing with the words, with later ones, nor their lists with each other.
func TestNewAttributes(t *testing.T) {
	for _, a := range samples(12, 200) {
		l := defined(a)
		for k := range 5 {
			b, _ := Decode(l)
			c, err := Decode(l)
			spoilers(b)[k]()
			if !equal(apart(b, k), apart(a, k)) || !equal(c, a) || err != nil || !slices.Equal(l, defined(a)) {
				t.Fatalf("Decode(%#x): list %d is shared", l, k)
			}
		}
		b, _ := Decode(l)
		clear(l)
		if !equal(b, a) {
			t.Fatalf("%+v changes with the words", b)
		}
	}
}

// P10.3: there are 32 words, no fewer and no more, whatever they are.
func TestLength(t *testing.T) {
	refused(t, nil, 0)
	refused(t, []uint64{}, 0)
	for _, a := range samples(13, 5) {
		l := append(defined(a), defined(a)...)
		for count := range len(l) + 1 {
			if count != 32 {
				refused(t, l[:count:count], 0)
			}
		}
		accepted(t, a, l[:32])
		accepted(t, a, l[32:])
		// Sealed well, but by one word too few, or too many.
		refused(t, sealed(l[:30]...), 0)
		refused(t, sealed(append(slices.Clone(l[:31]), 0)...), 0)
		refused(t, sealed(l[0]), 0)
	}
	refused(t, make([]uint64, 32), 0)
	refused(t, make([]uint64, 1<<20), 0)
}

// P10.3: the mark of word 0 is as it is to the last bit, also if the seal fits.
func TestMark(t *testing.T) {
	for _, a := range samples(14, 10) {
		for at := 32; at < 64; at++ {
			l := defined(a)
			l[0] ^= 1 << at
			refused(t, l, 0)
			refused(t, sealed(l[:31]...), 0)
		}
		for _, mark := range []uint64{0, 1, 0x44495231, 0x52545441, math.MaxUint32, 0x41545453} {
			l := defined(a)
			l[0] = l[0]&math.MaxUint32 | mark<<32
			refused(t, l, 0)
			refused(t, sealed(l[:31]...), 0)
		}
	}
}

// P10.3: word 31 is the seal to the last bit, whatever the others are.
func TestSeal(t *testing.T) {
	rows := [][]uint64{sealed(append([]uint64{0x41545452FFFFFFFF}, make([]uint64, 30)...)...)}
	for _, a := range samples(15, 10) {
		rows = append(rows, defined(a))
	}
	for _, l := range rows {
		was := l[31]
		for at := range 64 {
			l[31] = was ^ 1<<at
			refused(t, l, 31)
		}
		for _, w := range []uint64{0, 1, math.MaxUint64, ^was, bits.RotateLeft64(was, 32), was &^ math.MaxUint32, was & math.MaxUint32} {
			l[31] = w
			refused(t, l, 31)
		}
	}
}

// namedOf is the entries that the words from at on have, as many as are there of those counted.
func namedOf(l []uint64, at int, count uint64) []api.Named {
	var row []api.Named
	for k := range min(int(count), 4) {
		w := l[at+k/2] >> (32 * (k % 2))
		row = append(row, api.Named{Id: uint16(w), Perm: uint8(w >> 16)})
	}
	return row
}

// aclOf is the list that the head has, and the words from at on.
func aclOf(l []uint64, head uint64, at int) api.Acl {
	return api.Acl{
		Owner: uint8(head & 15), Group: uint8(head >> 4 & 15), Other: uint8(head >> 8 & 15), Mask: uint8(head >> 12 & 15),
		HasMask: head>>16&1 > 0, Users: namedOf(l, at, head>>20&15), Groups: namedOf(l, at+2, head>>24&15),
	}
}

// textOf is the text of that many bytes, as many as the words have.
func textOf(l []uint64, count uint64) string {
	var b []byte
	for _, w := range l {
		b = binary.LittleEndian.AppendUint64(b, w)
	}
	return string(b[:min(int(count), len(b))])
}

// attrOf is the attributes that the fields of the words have, as the definition tells them, valid or not.
func attrOf(l []uint64) api.Attr {
	a := api.Attr{
		Bits: uint8(l[0] & 7), HasDef: l[0]>>3&1 > 0, Uid: uint16(l[1]), Gid: uint16(l[1] >> 16),
		Access: aclOf(l, l[2], 4), Def: aclOf(l, l[3], 8),
	}
	for k := range min(int(l[0]>>4&15), 4) {
		row := l[12+4*k : 16+4*k]
		a.Xattrs = append(a.Xattrs, api.Xattr{Key: textOf(row[:1], row[1]&255), Val: textOf(row[2:], row[1]>>8&255)})
	}
	return a
}

// judged holds that words with the mark are told, when they are sealed, as the definition tells them: as attributes that have them, or at 1; it tells which.
func judged(t *testing.T, l []uint64) bool {
	t.Helper()
	a := attrOf(l)
	if errorOf(a) != api.OK || !slices.Equal(fields(a), l[:31]) {
		refused(t, sealed(l[:31]...), 1)
		return false
	}
	accepted(t, a, sealed(l[:31]...))
	return true
}

// P10.3: any one bit of any word may be another one only if the words are those of other attributes; otherwise this is told at 1.
func TestEachBit(t *testing.T) {
	good, all := 0, 0
	for _, a := range samples(16, 60) {
		for at := range 31 * 64 {
			if at >= 32 && at < 64 {
				continue
			}
			l := fields(a)
			l[at/64] ^= 1 << (at % 64)
			all++
			if judged(t, l) {
				good++
			}
		}
	}
	if good < all/50 || good > all/2 {
		t.Errorf("%d of %d are attributes", good, all)
	}
}

// P10.3: bits that belong to no field are 0, each by itself: of heads, of entries, of lengths, behind texts, and of words that nothing has.
func TestRest(t *testing.T) {
	for _, a := range []api.Attr{{}, full()} {
		rest := map[int][2]int{0: {8, 31}, 1: {32, 63}, 13: {16, 63}, 17: {16, 63}, 21: {16, 63}, 25: {16, 63}, 28: {0, 63}, 29: {0, 63}, 30: {0, 63}}
		for k, r := range rest {
			for at := r[0]; at <= r[1]; at++ {
				l := fields(a)
				l[k] |= 1 << at
				refused(t, sealed(l...), 1)
			}
		}
		for _, k := range []int{2, 3} {
			for at := range 64 {
				if at >= 17 && at < 20 || at >= 28 {
					l := fields(a)
					l[k] |= 1 << at
					refused(t, sealed(l...), 1)
				}
			}
		}
		for at := 4; at < 12; at++ {
			for b := 19; b < 32; b++ {
				for _, from := range []int{0, 32} {
					l := fields(a)
					l[at] |= 1 << (b + from)
					refused(t, sealed(l...), 1)
				}
			}
		}
	}
}

// P10.3: entries and values that are not counted are not there, not even their ids; ones that are counted are.
func TestCounted(t *testing.T) {
	for count := range uint64(16) {
		for _, a := range samples(17, 40) {
			for _, k := range [][2]int{{0, 4}, {2, 20}, {2, 24}, {3, 20}, {3, 24}} {
				l := fields(a)
				l[k[0]] = l[k[0]]&^(15<<k[1]) | count<<k[1]
				judged(t, l)
			}
		}
	}
	for at := 4; at < 28; at++ {
		for _, w := range []uint64{1, 1 << 16, 1 << 32, 1 << 48, 1 << 63} {
			l := fields(api.Attr{HasDef: true, Access: api.Acl{HasMask: true}, Def: api.Acl{HasMask: true}})
			l[at] = w
			refused(t, sealed(l...), 1)
		}
	}
}

// P10.3: each length of a key and of a value at each of its values; what is behind a text is 0.
func TestTexts(t *testing.T) {
	n := noise(18)
	for k := range 4 {
		var a api.Attr
		for i := range k + 1 {
			a.Xattrs = append(a.Xattrs, api.Xattr{Key: string(rune('a'+i)) + "bcdefg\xFF", Val: "0123456789abcde\xFF"})
		}
		for count := range uint64(256) {
			l := fields(a)
			l[13+4*k] = l[13+4*k]&^0xFF | count
			if judged(t, l) != (count == 8) {
				t.Fatalf("a key of %d bytes", count)
			}
			l = fields(a)
			l[13+4*k] = l[13+4*k]&^0xFF00 | count<<8
			if judged(t, l) != (count == 16) {
				t.Fatalf("a value of %d bytes", count)
			}
		}
		for count := range 17 {
			b := twin(a)
			b.Xattrs[k].Val = drawnText(n, count, 1)
			for at := range 17 {
				l := fields(b)
				l[13+4*k] = l[13+4*k]&^0xFF00 | uint64(at)<<8
				if judged(t, l) != (at >= count) {
					t.Fatalf("a value of %d bytes, told as %d", count, at)
				}
			}
		}
	}
}

// P10.3: words of lists that are not valid, of Bits and classes at all their values, with a mask or without one.
func TestLists(t *testing.T) {
	for v := range uint64(16) {
		for _, a := range samples(19, 40) {
			for _, k := range []int{2, 3} {
				for from := 0; from < 16; from += 4 {
					l := fields(a)
					l[k] = l[k]&^(15<<from) | v<<from
					judged(t, l)
				}
				l := fields(a)
				l[k] ^= 1 << 16
				judged(t, l)
			}
			l := fields(a)
			l[0] = l[0]&^15 | v
			judged(t, l)
		}
	}
	l := fields(full())
	for at := 4; at < 12; at++ {
		for _, w := range []uint64{0, l[at] << 32, l[at] >> 32, bits.RotateLeft64(l[at], 32), l[4], l[7], l[8], l[11], 5<<32 | 5, 6<<32 | 5, 5<<32 | 6} {
			x := slices.Clone(l)
			x[at] = w
			judged(t, x)
		}
	}
	// A list for what is begun may be there only with its bit, even if it is one that may be.
	x := fields(api.Attr{HasDef: true, Def: api.Acl{Owner: 7}})
	x[0] &^= 8
	refused(t, sealed(x...), 1)
}

// P10.3: of several faults the one that the contract names first is told: of the length, of the mark, of the seal, then at 1.
func TestOrder(t *testing.T) {
	for _, a := range samples(20, 20) {
		for set := 1; set < 1<<3; set++ {
			l := fields(a)
			if set&1 > 0 {
				l[0] ^= 1 << 40
			}
			if set&4 > 0 {
				l[30] ^= 1 << 50
			}
			l = sealed(l...)
			if set&2 > 0 {
				l[31] ^= 1 << 40
			}
			at := 1
			switch {
			case set&1 > 0:
				at = 0
			case set&2 > 0:
				at = 31
			}
			refused(t, l, at)
			refused(t, l[:31], 0)
			refused(t, append(l, 0), 0)
		}
	}
}

// P10.3, P10.4: whatever words are drawn near to those of attributes, they are told as the definition tells them, and what is decoded is encoded to them.
func TestDrawn(t *testing.T) {
	n := noise(21)
	all := samples(22, 500)
	good := 0
	for range 60000 {
		l := fields(all[n.IntN(len(all))])
		for range n.IntN(3) {
			at := n.IntN(31)
			was := l[0]
			switch n.IntN(5) {
			case 0:
				l[at] ^= 1 << n.IntN(64)
			case 1:
				l[at] += n.Uint64N(5) - 2
			case 2:
				l[at] = 0
			case 3:
				l[at] = l[n.IntN(31)]
			default:
				l[at] = fields(all[n.IntN(len(all))])[at]
			}
			if l[0]>>32 != 0x41545452 {
				l[0] = was
			}
		}
		if judged(t, l) {
			good++
		}
	}
	if good < 10000 || good > 55000 {
		t.Errorf("%d of 60000 are attributes", good)
	}
}

// flip is l with the bits of the pattern flipped, from bit at on.
func flip(l []uint64, at int, pattern uint32) []uint64 {
	l = slices.Clone(l)
	l[at/64] ^= uint64(pattern) << (at % 64)
	if at%64 > 32 && at/64 < 31 {
		l[at/64+1] ^= uint64(pattern) >> (64 - at%64)
	}
	return l
}

// P10.4: with some of 32 consecutive bits flipped they are not attributes: a fault of the mark is told at 0, any other one by the seal.
func TestFlipped(t *testing.T) {
	n := noise(23)
	for _, a := range samples(24, 2) {
		l := defined(a)
		for at := range 32 * 64 {
			most := uint32(math.MaxUint32)
			if at > 32*64-32 {
				most >>= at - (32*64 - 32)
			}
			patterns := []uint32{1, 3, 1<<31 | 1, math.MaxUint32}
			for range 10 {
				patterns = append(patterns, n.Uint32()|1)
			}
			for _, p := range patterns {
				x := flip(l, at, p&most)
				if x[0]>>32 != l[0]>>32 {
					refused(t, x, 0)
				} else {
					refused(t, x, 31)
				}
			}
		}
	}
}

// What is wrong is told by an error of its own kind, which wraps the fault, which wraps the number.
func TestWrapped(t *testing.T) {
	l := defined(api.Attr{})
	torn := defined(api.Attr{})
	torn[31]++
	long := fields(api.Attr{})
	long[30] = 1
	for at, x := range map[int][]uint64{0: l[:31], 31: torn, 1: sealed(long...)} {
		_, err := Decode(x)
		if _, bare := err.(api.Fault); bare || err == nil {
			t.Fatalf("Decode(%#x): %T", x, err)
		}
		if f := errors.Unwrap(err); f != (api.Fault{At: at, Err: api.ErrForm}) {
			t.Errorf("Decode(%#x): the error wraps %v", x, f)
		}
		for _, e := range []api.Errno{api.ErrForm, api.ErrArg, api.ErrNone, api.EINVAL} {
			if errors.Is(err, e) != (e == api.ErrForm) {
				t.Errorf("Decode(%#x): %v is %v: %v", x, err, e, errors.Is(err, e))
			}
		}
		if err.Error() == "" {
			t.Errorf("Decode(%#x): no text", x)
		}
	}
}

// The chapter's examples.
func TestExamples(t *testing.T) {
	l := make([]uint64, 31)
	l[0], l[1], l[2] = 0x4154545200000000, 0x60005, 0x046
	accepted(t, api.Attr{Uid: 5, Gid: 6, Access: api.Acl{Owner: 6, Group: 4}}, sum.Seal(l))
	if got := Mode(api.Attr{Bits: 5, Access: api.Acl{Owner: 7, Group: 5, Other: 5}}); got != 05755 {
		t.Errorf("Mode = %o", got)
	}
}
