package birth

import (
	"math/rand/v2"
	"slices"
	"testing"

	"parclose/acl"
	"parclose/api"
	"parclose/attr"
)

// noise is a row of numbers that are the same in each run.
func noise(seed uint64) *rand.Rand {
	return rand.New(rand.NewPCG(seed, 14))
}

// isIn tells whether the process is in the group, as layer 12 tells it.
func isIn(c api.Cred, gid uint16) bool {
	for _, g := range append([]uint16{c.Gid}, c.Groups...) {
		if g == gid {
			return true
		}
	}
	return false
}

// digit is the number at that place of what is written in base eight, the last one at 0.
func digit(mode uint16, place int) uint8 {
	for range place {
		mode /= 8
	}
	return uint8(mode % 8)
}

// modelGid is the group of what is created.
func modelGid(c api.Cred, parent api.Attr) uint16 {
	if parent.Bits/2%2 == 1 {
		return parent.Gid
	}
	return c.Gid
}

// modelAccess is the list of a file, or of a directory.
func modelAccess(umask uint16, parent api.Attr, mode uint16) api.Acl {
	if !parent.HasDef {
		return api.Acl{
			Owner: digit(mode, 2) &^ digit(umask, 2),
			Group: digit(mode, 1) &^ digit(umask, 1),
			Other: digit(mode, 0) &^ digit(umask, 0),
		}
	}
	l := parent.Def
	l.Owner &= digit(mode, 2)
	l.Other &= digit(mode, 0)
	if l.HasMask {
		l.Mask &= digit(mode, 1)
	} else {
		l.Group &= digit(mode, 1)
	}
	return l
}

// model is what New is to return.
func model(c api.Cred, umask uint16, parent api.Attr, kind uint8, mode uint16) (api.Attr, api.Errno) {
	if len(c.Groups) > 4 || attr.Check(parent) != 0 || kind < 1 || kind > 3 {
		return api.Attr{}, 622
	}
	a := api.Attr{Uid: c.Uid, Gid: modelGid(c, parent)}
	suid, sgid, sticky := digit(mode, 3)/4, digit(mode, 3)/2%2, digit(mode, 3)%2
	switch kind {
	case 3:
		a.Access = api.Acl{Owner: 7, Group: 7, Other: 7}
	case 2:
		a.Access = modelAccess(umask, parent, mode)
		a.HasDef, a.Def = parent.HasDef, parent.Def
		a.Bits = parent.Bits/2%2*2 + sticky
	case 1:
		a.Access = modelAccess(umask, parent, mode)
		if c.Uid != 0 && !isIn(c, a.Gid) {
			sgid = 0
		}
		a.Bits = 4*suid + 2*sgid + sticky
	}
	return a, 0
}

// holds holds New to the contract, and returns what it returned.
func holds(t *testing.T, c api.Cred, umask uint16, parent api.Attr, kind uint8, mode uint16) (api.Attr, api.Errno) {
	t.Helper()
	got, e := New(c, umask, parent, kind, mode)
	want, wantErr := model(c, umask, parent, kind, mode)
	if e != wantErr || !attr.Same(got, want) {
		t.Fatalf("New(%+v, %#o, %+v, %d, %#o) = %+v, %v; want %+v, %v", c, umask, parent, kind, mode, got, e, want, wantErr)
	}
	return got, e
}

// plain are valid attributes of user 4 and group 9 with this mode.
func plain(mode uint16) api.Attr {
	return api.Attr{Bits: uint8(mode / 512 % 8), Uid: 4, Gid: 9, Access: acl.Of(mode)}
}

// list is a valid list with a mask, and with users and groups.
func list() api.Acl {
	l := api.Acl{Owner: 7, Group: 5, Other: 6, HasMask: true, Mask: 7}
	l.Users = []api.Named{{Id: 4, Perm: 5}, {Id: 8, Perm: 6}}
	l.Groups = []api.Named{{Id: 0, Perm: 4}, {Id: 65535, Perm: 7}}
	return l
}

// full are valid attributes of user 4 and group 9 in which everything is filled.
func full() api.Attr {
	a := plain(07754)
	a.Access.HasMask, a.Access.Mask = true, 3
	a.Access.Users = []api.Named{{Id: 3, Perm: 6}, {Id: 7, Perm: 1}}
	a.Access.Groups = []api.Named{{Id: 1, Perm: 7}, {Id: 8, Perm: 0}}
	a.HasDef, a.Def = true, list()
	a.Xattrs = []api.Xattr{{Key: "a", Val: "one"}, {Key: "b"}}
	return a
}

// with are attributes of user 4 and group 9 with this list for what is created in them.
func with(bits uint8, def api.Acl) api.Attr {
	a := plain(0755)
	a.Bits, a.HasDef, a.Def = bits, true, def
	return a
}

// wrongLists are lists none of which are valid.
func wrongLists() []api.Acl {
	rows := make([]api.Acl, 10)
	for k := range rows {
		rows[k] = list()
	}
	rows[0].Owner = 8
	rows[1].Group = 8
	rows[2].Other = 255
	rows[3].Mask = 8
	rows[4].Users[1].Perm = 8
	rows[5].Users[1].Id = 4
	rows[6].Groups = []api.Named{{Id: 4}, {Id: 3}}
	rows[7].Groups = []api.Named{{Id: 1}, {Id: 2}, {Id: 3}, {Id: 4}, {Id: 5}}
	rows[8].HasMask, rows[8].Mask = false, 0
	rows[9] = api.Acl{Mask: 1}
	return rows
}

// wrongAttrs are attributes none of which are valid.
func wrongAttrs() []api.Attr {
	var rows []api.Attr
	for _, l := range wrongLists() {
		a, b := full(), full()
		a.Access, b.Def = l, l
		rows = append(rows, a, b)
	}
	bits, keys, order, value, none := full(), full(), full(), full(), full()
	bits.Bits = 8
	keys.Xattrs[0].Key = ""
	order.Xattrs[0].Key = "b"
	value.Xattrs[1].Val = "12345678901234567"
	none.HasDef = false
	return append(rows, bits, keys, order, value, none)
}

// drawnCred is a valid process of few users and groups.
func drawnCred(n *rand.Rand) api.Cred {
	c := api.Cred{Uid: uint16(n.IntN(4)), Gid: uint16(n.IntN(6)), High: n.IntN(2) == 0}
	for range n.IntN(5) {
		c.Groups = append(c.Groups, uint16(n.IntN(6)))
	}
	return c
}

// drawnNamed are entries in ascending order of ids.
func drawnNamed(n *rand.Rand) []api.Named {
	var l []api.Named
	for id := range uint16(6) {
		if n.IntN(3) == 0 && len(l) < 4 {
			l = append(l, api.Named{Id: id, Perm: uint8(n.IntN(8))})
		}
	}
	return l
}

// drawnAcl is a valid list.
func drawnAcl(n *rand.Rand) api.Acl {
	l := acl.Of(uint16(n.IntN(512)))
	if n.IntN(2) == 0 {
		l.HasMask, l.Mask = true, uint8(n.IntN(8))
		l.Users, l.Groups = drawnNamed(n), drawnNamed(n)
	}
	return l
}

// drawnAttr are valid attributes.
func drawnAttr(n *rand.Rand) api.Attr {
	a := api.Attr{Bits: uint8(n.IntN(8)), Uid: uint16(n.IntN(4)), Gid: uint16(n.IntN(6)), Access: drawnAcl(n)}
	if n.IntN(2) == 0 {
		a.HasDef, a.Def = true, drawnAcl(n)
	}
	for _, key := range []string{"a", "b", "c"} {
		if n.IntN(3) == 0 {
			a.Xattrs = append(a.Xattrs, api.Xattr{Key: key, Val: key})
		}
	}
	return a
}

// P14.1: files, directories and links are created, and nothing else is, whoever asks.
func TestKinds(t *testing.T) {
	for kind := range 256 {
		for _, c := range []api.Cred{{}, {Uid: 5, Gid: 1}, {Uid: 4, Gid: 9}} {
			for _, parent := range []api.Attr{{}, plain(0755), full()} {
				got, e := holds(t, c, 022, parent, uint8(kind), 0640)
				if none := kind < 1 || kind > 3; none != (e == 622) || none && !attr.Same(got, api.Attr{}) {
					t.Errorf("kind %d: %+v, %v", kind, got, e)
				}
			}
		}
	}
}

// P14.1: processes with more groups than there may be, and attributes that are not valid, are refused for each kind.
func TestNotValid(t *testing.T) {
	for _, uid := range []uint16{0, 4, 5} {
		for kind := range uint8(5) {
			refused := func(c api.Cred, parent api.Attr) {
				t.Helper()
				if got, e := New(c, 022, parent, kind, 0640); e != api.EINVAL || !attr.Same(got, api.Attr{}) {
					t.Errorf("%+v, %+v, kind %d: %+v, %v", c, parent, kind, got, e)
				}
			}
			for _, count := range []int{5, 6, 1000} {
				refused(api.Cred{Uid: uid, Gid: 9, Groups: make([]uint16, count)}, full())
				refused(api.Cred{Uid: uid, Gid: 9, Groups: make([]uint16, count)}, plain(0755))
			}
			for _, parent := range wrongAttrs() {
				refused(api.Cred{Uid: uid, Gid: 9}, parent)
			}
		}
	}
}

// P14.1: four groups, also the same one again, and attributes with as much as there may be, are valid.
func TestValid(t *testing.T) {
	parent := full()
	parent.Xattrs = []api.Xattr{{Key: "12345678", Val: "1234567890123456"}, {Key: "a"}, {Key: "b"}, {Key: "c"}}
	parent.Def.Users = []api.Named{{Id: 1}, {Id: 2, Perm: 7}, {Id: 3}, {Id: 65535}}
	parent.Def.Groups = []api.Named{{Id: 0}, {Id: 2, Perm: 7}, {Id: 3}, {Id: 4, Perm: 1}}
	c := api.Cred{Uid: 65535, Gid: 65535, Groups: []uint16{9, 9, 65535, 1}}
	for kind := range uint8(4) {
		if _, e := holds(t, c, 0, parent, kind, 0777); kind > 0 && e != 0 {
			t.Errorf("kind %d: %v", kind, e)
		}
	}
}

// P14.1: the user is the process's; the group is the parent's where that has BitSgid, whoever asks; values by keys are not handed on.
func TestUserAndGroup(t *testing.T) {
	ids := []uint16{0, 1, 4, 9, 256, 65535}
	for _, uid := range ids {
		for _, gid := range ids {
			for _, of := range ids {
				for bits := range uint8(8) {
					parent := full()
					parent.Uid, parent.Gid, parent.Bits = 7, of, bits
					want := gid
					if bits&2 != 0 {
						want = of
					}
					for kind := range uint8(4) {
						got, e := holds(t, api.Cred{Uid: uid, Gid: gid, Groups: []uint16{9, 3}}, 022, parent, kind, 07777)
						if kind > 0 && (e != 0 || got.Uid != uid || got.Gid != want || len(got.Xattrs) != 0) {
							t.Errorf("by %d of %d, parent of %d with %d, kind %d: %+v, %v", uid, gid, of, bits, kind, got, e)
						}
					}
				}
			}
		}
	}
}

// P14.2: links are all the same, whatever the mode, the umask and the parent are.
func TestLinks(t *testing.T) {
	want := api.Attr{Uid: 5, Gid: 1, Access: acl.Of(0777)}
	for _, parent := range []api.Attr{{}, plain(05000), with(5, acl.Of(0)), with(0, list())} {
		for mode := range uint16(4096) {
			for _, umask := range []uint16{0, 022, 0777, 07777, 65535} {
				got, e := New(api.Cred{Uid: 5, Gid: 1}, umask, parent, api.KindLink, mode)
				if e != api.OK || !attr.Same(got, want) {
					t.Fatalf("%#o, %#o, %+v: %+v, %v", umask, mode, parent, got, e)
				}
			}
		}
	}
	want.Gid = 9 // of the parent's BitSgid a link has the group, but not the bit
	for _, c := range []api.Cred{{Uid: 5, Gid: 1}, {Uid: 5, Gid: 9}} {
		if got, e := New(c, 022, full(), api.KindLink, 07777); e != api.OK || !attr.Same(got, want) {
			t.Errorf("%+v, %v", got, e)
		}
	}
}

// P14.3: without a list of the parent every mode loses what the umask has, and gains nothing.
func TestMasked(t *testing.T) {
	c := api.Cred{Uid: 5, Gid: 1}
	for _, kind := range []uint8{api.KindFile, api.KindDir} {
		for mode := range uint16(512) {
			for umask := range uint16(512) {
				got, e := New(c, umask, plain(0), kind, mode)
				if want := mode & (511 - umask); e != 0 || !acl.Same(got.Access, acl.Of(want)) || got.HasDef || got.Bits != 0 {
					t.Fatalf("umask %#o, kind %d, %#o: %+v, %v; want %#o", umask, kind, mode, got, e, want)
				}
			}
		}
	}
}

// P14.3, P14.4: higher bits of the mode and of the umask are ignored: a umask clears none of the three bits above the nine.
func TestHigherBits(t *testing.T) {
	c := api.Cred{Uid: 5, Gid: 1}
	for high := range uint16(128) {
		for _, parent := range []api.Attr{plain(0), plain(02777), full()} {
			for _, mode := range []uint16{0, 0640, 01777, 07777} {
				for kind := range uint8(4) {
					want, _ := holds(t, c, 0026, parent, kind, mode)
					a, e := holds(t, c, high*512+0026, parent, kind, mode)
					b, f := holds(t, c, 0026, parent, kind, high/8*4096+mode)
					if !attr.Same(a, want) || !attr.Same(b, want) || e != f || kind > 0 && e != 0 {
						t.Fatalf("%d, kind %d: %+v, %+v; want %+v", high, kind, a, b, want)
					}
				}
			}
		}
	}
}

// P14.3: with a list of the parent that counts, less what the mode lacks; the group class is Mask, or Group of a minimal list.
func TestDefOfAll(t *testing.T) {
	c := api.Cred{Uid: 5, Gid: 1}
	for _, kind := range []uint8{api.KindFile, api.KindDir} {
		for def := range uint16(512) {
			minimal := acl.Of(def)
			masked := list()
			masked.Owner, masked.Mask, masked.Other = digit(def, 2), digit(def, 1), digit(def, 0)
			for mode := range uint16(512) {
				got, e := New(c, 0777, with(0, minimal), kind, mode)
				if e != 0 || !acl.Same(got.Access, acl.Of(def&mode)) {
					t.Fatalf("%#o of %#o: %+v, %v", mode, def, got, e)
				}
				want := masked
				want.Owner, want.Mask, want.Other = digit(def&mode, 2), digit(def&mode, 1), digit(def&mode, 0)
				got, e = New(c, 0777, with(0, masked), kind, mode)
				if e != 0 || !acl.Same(got.Access, want) {
					t.Fatalf("%#o of %+v: %+v, %v; want %+v", mode, masked, got, e, want)
				}
			}
		}
	}
}

// P14.3: with a list of the parent, also with one that grants everything or nothing, the umask is ignored.
func TestUmaskIgnored(t *testing.T) {
	for _, def := range []api.Acl{list(), acl.Of(0777), acl.Of(0), {HasMask: true}} {
		for umask := range 65536 {
			for _, kind := range []uint8{api.KindFile, api.KindDir} {
				want := modelAccess(0, with(0, def), 0675)
				if got, e := New(api.Cred{Uid: 5}, uint16(umask), with(0, def), kind, 0675); e != 0 || !acl.Same(got.Access, want) {
					t.Fatalf("umask %#o, kind %d: %+v, %v; want %+v", umask, kind, got, e, want)
				}
			}
		}
	}
}

// P14.3: a directory has the parent's list for what is created in it, uncut, if there is one; a file has none, a link neither.
func TestDefHandedOn(t *testing.T) {
	for _, def := range []api.Acl{list(), acl.Of(0777), acl.Of(0), {HasMask: true}, {}} {
		for _, mode := range []uint16{0, 0700, 0777, 07777} {
			for _, c := range []api.Cred{{}, {Uid: 5, Gid: 1}, {Uid: 4, Gid: 9}} {
				parent := with(7, def)
				for kind := uint8(1); kind < 4; kind++ {
					got, e := holds(t, c, 077, parent, kind, mode)
					want := def
					if kind != api.KindDir {
						want = api.Acl{}
					}
					if e != 0 || got.HasDef != (kind == api.KindDir) || !acl.Same(got.Def, want) {
						t.Errorf("%+v, kind %d: %+v, %v", def, kind, got, e)
					}
					parent.HasDef, parent.Def = false, api.Acl{}
					if got, e = holds(t, c, 077, parent, kind, mode); e != 0 || got.HasDef || !acl.Same(got.Def, api.Acl{}) {
						t.Errorf("without, kind %d: %+v, %v", kind, got, e)
					}
					parent = with(7, def)
				}
			}
		}
	}
}

// P14.3: the parent's own list, its user and its values by keys do not matter.
func TestParentsOwn(t *testing.T) {
	n := noise(1)
	for range 5000 {
		a, b := drawnAttr(n), drawnAttr(n)
		b.HasDef, b.Def, b.Gid, b.Bits = a.HasDef, a.Def, a.Gid, a.Bits&2+b.Bits&5
		c, umask, kind, mode := drawnCred(n), uint16(n.Uint32()), uint8(n.IntN(4)), uint16(n.Uint32())
		x, e := New(c, umask, a, kind, mode)
		y, f := New(c, umask, b, kind, mode)
		if e != f || !attr.Same(x, y) {
			t.Fatalf("%+v of %+v, %+v of %+v", x, a, y, b)
		}
	}
}

// P14.4: a file has the mode's three bits, but BitSgid only for the user 0, and for who is in the file's group.
func TestBitsOfFiles(t *testing.T) {
	for bits := range uint16(8) {
		for parentBits := range uint8(8) {
			parent := plain(0777)
			parent.Bits = parentBits
			for _, x := range []struct {
				c    api.Cred
				kept bool // where the file is of the parent's group, 9; of its own one each process is
			}{
				{api.Cred{Uid: 5, Gid: 1}, false},
				{api.Cred{Uid: 4, Gid: 1}, false}, // the parent's owner
				{api.Cred{Uid: 9, Gid: 1, Groups: []uint16{0, 8, 10, 265}}, false},
				{api.Cred{Uid: 5, Gid: 9}, true},
				{api.Cred{Uid: 5, Gid: 1, Groups: []uint16{8, 8, 1, 9}}, true},
				{api.Cred{Uid: 5, Gid: 1, Groups: []uint16{9}}, true},
				{api.Cred{Uid: 0, Gid: 1}, true},
			} {
				for _, perms := range []uint16{0, 0644, 0755, 0777} {
					want := bits
					if parentBits&2 != 0 && !x.kept {
						want &= 5
					}
					got, e := holds(t, x.c, 022, parent, api.KindFile, bits*512+perms)
					if e != 0 || uint16(got.Bits) != want {
						t.Errorf("by %+v, parent with %d, %#o: %+v, %v; want %d", x.c, parentBits, bits*512+perms, got, e, want)
					}
				}
			}
		}
	}
}

// P14.4: of a directory BitSticky is the mode's, BitSgid the parent's, whoever asks, and BitSuid is 0.
func TestBitsOfDirectories(t *testing.T) {
	for bits := range uint16(8) {
		for parentBits := range uint8(8) {
			for _, parent := range []api.Attr{plain(0), full()} {
				parent.Bits = parentBits
				for _, c := range []api.Cred{{}, {Gid: 9}, {Uid: 5, Gid: 1}, {Uid: 5, Gid: 9}, {Uid: 4, Gid: 1}} {
					want := uint8(bits)&1 + parentBits&2
					got, e := holds(t, c, 07777, parent, api.KindDir, bits*512+0755)
					if e != 0 || got.Bits != want {
						t.Errorf("by %+v, parent with %d, %#o: %+v, %v; want %d", c, parentBits, bits*512+0755, got, e, want)
					}
				}
			}
		}
	}
}

// P14.1 to P14.4: drawn processes, parents and modes, some of them wrong.
func TestDrawn(t *testing.T) {
	n := noise(2)
	for range 60000 {
		c, parent := drawnCred(n), drawnAttr(n)
		if n.IntN(20) == 0 {
			c.Groups = make([]uint16, n.IntN(8))
		}
		if n.IntN(20) == 0 {
			parent.Bits += uint8(n.IntN(3))
			parent.Def.Mask += uint8(n.IntN(3))
		}
		holds(t, c, uint16(n.Uint32()), parent, uint8(n.IntN(5)), uint16(n.Uint32()))
	}
}

// P14.5: what is created is valid, and its nine bits are among those of the mode.
func TestLaws(t *testing.T) {
	n := noise(3)
	for range 60000 {
		c, parent, umask, mode := drawnCred(n), drawnAttr(n), uint16(n.Uint32()), uint16(n.Uint32())
		for kind := uint8(1); kind < 4; kind++ {
			got, e := New(c, umask, parent, kind, mode)
			if e != 0 || attr.Check(got) != 0 {
				t.Fatalf("%+v, %+v, kind %d: %+v, %v", c, parent, kind, got, e)
			}
			more := acl.Bits(got.Access) &^ mode
			if kind != api.KindLink && more != 0 {
				t.Fatalf("%+v, %+v, kind %d, %#o: %#o more", c, parent, kind, mode, more)
			}
		}
	}
}

// P14.5: however deep, and whoever creates them: directories have the first one's list, and its BitSgid and group.
func TestDeep(t *testing.T) {
	n := noise(4)
	for range 2000 {
		first := drawnAttr(n)
		parent := first
		for depth := range 20 {
			c := drawnCred(n)
			got, e := New(c, uint16(n.Uint32()), parent, api.KindDir, uint16(n.Uint32()))
			if e != 0 || got.HasDef != first.HasDef || !acl.Same(got.Def, first.Def) {
				t.Fatalf("at %d in %+v: %+v, %v", depth, first, got, e)
			}
			if got.Bits&2 != first.Bits&2 || got.Bits&2 != 0 && got.Gid != first.Gid || got.Bits&2 == 0 && got.Gid != c.Gid {
				t.Fatalf("at %d in %+v: %+v", depth, first, got)
			}
			parent = got
		}
	}
}

// lists are the lists of entries of attributes.
func lists(a api.Attr) [][]api.Named {
	return [][]api.Named{a.Access.Users, a.Access.Groups, a.Def.Users, a.Def.Groups}
}

// spoil overwrites all that the list has, and the memory behind it.
func spoil(l []api.Named) {
	l = l[:cap(l)]
	for k := range l {
		l[k] = api.Named{Id: 77, Perm: 77}
	}
}

// roomy is an equal list with room behind it.
func roomy(l []api.Named) []api.Named {
	return append(make([]api.Named, 0, len(l)+3), l...)
}

// results are what is created of each kind in a directory with those attributes.
func results(c api.Cred, parent api.Attr) []api.Attr {
	var all []api.Attr
	for kind := uint8(1); kind < 4; kind++ {
		got, _ := New(c, 022, parent, kind, 0754)
		all = append(all, got)
	}
	return all
}

// R5: results share no memory with arguments.
func TestResultsAreNew(t *testing.T) {
	parent := full()
	for _, p := range []*[]api.Named{&parent.Access.Users, &parent.Access.Groups, &parent.Def.Users, &parent.Def.Groups} {
		*p = roomy(*p)
	}
	c := api.Cred{Uid: 5, Gid: 1}
	want, got := results(c, full()), results(c, parent)
	for _, l := range lists(parent) {
		spoil(l)
	}
	for k := range want {
		if !attr.Same(got[k], want[k]) {
			t.Errorf("result %d was spoilt: %+v", k, got[k])
		}
	}
}

// R5: arguments are not modified, not even by who overwrites the results.
func TestArgumentsStay(t *testing.T) {
	for _, uid := range []uint16{0, 4, 5} {
		c, parent := api.Cred{Uid: uid, Gid: 1, Groups: []uint16{9, 2}}, full()
		for _, got := range results(c, parent) {
			for _, l := range lists(got) {
				spoil(l)
			}
		}
		if !attr.Same(parent, full()) || !slices.Equal(c.Groups, []uint16{9, 2}) {
			t.Errorf("%+v, %+v", c, parent)
		}
	}
}

// R5: no two lists of a result share memory, also where those of the argument do.
func TestListsOfTheirOwn(t *testing.T) {
	shared := []api.Named{{Id: 3, Perm: 6}, {Id: 7, Perm: 1}}
	parent := full()
	parent.Access.Users, parent.Access.Groups, parent.Def.Users, parent.Def.Groups = shared, shared, shared, shared
	for k, got := range results(api.Cred{Uid: 5, Gid: 1}, parent) {
		all := lists(got)
		for one := range all {
			before := slices.Clone(all[one])
			for other := range all {
				if other != one {
					spoil(all[other])
				}
			}
			if !slices.Equal(all[one], before) {
				t.Errorf("result %d: list %d shares memory", k, one)
			}
		}
	}
}

// R4: a nil list and an empty one are equivalent.
func TestEmptyLists(t *testing.T) {
	for _, bare := range []api.Attr{plain(06755), with(2, acl.Of(0750)), with(0, api.Acl{HasMask: true, Mask: 7})} {
		empty := bare
		empty.Access.Users, empty.Access.Groups = []api.Named{}, []api.Named{}
		empty.Def.Users, empty.Def.Groups = []api.Named{}, []api.Named{}
		empty.Xattrs = []api.Xattr{}
		for _, uid := range []uint16{0, 5} {
			x, y := results(api.Cred{Uid: uid}, bare), results(api.Cred{Uid: uid, Groups: []uint16{}}, empty)
			for k := range x {
				if !attr.Same(x[k], y[k]) || attr.Check(y[k]) != 0 {
					t.Errorf("%d: result %d: %+v and %+v", uid, k, x[k], y[k])
				}
			}
		}
	}
}

// R6: the label does not matter, and neither does the order of groups.
func TestLabelMattersNot(t *testing.T) {
	n := noise(5)
	for range 5000 {
		c, parent := drawnCred(n), drawnAttr(n)
		d := c
		d.High = !c.High
		d.Groups = slices.Clone(c.Groups)
		slices.Reverse(d.Groups)
		x, y := results(c, parent), results(d, parent)
		for k := range x {
			if !attr.Same(x[k], y[k]) {
				t.Fatalf("%+v, %+v: result %d: %+v and %+v", c, parent, k, x[k], y[k])
			}
		}
	}
}

// The chapter's examples.
func TestExamples(t *testing.T) {
	c := api.Cred{Uid: 5, Gid: 1}
	for _, x := range []struct {
		umask, parent, mode uint16
		gid, want           uint16
	}{
		{022, 0755, 0666, 1, 0644},
		{022, 02755, 0666, 9, 0644},
		{022, 02755, 02755, 9, 0755},
		{022, 0755, 02755, 1, 02755},
	} {
		got, e := New(c, x.umask, plain(x.parent), api.KindFile, x.mode)
		if e != api.OK || got.Uid != 5 || got.Gid != x.gid || attr.Mode(got) != x.want {
			t.Errorf("%#o in %#o: %+v, %v", x.mode, x.parent, got, e)
		}
	}
	def := api.Acl{Owner: 7, Group: 7, Other: 5, HasMask: true, Mask: 7, Users: []api.Named{{Id: 8, Perm: 6}}}
	want := api.Acl{Owner: 6, Group: 7, HasMask: true, Mask: 4, Users: []api.Named{{Id: 8, Perm: 6}}}
	if got, e := New(c, 077, with(0, def), api.KindFile, 0640); e != api.OK || !acl.Same(got.Access, want) {
		t.Errorf("%+v, %v; want %+v", got, e, want)
	}
	if got, e := New(c, 077, plain(0755), api.KindLink, 0); e != api.OK || attr.Mode(got) != 0777 {
		t.Errorf("a link: %+v, %v", got, e)
	}
}
