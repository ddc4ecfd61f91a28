package owner

import (
	"math"
	"math/rand/v2"
	"slices"
	"testing"

	"parclose/acl"
	"parclose/api"
	"parclose/attr"
)

// noise is a row of numbers that are the same in each run.
func noise(seed uint64) *rand.Rand {
	return rand.New(rand.NewPCG(seed, 13))
}

// isIn tells whether the process is in the group, as layer 12 tells it.
func isIn(c api.Cred, gid uint16) bool {
	for _, g := range append([]uint16{c.Gid}, c.Groups...) {
		if g == gid {
			return true
		}
	}
	return false
}

// modelOwns tells who owns valid attributes, as the definition tells it.
func modelOwns(c api.Cred, a api.Attr) bool {
	if c.Uid == 0 {
		return true
	}
	return c.Uid == a.Uid
}

// modelValid tells whether all of these are valid.
func modelValid(c api.Cred, l ...api.Attr) bool {
	for _, a := range l {
		if attr.Check(a) != 0 {
			return false
		}
	}
	return len(c.Groups) <= 4
}

// classX tells whether the list's group class has PermX.
func classX(l api.Acl) bool {
	if l.HasMask {
		return l.Mask%2 == 1
	}
	return l.Group%2 == 1
}

// modelCleared is the Bits (4 of the user, 2 of the group, 1 of the sticky ones) when the set bits are cleared.
func modelCleared(a api.Attr) uint8 {
	sticky, sgid := a.Bits%2, a.Bits/2%2
	if classX(a.Access) {
		sgid = 0
	}
	return 2*sgid + sticky
}

// modelLost is the Bits when BitSgid is lost.
func modelLost(c api.Cred, a api.Attr, kind uint8) uint8 {
	if kind == 1 && c.Uid != 0 && !isIn(c, a.Gid) {
		return a.Bits/4*4 + a.Bits%2
	}
	return a.Bits
}

// modelChmod is what Chmod is to return.
func modelChmod(c api.Cred, a api.Attr, kind uint8, mode uint16) (api.Attr, api.Errno) {
	if !modelValid(c, a) {
		return api.Attr{}, 622
	}
	if !modelOwns(c, a) {
		return api.Attr{}, 601
	}
	a.Bits = uint8(mode / 512 % 8)
	a.Access.Owner = uint8(mode / 64 % 8)
	if a.Access.HasMask {
		a.Access.Mask = uint8(mode / 8 % 8)
	} else {
		a.Access.Group = uint8(mode / 8 % 8)
	}
	a.Access.Other = uint8(mode % 8)
	a.Bits = modelLost(c, a, kind)
	return a, 0
}

// modelChown is what Chown is to return.
func modelChown(c api.Cred, a api.Attr, kind uint8, uid, gid int) (api.Attr, api.Errno) {
	switch {
	case !modelValid(c, a) || uid < -1 || uid > 65535 || gid < -1 || gid > 65535:
		return api.Attr{}, 622
	case !modelOwns(c, a):
		return api.Attr{}, 601
	case c.Uid != 0 && uid != -1 && uid != int(a.Uid):
		return api.Attr{}, 601
	case c.Uid != 0 && gid != -1 && gid != int(a.Gid) && !isIn(c, uint16(gid)):
		return api.Attr{}, 601
	}
	if uid >= 0 {
		a.Uid = uint16(uid)
	}
	if gid >= 0 {
		a.Gid = uint16(gid)
	}
	if kind == 1 {
		a.Bits = modelCleared(a)
	}
	return a, 0
}

// modelSetAcl is what SetAcl is to return.
func modelSetAcl(c api.Cred, a api.Attr, kind, which uint8, l api.Acl) (api.Attr, api.Errno) {
	switch {
	case !modelValid(c, a) || which < 1 || which > 3:
		return api.Attr{}, 622
	case !modelOwns(c, a):
		return api.Attr{}, 601
	case which != 1 && kind != 2:
		return api.Attr{}, 613
	case which != 3 && acl.Check(l) != 0:
		return api.Attr{}, 622
	case which == 1:
		a.Access = l
		a.Bits = modelLost(c, a, kind)
	case which == 2:
		a.HasDef, a.Def = true, l
	default:
		a.HasDef, a.Def = false, api.Acl{}
	}
	return a, 0
}

// modelWritten is what Written is to return.
func modelWritten(c api.Cred, a api.Attr) api.Attr {
	if !modelValid(c, a) {
		return api.Attr{}
	}
	if c.Uid > 0 {
		a.Bits = modelCleared(a)
	}
	return a
}

// modelRemoves is what Removes is to return.
func modelRemoves(c api.Cred, dir, a api.Attr) bool {
	return modelValid(c, dir, a) && (modelOwns(c, a) || modelOwns(c, dir) || dir.Bits%2 == 0)
}

// holdsChmod holds Chmod to the contract, and returns what it returned.
func holdsChmod(t *testing.T, c api.Cred, a api.Attr, kind uint8, mode uint16) (api.Attr, api.Errno) {
	t.Helper()
	got, e := Chmod(c, a, kind, mode)
	want, wantErr := modelChmod(c, a, kind, mode)
	if e != wantErr || !attr.Same(got, want) {
		t.Fatalf("Chmod(%+v, %+v, %d, %#o) = %+v, %v; want %+v, %v", c, a, kind, mode, got, e, want, wantErr)
	}
	return got, e
}

// holdsChown holds Chown to the contract, and returns what it returned.
func holdsChown(t *testing.T, c api.Cred, a api.Attr, kind uint8, uid, gid int) (api.Attr, api.Errno) {
	t.Helper()
	got, e := Chown(c, a, kind, uid, gid)
	want, wantErr := modelChown(c, a, kind, uid, gid)
	if e != wantErr || !attr.Same(got, want) {
		t.Fatalf("Chown(%+v, %+v, %d, %d, %d) = %+v, %v; want %+v, %v", c, a, kind, uid, gid, got, e, want, wantErr)
	}
	return got, e
}

// holdsSetAcl holds SetAcl to the contract, and returns what it returned.
func holdsSetAcl(t *testing.T, c api.Cred, a api.Attr, kind, which uint8, l api.Acl) (api.Attr, api.Errno) {
	t.Helper()
	got, e := SetAcl(c, a, kind, which, l)
	want, wantErr := modelSetAcl(c, a, kind, which, l)
	if e != wantErr || !attr.Same(got, want) {
		t.Fatalf("SetAcl(%+v, %+v, %d, %d, %+v) = %+v, %v; want %+v, %v", c, a, kind, which, l, got, e, want, wantErr)
	}
	return got, e
}

// holdsWritten holds Written to the contract, and returns what it returned.
func holdsWritten(t *testing.T, c api.Cred, a api.Attr) api.Attr {
	t.Helper()
	got := Written(c, a)
	if want := modelWritten(c, a); !attr.Same(got, want) {
		t.Fatalf("Written(%+v, %+v) = %+v; want %+v", c, a, got, want)
	}
	return got
}

// holdsRemoves holds Removes to the contract.
func holdsRemoves(t *testing.T, c api.Cred, dir, a api.Attr) {
	t.Helper()
	if got, want := Removes(c, dir, a), modelRemoves(c, dir, a); got != want {
		t.Fatalf("Removes(%+v, %+v, %+v) = %v; want %v", c, dir, a, got, want)
	}
}

// plain are valid attributes of user 5 and group 2 with this mode.
func plain(mode uint16) api.Attr {
	return api.Attr{Bits: uint8(mode / 512), Uid: 5, Gid: 2, Access: acl.Of(mode)}
}

// full are valid attributes of user 5 and group 2 in which everything is filled.
func full() api.Attr {
	a := plain(07754)
	a.Access.HasMask, a.Access.Mask = true, 6
	a.Access.Users = []api.Named{{Id: 3, Perm: 6}, {Id: 7, Perm: 1}}
	a.Access.Groups = []api.Named{{Id: 1, Perm: 7}, {Id: 8, Perm: 0}}
	a.HasDef, a.Def = true, api.Acl{Owner: 7, Group: 1, Other: 2, HasMask: true, Mask: 3}
	a.Def.Users = []api.Named{{Id: 4, Perm: 5}}
	a.Def.Groups = []api.Named{{Id: 0, Perm: 4}, {Id: 65535, Perm: 3}}
	a.Xattrs = []api.Xattr{{Key: "a", Val: "one"}, {Key: "b"}}
	return a
}

// list is a valid list that is not one of full's.
func list() api.Acl {
	l := api.Acl{Owner: 3, Group: 6, Other: 1, HasMask: true, Mask: 5}
	l.Users = []api.Named{{Id: 2, Perm: 2}, {Id: 9, Perm: 7}}
	l.Groups = []api.Named{{Id: 2, Perm: 4}}
	return l
}

// wrongLists are lists none of which are valid.
func wrongLists() []api.Acl {
	rows := make([]api.Acl, 10)
	for k := range rows {
		rows[k] = list()
	}
	rows[0].Owner = 8
	rows[1].Group = 8
	rows[2].Other = 255
	rows[3].Mask = 8
	rows[4].Users[1].Perm = 8
	rows[5].Users[1].Id = 2
	rows[6].Groups = []api.Named{{Id: 4}, {Id: 3}}
	rows[7].Groups = []api.Named{{Id: 1}, {Id: 2}, {Id: 3}, {Id: 4}, {Id: 5}}
	rows[8].HasMask, rows[8].Mask = false, 0
	rows[9] = api.Acl{Mask: 1}
	return rows
}

// wrongAttrs are attributes of user 5 and group 2 none of which are valid.
func wrongAttrs() []api.Attr {
	var rows []api.Attr
	for _, l := range wrongLists() {
		a, b := full(), full()
		a.Access, b.Def = l, l
		rows = append(rows, a, b)
	}
	bits, keys, order, none := full(), full(), full(), full()
	bits.Bits = 8
	keys.Xattrs[0].Key = ""
	order.Xattrs[0].Key = "b"
	none.HasDef = false
	return append(rows, bits, keys, order, none)
}

// drawnCred is a valid process of few users and groups, so that it often owns attributes, and is often in their group.
func drawnCred(n *rand.Rand) api.Cred {
	c := api.Cred{Uid: uint16(n.IntN(4)), Gid: uint16(n.IntN(6)), High: n.IntN(2) == 0}
	for range n.IntN(5) {
		c.Groups = append(c.Groups, uint16(n.IntN(6)))
	}
	return c
}

// drawnNamed are entries in ascending order of ids.
func drawnNamed(n *rand.Rand) []api.Named {
	var l []api.Named
	for id := range uint16(6) {
		if n.IntN(3) == 0 && len(l) < 4 {
			l = append(l, api.Named{Id: id, Perm: uint8(n.IntN(8))})
		}
	}
	return l
}

// drawnAcl is a valid list.
func drawnAcl(n *rand.Rand) api.Acl {
	l := acl.Of(uint16(n.IntN(512)))
	if n.IntN(2) == 0 {
		l.HasMask, l.Mask = true, uint8(n.IntN(8))
		l.Users, l.Groups = drawnNamed(n), drawnNamed(n)
	}
	return l
}

// drawnAttr are valid attributes.
func drawnAttr(n *rand.Rand) api.Attr {
	a := api.Attr{Bits: uint8(n.IntN(8)), Uid: uint16(n.IntN(4)), Gid: uint16(n.IntN(6)), Access: drawnAcl(n)}
	if n.IntN(2) == 0 {
		a.HasDef, a.Def = true, drawnAcl(n)
	}
	for _, key := range []string{"a", "b", "c"} {
		if n.IntN(3) == 0 {
			a.Xattrs = append(a.Xattrs, api.Xattr{Key: key, Val: key})
		}
	}
	return a
}

// drawnId is what Chown may be told, or now and then what it may not.
func drawnId(n *rand.Rand) int {
	if n.IntN(20) == 0 {
		return []int{-2, 65536, 65535, math.MaxInt, math.MinInt}[n.IntN(5)]
	}
	return n.IntN(7) - 1
}

// P13.1: attributes are owned by the user 0, and by theirs; no group and no entry of a list owns them.
func TestOwns(t *testing.T) {
	users := []uint16{0, 1, 2, 5, 256, 65535}
	for _, uid := range users {
		for _, of := range users {
			for _, gid := range []uint16{0, 2, 5} {
				a := full()
				a.Uid, a.Gid = of, gid
				want := uid == 0 || uid == of
				for _, c := range []api.Cred{{Uid: uid}, {Uid: uid, Gid: of, Groups: []uint16{of, gid}}, {Uid: uid, Gid: gid, High: true}} {
					if got := Owns(c, a); got != want {
						t.Errorf("Owns(%+v, %+v) = %v", c, a, got)
					}
				}
			}
		}
	}
	if !Owns(api.Cred{}, api.Attr{}) || Owns(api.Cred{Uid: 1}, api.Attr{}) {
		t.Error("of attributes without anything")
	}
}

// P13.1: all users of inodes and directories, all Bits, and all that they have beside.
func TestRemoves(t *testing.T) {
	users := []uint16{0, 1, 2, 65535}
	for _, uid := range users {
		for _, of := range users {
			for _, dirOf := range users {
				for bits := range uint8(8) {
					for more := range uint8(8) {
						dir, a := full(), full()
						dir.Uid, dir.Bits = dirOf, bits
						a.Uid, a.Bits = of, more
						want := uid == 0 || uid == of || uid == dirOf || bits&1 == 0
						if got := Removes(api.Cred{Uid: uid, Gid: 2}, dir, a); got != want {
							t.Errorf("Removes by %d: directory of %d with %d, inode of %d with %d: %v", uid, dirOf, bits, of, more, got)
						}
					}
				}
			}
		}
	}
}

// P13.1: perms do not matter, not even those of who may write the directory.
func TestRemovesWithoutPerms(t *testing.T) {
	for mode := range uint16(512) {
		if !Removes(api.Cred{Uid: 7, Gid: 2}, plain(mode), plain(0)) {
			t.Errorf("%#o", mode)
		}
		if Removes(api.Cred{Uid: 7, Gid: 2}, plain(01000+mode), plain(mode)) {
			t.Errorf("%#o, sticky", mode)
		}
	}
}

// refused holds that each call with these returns EINVAL, or zero.
func refused(t *testing.T, c api.Cred, a api.Attr) {
	t.Helper()
	good := full()
	if Owns(c, a) || Removes(c, good, a) || Removes(c, a, good) || Removes(c, a, a) {
		t.Errorf("%+v, %+v: owned, or removed", c, a)
	}
	if got := Written(c, a); !attr.Same(got, api.Attr{}) {
		t.Errorf("Written(%+v, %+v) = %+v", c, a, got)
	}
	for _, kind := range []uint8{0, 1, 2, 3} {
		holds := func(what string, got api.Attr, e api.Errno) {
			t.Helper()
			if e != 622 || !attr.Same(got, api.Attr{}) {
				t.Errorf("%s(%+v, %+v, %d, ..) = %+v, %v", what, c, a, kind, got, e)
			}
		}
		got, e := Chmod(c, a, kind, 0640)
		holds("Chmod", got, e)
		for _, id := range []int{-2, -1, 5, 99, 65536} {
			got, e = Chown(c, a, kind, id, -1)
			holds("Chown", got, e)
			got, e = Chown(c, a, kind, -1, id)
			holds("Chown", got, e)
		}
		for which := range uint8(5) {
			got, e = SetAcl(c, a, kind, which, list())
			holds("SetAcl", got, e)
			got, e = SetAcl(c, a, kind, which, wrongLists()[0])
			holds("SetAcl", got, e)
		}
	}
}

// P13.1 to P13.5: processes and attributes that are not valid come before everything else, whoever asks.
func TestNotValid(t *testing.T) {
	for _, uid := range []uint16{0, 5, 6} {
		for _, count := range []int{5, 6, 1000} {
			refused(t, api.Cred{Uid: uid, Gid: 2, Groups: make([]uint16, count)}, full())
		}
		for _, a := range wrongAttrs() {
			refused(t, api.Cred{Uid: uid, Gid: 2}, a)
		}
	}
}

// P13.1 to P13.5: four groups, and attributes with as much as there may be, are valid.
func TestValid(t *testing.T) {
	c := api.Cred{Uid: 5, Gid: 65535, Groups: []uint16{9, 9, 65535, 1}}
	a := full()
	a.Xattrs = []api.Xattr{{Key: "12345678", Val: "1234567890123456"}, {Key: "a"}, {Key: "b"}, {Key: "c"}}
	a.Def.Users = []api.Named{{Id: 1}, {Id: 2, Perm: 7}, {Id: 3}, {Id: 65535}}
	if attr.Check(a) != 0 {
		t.Fatal("not valid")
	}
	if !Owns(c, a) || !Removes(c, a, a) {
		t.Error("not owned")
	}
	for _, kind := range []uint8{1, 2, 3} {
		for _, e := range []api.Errno{
			second(holdsChmod(t, c, a, kind, 0123)), second(holdsChown(t, c, a, kind, 5, 1)), second(holdsSetAcl(t, c, a, kind, 1, list())),
		} {
			if e != 0 {
				t.Errorf("%d: %v", kind, e)
			}
		}
	}
	if got := holdsWritten(t, c, a); got.Bits != 3 {
		t.Errorf("Written: %d", got.Bits)
	}
}

// second is the error of what was returned.
func second(_ api.Attr, e api.Errno) api.Errno {
	return e
}

// P13.2: every mode, modulo 4096, of lists without and with a mask.
func TestChmodOfAll(t *testing.T) {
	for _, a := range []api.Attr{plain(0), plain(07777), full()} {
		for mode := range 65536 {
			for _, c := range []api.Cred{{Uid: 5, Gid: 2}, {Gid: 9}} {
				got, e := holdsChmod(t, c, a, 1, uint16(mode))
				if e != 0 || attr.Mode(got) != uint16(mode%4096) {
					t.Fatalf("%+v to %#o: %#o, %v", a, mode, attr.Mode(got), e)
				}
			}
		}
	}
}

// P13.2: with a mask it is the mask that is changed, and what the list names stays.
func TestChmodOfMask(t *testing.T) {
	got, e := Chmod(api.Cred{Uid: 5, Gid: 2}, full(), api.KindFile, 01531)
	want := full()
	want.Bits = api.BitSticky
	want.Access.Owner, want.Access.Mask, want.Access.Other = 5, 3, 1
	if e != api.OK || !attr.Same(got, want) {
		t.Errorf("%+v, %v; want %+v", got, e, want)
	}
}

// P13.2: BitSgid is lost of a file that a process changes that is not in its group, and not the user 0; the other bits are not.
func TestChmodLoses(t *testing.T) {
	for kind := range 256 {
		for bits := range uint16(8) {
			for _, x := range []struct {
				c    api.Cred
				lost bool
			}{
				{api.Cred{Uid: 5, Gid: 1}, true},
				{api.Cred{Uid: 5, Gid: 5, Groups: []uint16{1, 3, 0, 65535}}, true},
				{api.Cred{Uid: 5, Gid: 2}, false},
				{api.Cred{Uid: 5, Gid: 1, Groups: []uint16{3, 3, 1, 2}}, false},
				{api.Cred{Uid: 0, Gid: 1}, false},
				{api.Cred{Uid: 0, Gid: 2}, false},
			} {
				want := bits
				if x.lost && kind == 1 {
					want &= 5
				}
				// What they had before does not matter, and neither do the perms.
				for _, before := range []uint16{0, 02000, 07777} {
					for _, perms := range []uint16{0, 0777, 0644} {
						got, e := holdsChmod(t, x.c, plain(before), uint8(kind), bits*512+perms)
						if e != 0 || attr.Mode(got) != want*512+perms {
							t.Fatalf("kind %d, by %+v, to %#o: %#o, %v", kind, x.c, bits*512+perms, attr.Mode(got), e)
						}
					}
				}
			}
		}
	}
}

// P13.2 to P13.4: who does not own them is refused, also where nothing would change, and also members of the group.
func TestNotOwner(t *testing.T) {
	a := full()
	for _, c := range []api.Cred{{Uid: 6}, {Uid: 1, Gid: 2}, {Uid: 65535, Gid: 5, Groups: []uint16{2, 5, 0}}, {Uid: 3, Gid: 2}, {Uid: 261}} {
		for _, kind := range []uint8{0, 1, 2, 3, 4, 255} {
			for what, got := range map[string]func() (api.Attr, api.Errno){
				"Chmod":  func() (api.Attr, api.Errno) { return holdsChmod(t, c, a, kind, attr.Mode(a)) },
				"Chown":  func() (api.Attr, api.Errno) { return holdsChown(t, c, a, kind, -1, -1) },
				"SetAcl": func() (api.Attr, api.Errno) { return holdsSetAcl(t, c, a, kind, 1, a.Access) },
				"Def":    func() (api.Attr, api.Errno) { return holdsSetAcl(t, c, a, kind, 2, a.Def) },
				"NoDef":  func() (api.Attr, api.Errno) { return holdsSetAcl(t, c, a, kind, 3, api.Acl{}) },
			} {
				if b, e := got(); e != 601 || !attr.Same(b, api.Attr{}) {
					t.Errorf("%s by %+v, kind %d: %+v, %v", what, c, kind, b, e)
				}
			}
		}
	}
}

// P13.3: users and groups are from -1 to 65535; beyond that they come before who asks.
func TestChownBounds(t *testing.T) {
	ids := []int{math.MinInt, math.MinInt32, -65536, -65535, -2, -1, 0, 1, 2, 5, 65534, 65535, 65536, 65537, 65541, 131071, math.MaxInt32, math.MaxInt}
	for _, uid := range ids {
		for _, gid := range ids {
			outside := uid < -1 || uid > 65535 || gid < -1 || gid > 65535
			for _, c := range []api.Cred{{}, {Uid: 5, Gid: 65535, Groups: []uint16{0, 1}}, {Uid: 6}} {
				got, e := holdsChown(t, c, full(), 1, uid, gid)
				if (e == 622) != outside {
					t.Errorf("%d, %d: %v", uid, gid, e)
				}
				if c.Uid != 0 || outside {
					continue
				}
				wantUid, wantGid := uid, gid
				if uid == -1 {
					wantUid = 5
				}
				if gid == -1 {
					wantGid = 2
				}
				if e != 0 || int(got.Uid) != wantUid || int(got.Gid) != wantGid {
					t.Errorf("%d, %d: %d, %d, %v", uid, gid, got.Uid, got.Gid, e)
				}
			}
		}
	}
}

// P13.3: the owner gives nothing away, but to groups in which it is.
func TestChownByOwner(t *testing.T) {
	c := api.Cred{Uid: 5, Gid: 1, Groups: []uint16{0, 8, 65535, 8}}
	for _, kind := range []uint8{0, 1, 2, 3, 255} {
		for uid := -1; uid < 12; uid++ {
			for gid := -1; gid < 65536; gid += 1 + max(0, gid-20)/7 {
				may := (uid == -1 || uid == 5) && slices.Contains([]int{-1, 2, 0, 1, 8, 65535}, gid)
				if _, e := holdsChown(t, c, full(), kind, uid, gid); (e == 0) != may || e != 0 && e != 601 {
					t.Errorf("kind %d, to %d, %d: %v", kind, uid, gid, e)
				}
			}
		}
		for _, gid := range []int{65534, 65535} {
			if _, e := holdsChown(t, c, full(), kind, 5, gid); (e == 0) != (gid == 65535) {
				t.Errorf("kind %d, to group %d: %v", kind, gid, e)
			}
		}
	}
}

// P13.3: that the process is in the group of the attributes matters for none that they get; its Uid is no group.
func TestChownByMember(t *testing.T) {
	c := api.Cred{Uid: 5, Gid: 2}
	for _, gid := range []int{0, 1, 3, 5, 65535} {
		if _, e := holdsChown(t, c, full(), 1, -1, gid); e != 601 {
			t.Errorf("to group %d: %v", gid, e)
		}
	}
}

// P13.3: of a file the set bits are cleared, whoever asks, also where neither user nor group changes; of others none are.
func TestChownClears(t *testing.T) {
	for kind := range 256 {
		for bits := range uint8(8) {
			for class := range uint8(8) {
				minimal, masked := plain(0707), full()
				minimal.Bits, masked.Bits = bits, bits
				minimal.Access.Group = class
				masked.Access.Mask, masked.Access.Group = class, 7-class
				want := bits
				if kind == 1 {
					want &= 3
				}
				if kind == 1 && class%2 == 1 {
					want &= 1
				}
				for _, c := range []api.Cred{{}, {Uid: 5, Gid: 1}, {Uid: 5, Gid: 2}} {
					for _, id := range []int{-1, 5} {
						for _, a := range []api.Attr{minimal, masked} {
							got, e := holdsChown(t, c, a, uint8(kind), id, -1)
							if e != 0 || got.Bits != want {
								t.Fatalf("kind %d, %+v by %+v: %d, %v; want %d", kind, a, c, got.Bits, e, want)
							}
						}
					}
				}
			}
		}
	}
}

// P13.4: each of the three, of each kind; all others are wrong, whoever asks.
func TestSetAclOfAll(t *testing.T) {
	for which := range 256 {
		for kind := range 256 {
			for _, x := range []struct {
				c    api.Cred
				owns bool
			}{{api.Cred{}, true}, {api.Cred{Uid: 5, Gid: 2}, true}, {api.Cred{Uid: 6}, false}} {
				want := api.Errno(0)
				switch {
				case which == 0 || which > 3:
					want = 622
				case !x.owns:
					want = 601
				case which > 1 && kind != 2:
					want = 613
				}
				if _, e := holdsSetAcl(t, x.c, full(), uint8(kind), uint8(which), list()); e != want {
					t.Fatalf("%d of kind %d by %+v: %v; want %v", which, kind, x.c, e, want)
				}
			}
		}
	}
}

// P13.4: what each of the three changes.
func TestSetAclChanges(t *testing.T) {
	c := api.Cred{Uid: 5, Gid: 2}
	bare := plain(0750)
	for _, l := range []api.Acl{list(), acl.Of(0), acl.Of(0777), {HasMask: true}} {
		for _, a := range []api.Attr{full(), bare} {
			access, def, noDef := a, a, a
			access.Access = l
			def.HasDef, def.Def = true, l
			noDef.HasDef, noDef.Def = false, api.Acl{}
			for k, want := range []api.Attr{access, def, noDef} {
				if got, e := holdsSetAcl(t, c, a, api.KindDir, uint8(k+1), l); e != 0 || !attr.Same(got, want) {
					t.Errorf("%d, %+v: %+v, %v; want %+v", k+1, l, got, e, want)
				}
			}
		}
	}
}

// P13.4: lists that are not valid are refused, but where none is set.
func TestSetAclOfWrongLists(t *testing.T) {
	for k, l := range wrongLists() {
		for _, uid := range []uint16{0, 5} {
			c := api.Cred{Uid: uid, Gid: 2}
			for which, want := range []api.Errno{1: 622, 2: 622, 3: 0} {
				if which == 0 {
					continue
				}
				got, e := holdsSetAcl(t, c, full(), api.KindDir, uint8(which), l)
				if e != want || e != 0 && !attr.Same(got, api.Attr{}) || e == 0 && (got.HasDef || !acl.Same(got.Def, api.Acl{})) {
					t.Errorf("list %d, which %d: %+v, %v", k, which, got, e)
				}
			}
		}
	}
}

// P13.4: BitSgid is lost of a file that gets another list from who is not in its group, whatever the list has; other bits stay.
func TestSetAclLoses(t *testing.T) {
	for kind := range 256 {
		for bits := range uint8(8) {
			for _, x := range []struct {
				c    api.Cred
				lost bool
			}{
				{api.Cred{Uid: 5, Gid: 1}, true},
				{api.Cred{Uid: 5, Gid: 5, Groups: []uint16{9, 8}}, true}, // groups of lists are no help
				{api.Cred{Uid: 5, Gid: 2}, false},
				{api.Cred{Uid: 5, Gid: 1, Groups: []uint16{2}}, false},
				{api.Cred{Gid: 1}, false},
			} {
				for _, l := range []api.Acl{list(), acl.Of(0), acl.Of(0777)} {
					a := full()
					a.Bits = bits
					want := bits
					if x.lost && kind == 1 {
						want &= 5
					}
					if got, e := holdsSetAcl(t, x.c, a, uint8(kind), 1, l); e != 0 || got.Bits != want {
						t.Fatalf("kind %d, by %+v: %d, %v; want %d", kind, x.c, got.Bits, e, want)
					}
				}
			}
		}
	}
	// Of a directory all bits stay, whoever sets its other list.
	for which := range uint8(4) {
		if got, e := SetAcl(api.Cred{Uid: 5, Gid: 1}, full(), api.KindDir, which, list()); which > 0 && (e != 0 || got.Bits != 7) {
			t.Errorf("%d: %d, %v", which, got.Bits, e)
		}
	}
}

// P13.5: each of the Bits, of each group class, by the user 0 and by others, whoever owns it.
func TestWrittenOfAll(t *testing.T) {
	for bits := range uint8(8) {
		for class := range uint8(8) {
			minimal, masked := plain(0707), full()
			minimal.Bits, masked.Bits = bits, bits
			minimal.Access.Group = class
			masked.Access.Mask, masked.Access.Group = class, 7-class
			want := bits & 3
			if class%2 == 1 {
				want &= 1
			}
			for _, a := range []api.Attr{minimal, masked} {
				for _, c := range []api.Cred{{Uid: 5, Gid: 2}, {Uid: 5, Gid: 1}, {Uid: 6, Gid: 2}, {Uid: 65535, Groups: []uint16{0}}} {
					if got := holdsWritten(t, c, a); got.Bits != want {
						t.Errorf("%+v by %+v: %d; want %d", a, c, got.Bits, want)
					}
				}
				own := a
				own.Uid = 0 // that the user 0 owns it does not matter
				if got := holdsWritten(t, api.Cred{Uid: 6}, own); got.Bits != want {
					t.Errorf("%+v: %d; want %d", own, got.Bits, want)
				}
				for _, c := range []api.Cred{{}, {Gid: 2}} {
					if got := holdsWritten(t, c, a); got.Bits != bits {
						t.Errorf("%+v by %+v: %d; want %d", a, c, got.Bits, bits)
					}
				}
			}
		}
	}
}

// P13.2 to P13.4, R2: of several errors the one that the contract names first.
func TestOrderOfErrors(t *testing.T) {
	long := api.Cred{Uid: 6, Groups: make([]uint16, 5)}
	other, owner := api.Cred{Uid: 6, Gid: 1}, api.Cred{Uid: 5, Gid: 1}
	wrong := full()
	wrong.Bits = 8
	bad := wrongLists()[0]
	for _, x := range []struct {
		call func() (api.Attr, api.Errno)
		want api.Errno
	}{
		{func() (api.Attr, api.Errno) { return holdsChmod(t, long, full(), 1, 0) }, 622},
		{func() (api.Attr, api.Errno) { return holdsChmod(t, other, wrong, 1, 0) }, 622},
		{func() (api.Attr, api.Errno) { return holdsChmod(t, other, full(), 9, 65535) }, 601},
		{func() (api.Attr, api.Errno) { return holdsChown(t, long, full(), 1, 7, 7) }, 622},
		{func() (api.Attr, api.Errno) { return holdsChown(t, other, full(), 1, 7, 65536) }, 622},
		{func() (api.Attr, api.Errno) { return holdsChown(t, owner, full(), 1, 7, -2) }, 622},
		{func() (api.Attr, api.Errno) { return holdsChown(t, owner, full(), 1, 65536, 7) }, 622},
		{func() (api.Attr, api.Errno) { return holdsChown(t, owner, full(), 1, 7, 7) }, 601},
		{func() (api.Attr, api.Errno) { return holdsChown(t, owner, full(), 1, 7, -1) }, 601},
		{func() (api.Attr, api.Errno) { return holdsChown(t, owner, full(), 1, -1, 7) }, 601},
		{func() (api.Attr, api.Errno) { return holdsSetAcl(t, other, wrong, 1, 2, bad) }, 622},
		{func() (api.Attr, api.Errno) { return holdsSetAcl(t, other, full(), 1, 0, bad) }, 622},
		{func() (api.Attr, api.Errno) { return holdsSetAcl(t, other, full(), 1, 4, bad) }, 622},
		{func() (api.Attr, api.Errno) { return holdsSetAcl(t, other, full(), 2, 1, bad) }, 601},
		{func() (api.Attr, api.Errno) { return holdsSetAcl(t, other, full(), 1, 2, bad) }, 601},
		{func() (api.Attr, api.Errno) { return holdsSetAcl(t, owner, full(), 1, 2, bad) }, 613},
		{func() (api.Attr, api.Errno) { return holdsSetAcl(t, owner, full(), 3, 2, bad) }, 613},
		{func() (api.Attr, api.Errno) { return holdsSetAcl(t, owner, full(), 0, 3, bad) }, 613},
		{func() (api.Attr, api.Errno) { return holdsSetAcl(t, owner, full(), 2, 2, bad) }, 622},
		{func() (api.Attr, api.Errno) { return holdsSetAcl(t, owner, full(), 1, 1, bad) }, 622},
	} {
		if got, e := x.call(); e != x.want || !attr.Same(got, api.Attr{}) {
			t.Errorf("%+v, %v; want %v", got, e, x.want)
		}
	}
}

// results are what all calls that return attributes return of these, each in every way.
func results(c api.Cred, a api.Attr, l api.Acl) []api.Attr {
	var all []api.Attr
	for kind := range uint8(4) {
		mode, _ := Chmod(c, a, kind, 0640)
		own, _ := Chown(c, a, kind, -1, -1)
		access, _ := SetAcl(c, a, kind, api.AclAccess, l)
		all = append(all, mode, own, access)
	}
	def, _ := SetAcl(c, a, api.KindDir, api.AclDef, l)
	noDef, _ := SetAcl(c, a, api.KindDir, api.AclNoDef, l)
	return append(all, def, noDef, Written(c, a))
}

// lists are the lists of entries of attributes.
func lists(a api.Attr) [][]api.Named {
	return [][]api.Named{a.Access.Users, a.Access.Groups, a.Def.Users, a.Def.Groups}
}

// spoil overwrites all that the lists have, and the memory behind them.
func spoil(l []api.Named) {
	l = l[:cap(l)]
	for k := range l {
		l[k] = api.Named{Id: 77, Perm: 77}
	}
}

// spoilXattrs overwrites all that the list has, and the memory behind it.
func spoilXattrs(l []api.Xattr) {
	l = l[:cap(l)]
	for k := range l {
		l[k] = api.Xattr{Key: "?", Val: "?"}
	}
}

// roomy is an equal list with room behind it.
func roomy[E any](l []E) []E {
	return append(make([]E, 0, len(l)+3), l...)
}

// P13.2 to P13.5, R5: results share no memory with arguments.
func TestResultsAreNew(t *testing.T) {
	for _, c := range []api.Cred{{}, {Uid: 5, Gid: 1}} {
		a, l := full(), list()
		for _, p := range []*[]api.Named{&a.Access.Users, &a.Access.Groups, &a.Def.Users, &a.Def.Groups, &l.Users, &l.Groups} {
			*p = roomy(*p)
		}
		a.Xattrs = roomy(a.Xattrs)
		want := results(c, full(), list())
		got := results(c, a, l)
		for _, x := range append(lists(a), l.Users, l.Groups) {
			spoil(x)
		}
		spoilXattrs(a.Xattrs)
		for k := range want {
			if !attr.Same(got[k], want[k]) || attr.Check(got[k]) != 0 {
				t.Errorf("%+v: result %d was spoilt: %+v", c, k, got[k])
			}
		}
	}
}

// P13.1 to P13.5, R5: arguments are not modified, not even by who overwrites the results.
func TestArgumentsStay(t *testing.T) {
	for _, c := range []api.Cred{{}, {Uid: 5, Gid: 1}, {Uid: 5, Gid: 1, Groups: []uint16{9, 2}}, {Uid: 6}} {
		groups := slices.Clone(c.Groups)
		a, l := full(), list()
		Owns(c, a)
		Removes(c, a, a)
		for _, got := range results(c, a, l) {
			for _, x := range lists(got) {
				spoil(x)
			}
			spoilXattrs(got.Xattrs)
		}
		if !attr.Same(a, full()) || !acl.Same(l, list()) || !slices.Equal(c.Groups, groups) {
			t.Errorf("%+v, %+v, %+v", c, a, l)
		}
	}
}

// P13.2 to P13.5, R5: no two lists of a result share memory, also where those of the arguments do.
func TestListsOfTheirOwn(t *testing.T) {
	shared := []api.Named{{Id: 3, Perm: 6}, {Id: 7, Perm: 1}}
	a := full()
	a.Access.Users, a.Access.Groups, a.Def.Users, a.Def.Groups = shared, shared, shared, shared
	l := list()
	l.Users, l.Groups = shared, shared
	for k, got := range results(api.Cred{Uid: 5, Gid: 1}, a, l) {
		all := lists(got)
		for one := range all {
			before := slices.Clone(all[one])
			for other := range all {
				if other != one {
					spoil(all[other])
				}
			}
			if !slices.Equal(all[one], before) {
				t.Errorf("result %d: list %d shares memory", k, one)
			}
		}
	}
}

// P13.1 to P13.5, R4: a nil list and an empty one are equivalent.
func TestEmptyLists(t *testing.T) {
	bare := plain(06755)
	empty := bare
	empty.Access.Users, empty.Access.Groups = []api.Named{}, []api.Named{}
	empty.Def.Users, empty.Def.Groups = []api.Named{}, []api.Named{}
	empty.Xattrs = []api.Xattr{}
	for _, uid := range []uint16{0, 5, 6} {
		c, d := api.Cred{Uid: uid}, api.Cred{Uid: uid, Groups: []uint16{}}
		if Owns(c, bare) != Owns(d, empty) || Removes(c, bare, bare) != Removes(d, empty, empty) {
			t.Errorf("%d", uid)
		}
		x, y := results(c, bare, bare.Access), results(d, empty, empty.Access)
		for k := range x {
			if !attr.Same(x[k], y[k]) {
				t.Errorf("%d: result %d: %+v and %+v", uid, k, x[k], y[k])
			}
		}
	}
}

// P13.1 to P13.5: the label does not matter, and the same call returns the same twice.
func TestLabelMattersNot(t *testing.T) {
	n := noise(1)
	for range 3000 {
		c, a, l := drawnCred(n), drawnAttr(n), drawnAcl(n)
		d := c
		d.High = !c.High
		if Owns(c, a) != Owns(d, a) || Removes(c, a, a) != Removes(d, a, a) {
			t.Fatalf("%+v, %+v", c, a)
		}
		x, y := results(c, a, l), results(d, a, l)
		for k := range x {
			if !attr.Same(x[k], y[k]) {
				t.Fatalf("%+v, %+v: result %d: %+v and %+v", c, a, k, x[k], y[k])
			}
		}
	}
}

// P13.1 to P13.5: drawn processes and attributes, some of them wrong.
func TestDrawn(t *testing.T) {
	n := noise(2)
	for range 60000 {
		c, a, dir, l := drawnCred(n), drawnAttr(n), drawnAttr(n), drawnAcl(n)
		if n.IntN(20) == 0 {
			c.Groups = make([]uint16, n.IntN(8))
		}
		if n.IntN(20) == 0 {
			a.Bits += uint8(n.IntN(3))
			l.Mask += uint8(n.IntN(3))
		}
		kind := uint8(n.IntN(5))
		if got, want := Owns(c, a), modelValid(c, a) && modelOwns(c, a); got != want {
			t.Fatalf("Owns(%+v, %+v) = %v", c, a, got)
		}
		holdsRemoves(t, c, dir, a)
		holdsRemoves(t, c, a, dir)
		holdsChmod(t, c, a, kind, uint16(n.Uint32()))
		holdsChown(t, c, a, kind, drawnId(n), drawnId(n))
		holdsSetAcl(t, c, a, kind, uint8(n.IntN(5)), l)
		holdsWritten(t, c, a)
	}
}

// change is one drawn call, and what attributes have beside all that it may change.
func change(n *rand.Rand, c api.Cred, a api.Attr, kind uint8) (got api.Attr, e api.Errno, unnamed func(of api.Attr) api.Attr) {
	switch n.IntN(4) {
	case 0:
		got, e = Chmod(c, a, kind, uint16(n.Uint32()))
		return got, e, func(of api.Attr) api.Attr {
			of.Bits, of.Access.Owner, of.Access.Other = 0, 0, 0
			if of.Access.HasMask {
				of.Access.Mask = 0
			} else {
				of.Access.Group = 0
			}
			return of
		}
	case 1:
		got, e = Chown(c, a, kind, drawnId(n), drawnId(n))
		return got, e, func(of api.Attr) api.Attr {
			of.Uid, of.Gid = 0, 0
			of.Bits &= api.BitSticky
			return of
		}
	case 2:
		got, e = SetAcl(c, a, kind, api.AclAccess, drawnAcl(n))
		return got, e, func(of api.Attr) api.Attr {
			of.Access = api.Acl{}
			of.Bits &^= api.BitSgid
			return of
		}
	}
	got, e = SetAcl(c, a, kind, api.AclDef+uint8(n.IntN(2)), drawnAcl(n))
	return got, e, func(of api.Attr) api.Attr {
		of.HasDef, of.Def = false, api.Acl{}
		return of
	}
}

// P13.6: who does not own attributes changes nothing; what a call does not name is unchanged; valid attributes remain valid.
func TestLaws(t *testing.T) {
	n := noise(3)
	done := 0
	for range 60000 {
		c, a, kind := drawnCred(n), drawnAttr(n), uint8(1+n.IntN(3))
		got, e, unnamed := change(n, c, a, kind)
		if e != 0 {
			if !attr.Same(got, api.Attr{}) {
				t.Fatalf("%+v, %+v: %+v with %v", c, a, got, e)
			}
			continue
		}
		done++
		if !modelOwns(c, a) {
			t.Fatalf("%+v changed %+v", c, a)
		}
		if attr.Check(got) != 0 {
			t.Fatalf("%+v: %+v is not valid", c, got)
		}
		if !attr.Same(unnamed(got), unnamed(a)) {
			t.Fatalf("%+v: of %+v changed to %+v", c, a, got)
		}
		wrote := Written(c, a)
		if attr.Check(wrote) != 0 {
			t.Fatalf("%+v: %+v is not valid", c, wrote)
		}
		wrote.Bits |= a.Bits & 6
		if !attr.Same(wrote, a) {
			t.Fatalf("%+v: %+v was written to %+v", c, a, wrote)
		}
	}
	if done < 15000 {
		t.Errorf("only %d were changed", done)
	}
}

// P13.6: who is not the user 0 leaves no BitSuid on a file that it wrote, or gave away, nor BitSgid that anybody could use.
func TestNoSetBitsLeft(t *testing.T) {
	n := noise(4)
	given := 0
	for range 40000 {
		c, a := drawnCred(n), drawnAttr(n)
		if n.IntN(2) == 0 {
			a.Uid = c.Uid
		}
		if c.Uid == 0 {
			continue
		}
		l := []api.Attr{Written(c, a)}
		if got, e := Chown(c, a, api.KindFile, -1, drawnId(n)); e == 0 {
			l = append(l, got)
			given++
		}
		for _, got := range l {
			if got.Bits&4 != 0 || got.Bits&2 != 0 && classX(got.Access) {
				t.Fatalf("%+v, %+v: %d", c, a, got.Bits)
			}
		}
	}
	if given < 2000 {
		t.Errorf("only %d were given away", given)
	}
}

// The chapter's examples.
func TestExamples(t *testing.T) {
	a := plain(0644)
	six := a
	six.Uid = 6
	if got, e := Chmod(api.Cred{Uid: 5, Gid: 1}, six, api.KindFile, 0600); e != api.EPERM || !attr.Same(got, api.Attr{}) {
		t.Errorf("Chmod by another: %+v, %v", got, e)
	}
	if got, e := Chmod(api.Cred{Uid: 5, Gid: 1}, a, api.KindFile, 02755); e != api.OK || attr.Mode(got) != 0755 {
		t.Errorf("Chmod: %#o, %v", attr.Mode(got), e)
	}
	got, e := Chown(api.Cred{Uid: 5, Gid: 9, Groups: []uint16{1}}, plain(04711), api.KindFile, -1, 1)
	if e != api.OK || got.Gid != 1 || got.Uid != 5 || attr.Mode(got) != 0711 {
		t.Errorf("Chown: %+v, %v", got, e)
	}
	if Removes(api.Cred{Uid: 7}, plain(01777), six) {
		t.Error("Removes")
	}
}
