package grant

import (
	"math/rand/v2"
	"slices"
	"testing"

	"parclose/api"
	"parclose/attr"
)

// noise is a row of numbers that are the same in each run.
func noise(seed uint64) *rand.Rand {
	return rand.New(rand.NewPCG(seed, 12))
}

// isIn tells whether the process is in the group, as the definition tells it.
func isIn(c api.Cred, gid uint16) bool {
	if c.Gid == gid {
		return true
	}
	for _, g := range c.Groups {
		if g == gid {
			return true
		}
	}
	return false
}

// modelMay is what May is to return, told rule by rule as the chapter tells them.
func modelMay(c api.Cred, a api.Attr, dir bool, want uint8) bool {
	if len(c.Groups) > 4 || attr.Check(a) != 0 || want > 7 {
		return false
	}
	l := a.Access
	entries := []api.Named{{Id: a.Gid, Perm: l.Group}}
	for _, n := range l.Groups {
		entries = append(entries, n)
	}
	has := func(perm uint8) bool {
		for _, bit := range []uint8{1, 2, 4} {
			if want/bit%2 == 1 && perm/bit%2 == 0 {
				return false
			}
		}
		return true
	}
	masked := func(perm uint8) uint8 {
		if l.HasMask {
			return perm & l.Mask
		}
		return perm
	}
	if c.Uid == 0 {
		x := l.Owner%2 + l.Other%2
		for _, n := range entries {
			x += n.Perm % 2
		}
		for _, n := range l.Users {
			x += n.Perm % 2
		}
		return dir || want%2 == 0 || x > 0
	}
	if c.Uid == a.Uid {
		return has(l.Owner)
	}
	for _, n := range l.Users {
		if n.Id == c.Uid {
			return has(masked(n.Perm))
		}
	}
	member := false
	for _, n := range entries {
		if isIn(c, n.Id) {
			member = true
			if has(masked(n.Perm)) {
				return true
			}
		}
	}
	return !member && has(l.Other)
}

// modelMost is what Most is to return.
func modelMost(c api.Cred, a api.Attr, dir bool) uint8 {
	most := uint8(0)
	for _, bit := range []uint8{1, 2, 4} {
		if modelMay(c, a, dir, bit) {
			most += bit
		}
	}
	return most
}

// holds holds May (of everything that may be wanted, and of more) and Most to the contract.
func holds(t *testing.T, c api.Cred, a api.Attr, dir bool) {
	t.Helper()
	for _, want := range []uint8{0, 1, 2, 3, 4, 5, 6, 7, 8, 9, 15, 16, 128, 248, 255} {
		if got, should := May(c, a, dir, want), modelMay(c, a, dir, want); got != should {
			t.Fatalf("May(%+v, %+v, %v, %d) = %v; want %v", c, a, dir, want, got, should)
		}
	}
	if got, should := Most(c, a, dir), modelMost(c, a, dir); got != should {
		t.Fatalf("Most(%+v, %+v, %v) = %d; want %d", c, a, dir, got, should)
	}
}

// grantsOnly holds that exactly the subsets of the perms are granted, of a directory and of none.
func grantsOnly(t *testing.T, c api.Cred, a api.Attr, perms ...uint8) {
	t.Helper()
	for _, dir := range []bool{false, true} {
		union := uint8(0)
		for want := range uint8(8) {
			should := false
			for _, p := range perms {
				should = should || p|want == p
				union |= p
			}
			if got := May(c, a, dir, want); got != should {
				t.Errorf("May(%+v, %+v, %v, %d) = %v; want %v", c, a, dir, want, got, should)
			}
		}
		if got := Most(c, a, dir); got != union {
			t.Errorf("Most(%+v, %+v, %v) = %d; want %d", c, a, dir, got, union)
		}
	}
}

// attrs are valid attributes of user 1 and group 10 with these three classes and no mask.
func attrs(owner, group, other uint8) api.Attr {
	return api.Attr{Uid: 1, Gid: 10, Access: api.Acl{Owner: owner, Group: group, Other: other}}
}

// withMask is the attributes with a mask, and these entries.
func withMask(a api.Attr, mask uint8, users, groups []api.Named) api.Attr {
	a.Access.HasMask, a.Access.Mask = true, mask
	a.Access.Users, a.Access.Groups = users, groups
	return a
}

// drawnCred is a process of few users and groups, so that it is often one that the attributes name.
func drawnCred(n *rand.Rand) api.Cred {
	c := api.Cred{Uid: uint16(n.IntN(6)), Gid: uint16(n.IntN(6)), High: n.IntN(2) == 0}
	for range n.IntN(5) {
		c.Groups = append(c.Groups, uint16(n.IntN(6)))
	}
	return c
}

// drawnNamed are entries in ascending order of ids.
func drawnNamed(n *rand.Rand) []api.Named {
	var l []api.Named
	for id := range uint16(6) {
		if n.IntN(3) == 0 && len(l) < 4 {
			l = append(l, api.Named{Id: id, Perm: uint8(n.IntN(8))})
		}
	}
	return l
}

// drawnAttr are valid attributes.
func drawnAttr(n *rand.Rand) api.Attr {
	a := attrs(uint8(n.IntN(8)), uint8(n.IntN(8)), uint8(n.IntN(8)))
	a.Uid, a.Gid, a.Bits = uint16(n.IntN(6)), uint16(n.IntN(6)), uint8(n.IntN(8))
	if n.IntN(3) > 0 {
		a = withMask(a, uint8(n.IntN(8)), drawnNamed(n), drawnNamed(n))
	}
	if n.IntN(4) == 0 {
		a.HasDef = true
		a.Def = api.Acl{Owner: 7, Group: 7, Other: 7, HasMask: true, Mask: 7, Users: drawnNamed(n), Groups: drawnNamed(n)}
	}
	if n.IntN(4) == 0 {
		a.Xattrs = []api.Xattr{{Key: "a", Val: "1"}}
	}
	return a
}

// P12.1: a process has at most four groups more.
func TestCheck(t *testing.T) {
	if e := Check(api.Cred{}); e != 0 {
		t.Errorf("of none: %v", e)
	}
	if e := Check(api.Cred{Groups: []uint16{}}); e != 0 {
		t.Errorf("of an empty list: %v", e)
	}
	for count := range 12 {
		want := api.Errno(0)
		if count > 4 {
			want = 622
		}
		for _, gid := range []uint16{0, 7, 65535} {
			c := api.Cred{Uid: 65535, Gid: gid, Groups: slices.Repeat([]uint16{gid}, count), High: count%2 == 0}
			if e := Check(c); e != want {
				t.Errorf("of %d: %v; want %v", count, e, want)
			}
		}
	}
	if e := Check(api.Cred{Groups: make([]uint16, 100000)}); e != 622 {
		t.Errorf("of 100000: %v", e)
	}
}

// P12.1: a process is in its Gid, and in each of Groups; its Uid is no group.
func TestIn(t *testing.T) {
	c := api.Cred{Uid: 9, Gid: 5, Groups: []uint16{65535, 3, 3, 0}}
	for gid := range uint16(65535) {
		want := gid == 5 || gid == 3 || gid == 0
		if In(c, gid) != want {
			t.Errorf("In(%v, %d) = %v", c, gid, !want)
		}
	}
	if !In(c, 65535) {
		t.Error("not in the last one")
	}
	if none := (api.Cred{Uid: 4}); !In(none, 0) || In(none, 4) {
		t.Error("of a process without groups")
	}
	// The contract does not ask that the process be valid here.
	if many := (api.Cred{Groups: []uint16{1, 2, 3, 4, 5, 6}}); !In(many, 1) || !In(many, 6) || In(many, 7) {
		t.Error("of a process with too many groups")
	}
}

// P12.2, P12.3, rule 1: user 0 is granted everything of a directory, even where no list has it.
func TestUserZeroOfDirectory(t *testing.T) {
	for _, a := range []api.Attr{attrs(0, 0, 0), withMask(attrs(0, 0, 0), 0, nil, nil), {}} {
		if got := Most(api.Cred{}, a, true); got != 7 {
			t.Errorf("%+v: %d", a, got)
		}
		for want := range uint8(8) {
			if !May(api.Cred{}, a, true, want) {
				t.Errorf("%+v: not %d", a, want)
			}
		}
	}
}

// P12.2, P12.3, rule 1: to run what is no directory, user 0 needs that somebody has the perm, whatever the mask is.
func TestUserZeroRuns(t *testing.T) {
	one := func(id uint16) []api.Named { return []api.Named{{Id: id, Perm: 1}} }
	two := []api.Named{{Id: 3, Perm: 6}, {Id: 4, Perm: 7}}
	c := api.Cred{Gid: 99}
	for k, a := range []api.Attr{
		attrs(1, 0, 0), attrs(0, 1, 0), attrs(0, 0, 1), attrs(7, 6, 6), attrs(6, 7, 6), attrs(6, 6, 3),
		withMask(attrs(0, 0, 0), 0, one(5), nil), withMask(attrs(0, 0, 0), 0, nil, one(5)),
		withMask(attrs(0, 1, 0), 0, nil, nil), withMask(attrs(6, 6, 6), 6, two, nil),
		withMask(attrs(6, 6, 6), 6, nil, two), withMask(attrs(0, 0, 0), 0, one(0), nil),
	} {
		if attr.Check(a) != api.OK {
			t.Fatalf("%d: not valid", k)
		}
		grantsOnly(t, c, a, 7)
	}
	without := []api.Named{{Id: 3, Perm: 6}, {Id: 4, Perm: 6}}
	for k, a := range []api.Attr{attrs(6, 6, 6), attrs(0, 0, 0), withMask(attrs(6, 6, 6), 7, without, without)} {
		for want := range uint8(8) {
			if got := May(c, a, false, want); got != (want%2 == 0) {
				t.Errorf("%d: May of %d: %v", k, want, got)
			}
		}
		if got := Most(c, a, false); got != 6 {
			t.Errorf("%d: Most = %d", k, got)
		}
	}
}

// P12.2, rule 1: that the user 0 owns it, is named, or is in its group, takes nothing from it.
func TestUserZeroAheadOfAll(t *testing.T) {
	a := withMask(attrs(0, 0, 0), 0, []api.Named{{Id: 0}}, []api.Named{{Id: 3, Perm: 1}})
	a.Uid = 0
	grantsOnly(t, api.Cred{Gid: 10, Groups: []uint16{3}}, a, 7)
}

// P12.2, P12.3, rule 2: the owner is granted what Owner has, unmasked, and no more than that.
func TestOwner(t *testing.T) {
	c := api.Cred{Uid: 1, Gid: 10, Groups: []uint16{3}}
	every := []api.Named{{Id: 1, Perm: 7}, {Id: 3, Perm: 7}}
	for perm := range uint8(8) {
		grantsOnly(t, c, attrs(perm, 7, 7), perm)
		grantsOnly(t, c, attrs(perm, 0, 0), perm)
		grantsOnly(t, c, withMask(attrs(perm, 7, 7), 7, every, every), perm)
		grantsOnly(t, c, withMask(attrs(perm, 0, 0), 0, nil, nil), perm)
	}
}

// P12.2, P12.3, rule 3: a named user is granted what the entry has, masked, whatever its groups have.
func TestNamedUser(t *testing.T) {
	groups := []api.Named{{Id: 2, Perm: 7}, {Id: 3, Perm: 7}}
	for perm := range uint8(8) {
		for mask := range uint8(8) {
			users := []api.Named{{Id: 1, Perm: 7}, {Id: 2, Perm: perm}, {Id: 3, Perm: 7}}
			a := withMask(attrs(7, 7, 7), mask, users, groups)
			grantsOnly(t, api.Cred{Uid: 2, Gid: 10, Groups: []uint16{3}}, a, perm&mask)
			grantsOnly(t, api.Cred{Uid: 2, Gid: 99}, a, perm&mask)
		}
	}
}

// P12.2, P12.3, rule 4: members of the group are granted what Group has, masked if there is a mask, and not what Other has.
func TestOwnGroup(t *testing.T) {
	for perm := range uint8(8) {
		for _, c := range []api.Cred{{Uid: 5, Gid: 10}, {Uid: 5, Gid: 3, Groups: []uint16{4, 10}}} {
			grantsOnly(t, c, attrs(7, perm, 7), perm)
			for mask := range uint8(8) {
				grantsOnly(t, c, withMask(attrs(7, perm, 7), mask, nil, nil), perm&mask)
			}
		}
	}
}

// P12.2, P12.3, rule 4: members of named groups are granted what one of the entries has by itself; what several have together, Most has.
func TestNamedGroups(t *testing.T) {
	groups := []api.Named{{Id: 3, Perm: 2}, {Id: 4, Perm: 1}, {Id: 10, Perm: 6}, {Id: 65535, Perm: 0}}
	a := withMask(attrs(7, 4, 7), 7, nil, groups)
	masked := withMask(attrs(7, 4, 7), 5, nil, groups)
	for _, x := range []struct {
		gids          []uint16
		perms, narrow []uint8
	}{
		{[]uint16{3}, []uint8{2}, []uint8{0}},
		{[]uint16{4}, []uint8{1}, []uint8{1}},
		{[]uint16{10}, []uint8{4, 6}, []uint8{4}}, // the group of the attributes may be named once more
		{[]uint16{65535}, []uint8{0}, []uint8{0}},
		{[]uint16{3, 4}, []uint8{2, 1}, []uint8{1}},
		{[]uint16{4, 3}, []uint8{2, 1}, []uint8{1}},
		{[]uint16{10, 4}, []uint8{4, 6, 1}, []uint8{4, 1}},
		{[]uint16{65535, 99}, []uint8{0}, []uint8{0}},
		{[]uint16{99, 98, 97, 96, 3}, []uint8{2}, []uint8{0}},
	} {
		c := api.Cred{Uid: 5, Gid: x.gids[0], Groups: x.gids[1:]}
		grantsOnly(t, c, a, x.perms...)
		grantsOnly(t, c, masked, x.narrow...)
	}
	// An id of Users is no group, and one of Groups no user.
	users := withMask(attrs(0, 0, 4), 7, []api.Named{{Id: 3, Perm: 7}}, []api.Named{{Id: 5, Perm: 7}})
	grantsOnly(t, api.Cred{Uid: 5, Gid: 3}, users, 4)
}

// P12.2, P12.3, rule 5: all others are granted what Other has, unmasked.
func TestOther(t *testing.T) {
	c := api.Cred{Uid: 5, Gid: 99, Groups: []uint16{1, 0, 98}}
	for perm := range uint8(8) {
		grantsOnly(t, c, attrs(7, 7, perm), perm)
		grantsOnly(t, c, attrs(0, 0, perm), perm)
		grantsOnly(t, c, withMask(attrs(7, 7, perm), 0, []api.Named{{Id: 3, Perm: 7}}, []api.Named{{Id: 3, Perm: 7}}), perm)
	}
}

// P12.2: whoever the process is, nothing is wanted of everything that is valid; more than the three bits nobody has.
func TestWanted(t *testing.T) {
	for _, c := range []api.Cred{{}, {Uid: 1}, {Uid: 5, Gid: 10}, {Uid: 5, Gid: 99}} {
		if !May(c, attrs(0, 0, 0), false, 0) {
			t.Errorf("%v is not granted nothing", c)
		}
		for want := 8; want < 256; want++ {
			if May(c, attrs(7, 7, 7), true, uint8(want)) {
				t.Errorf("%v is granted %d", c, want)
			}
		}
	}
}

// P12.2, P12.3: of a process, or of attributes, that are not valid, nothing is granted, not even nothing.
func TestNotValid(t *testing.T) {
	good := attrs(7, 7, 7)
	long := api.Cred{Groups: make([]uint16, 5)}
	for _, uid := range []uint16{0, 1, 5} {
		long.Uid = uid
		for _, dir := range []bool{false, true} {
			for want := range uint8(8) {
				if May(long, good, dir, want) {
					t.Errorf("five groups are granted %d", want)
				}
			}
			if got := Most(long, good, dir); got != 0 {
				t.Errorf("five groups: %d", got)
			}
		}
	}
	for k, a := range wrongAttrs() {
		for _, uid := range []uint16{0, 1, 3, 5} {
			c := api.Cred{Uid: uid, Gid: 10}
			for want := range uint8(8) {
				if May(c, a, true, want) {
					t.Errorf("wrong attributes %d: user %d is granted %d", k, uid, want)
				}
			}
			if got := Most(c, a, true); got != 0 {
				t.Errorf("wrong attributes %d: user %d: %d", k, uid, got)
			}
		}
	}
}

// wrongAttrs are attributes none of which are valid.
func wrongAttrs() []api.Attr {
	rows := make([]api.Attr, 9)
	for k := range rows {
		rows[k] = attrs(7, 7, 7)
	}
	rows[0].Bits = 8
	rows[1].Access.Owner = 8
	rows[2].Access.Mask = 7
	rows[3].Access.Users = []api.Named{{Id: 3, Perm: 7}}
	rows[4] = withMask(rows[4], 7, []api.Named{{Id: 3, Perm: 7}, {Id: 3, Perm: 7}}, nil)
	rows[5] = withMask(rows[5], 7, nil, []api.Named{{Id: 1}, {Id: 2}, {Id: 3}, {Id: 4}, {Id: 5}})
	rows[6].Def.Other = 1
	rows[7].Xattrs = []api.Xattr{{Key: ""}}
	rows[8] = withMask(rows[8], 8, nil, nil)
	return rows
}

// P12.2: what a directory's new inodes have (Def), bits, values by keys and the label do not matter.
func TestMattersNot(t *testing.T) {
	n := noise(1)
	for range 5000 {
		a, c, dir := drawnAttr(n), drawnCred(n), n.IntN(2) == 0
		plain := api.Attr{Uid: a.Uid, Gid: a.Gid, Access: a.Access}
		other := c
		other.High = !c.High
		for want := range uint8(8) {
			if got := May(c, a, dir, want); got != May(c, plain, dir, want) || got != May(other, a, dir, want) {
				t.Fatalf("%+v, %+v, %v, %d", c, a, dir, want)
			}
		}
	}
}

// P12.2, P12.3: drawn processes and attributes, each rule of which applies to some.
func TestDrawn(t *testing.T) {
	n := noise(2)
	for range 60000 {
		c, a := drawnCred(n), drawnAttr(n)
		if n.IntN(20) == 0 {
			c.Groups = make([]uint16, n.IntN(8))
		}
		if n.IntN(20) == 0 {
			a.Access.Users = append(a.Access.Users, api.Named{Id: uint16(n.IntN(6)), Perm: uint8(n.IntN(10))})
		}
		holds(t, c, a, n.IntN(2) == 0)
	}
}

// P12.4: whoever is granted something is granted every subset of it.
func TestSubsets(t *testing.T) {
	n := noise(3)
	for range 20000 {
		c, a, dir := drawnCred(n), drawnAttr(n), n.IntN(2) == 0
		most := Most(c, a, dir)
		for want := range uint8(8) {
			if !May(c, a, dir, want) {
				continue
			}
			if want&^most != 0 {
				t.Fatalf("%+v, %+v, %v: granted %d, at most %d", c, a, dir, want, most)
			}
			for part := range uint8(8) {
				if part&^want == 0 && !May(c, a, dir, part) {
					t.Fatalf("%+v, %+v, %v: granted %d, but not %d", c, a, dir, want, part)
				}
			}
		}
	}
}

// P12.4: only the user 0, the owner, and who belongs to no group and no name of the list, have more than the group class.
func TestGroupClass(t *testing.T) {
	n := noise(4)
	within := 0
	for range 20000 {
		c, a, dir := drawnCred(n), drawnAttr(n), n.IntN(2) == 0
		belongs := isIn(c, a.Gid)
		for _, x := range a.Access.Users {
			belongs = belongs || x.Id == c.Uid
		}
		for _, x := range a.Access.Groups {
			belongs = belongs || isIn(c, x.Id)
		}
		if c.Uid == 0 || c.Uid == a.Uid || !belongs {
			continue
		}
		within++
		class := uint8(attr.Mode(a) >> 3 & 7)
		if most := Most(c, a, dir); most&^class != 0 {
			t.Fatalf("%+v, %+v: %d, the group class is %d", c, a, most, class)
		}
	}
	if within < 5000 {
		t.Errorf("only %d belong to it", within)
	}
}

// P12.4: the order of Groups, and repetitions, do not matter.
func TestOrderOfGroups(t *testing.T) {
	n := noise(5)
	for range 20000 {
		c, a, dir := drawnCred(n), drawnAttr(n), n.IntN(2) == 0
		other := c
		other.Groups = slices.Clone(c.Groups)
		if k := len(other.Groups); k > 0 && k < 4 {
			other.Groups = append(other.Groups, other.Groups[n.IntN(k)])
		}
		n.Shuffle(len(other.Groups), func(i, j int) {
			other.Groups[i], other.Groups[j] = other.Groups[j], other.Groups[i]
		})
		for want := range uint8(8) {
			if May(c, a, dir, want) != May(other, a, dir, want) {
				t.Fatalf("%+v, %+v, %+v, %d", c, other, a, want)
			}
		}
		if Most(c, a, dir) != Most(other, a, dir) {
			t.Fatalf("%+v, %+v, %+v", c, other, a)
		}
	}
}

// P12.1 to P12.3, R5: arguments are not modified, nor is the memory behind their lists.
func TestArgumentsStay(t *testing.T) {
	groups := []uint16{3, 4, 9, 9}
	users := []api.Named{{Id: 3, Perm: 2}, {Id: 9, Perm: 9}}
	named := []api.Named{{Id: 3, Perm: 2}, {Id: 4, Perm: 1}, {Id: 9, Perm: 9}}
	for _, uid := range []uint16{0, 1, 3, 5} {
		c := api.Cred{Uid: uid, Gid: 10, Groups: groups[:2]}
		a := withMask(attrs(7, 4, 7), 5, users[:1], named[:2])
		Check(c)
		In(c, 5)
		May(c, a, false, 5)
		Most(c, a, true)
		if !slices.Equal(groups, []uint16{3, 4, 9, 9}) || !slices.Equal(users, []api.Named{{Id: 3, Perm: 2}, {Id: 9, Perm: 9}}) ||
			!slices.Equal(named, []api.Named{{Id: 3, Perm: 2}, {Id: 4, Perm: 1}, {Id: 9, Perm: 9}}) {
			t.Fatalf("user %d: %v, %v, %v", uid, groups, users, named)
		}
	}
}

// P12.2, P12.3, R4: a nil list and an empty one are equivalent.
func TestEmptyLists(t *testing.T) {
	for _, uid := range []uint16{0, 1, 5} {
		for _, gid := range []uint16{10, 99} {
			holds(t, api.Cred{Uid: uid, Gid: gid, Groups: []uint16{}}, withMask(attrs(4, 6, 1), 5, []api.Named{}, []api.Named{}), false)
			holds(t, api.Cred{Uid: uid, Gid: gid}, withMask(attrs(4, 6, 1), 5, nil, nil), false)
			holds(t, api.Cred{Uid: uid, Gid: gid, Groups: []uint16{}}, attrs(4, 6, 1), false)
		}
	}
}

// The chapter's examples.
func TestExamples(t *testing.T) {
	a := withMask(attrs(6, 4, 0), 4, []api.Named{{Id: 2, Perm: 7}}, []api.Named{{Id: 20, Perm: 4}})
	for _, x := range []struct {
		uid, gid uint16
		most     uint8
	}{{1, 99, 6}, {2, 99, 4}, {3, 10, 4}, {3, 20, 4}, {3, 99, 0}, {0, 99, 7}} {
		if got := Most(api.Cred{Uid: x.uid, Gid: x.gid}, a, false); got != x.most {
			t.Errorf("%d of group %d: %d; want %d", x.uid, x.gid, got, x.most)
		}
	}
}
