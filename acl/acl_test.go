package acl

import (
	"math/rand/v2"
	"slices"
	"testing"

	"parclose/api"
)

// noise is a row of numbers that are the same in each run.
func noise(seed uint64) *rand.Rand {
	return rand.New(rand.NewPCG(seed, 9))
}

// names are entries of these users, or groups; each one's perm is 6.
func names(ids ...uint16) []api.Named {
	var l []api.Named
	for _, id := range ids {
		l = append(l, api.Named{Id: id, Perm: 6})
	}
	return l
}

// orderly tells whether the entries may stand in a list, as the chapter's definition tells it.
func orderly(l []api.Named) bool {
	for i, x := range l {
		if x.Perm > 7 {
			return false
		}
		for _, y := range l[i+1:] {
			if y.Id <= x.Id {
				return false
			}
		}
	}
	return len(l) <= 4
}

// errorOf is what Check is to return, as the chapter's definition tells it.
func errorOf(a api.Acl) api.Errno {
	for _, n := range []uint8{a.Owner, a.Group, a.Other, a.Mask} {
		if n > 7 {
			return 622
		}
	}
	if !orderly(a.Users) || !orderly(a.Groups) {
		return 622
	}
	if !a.HasMask && (a.Mask != 0 || len(a.Users) != 0 || len(a.Groups) != 0) {
		return 622
	}
	return 0
}

// bitsOf is what Bits is to return, as the chapter's definition tells it.
func bitsOf(a api.Acl) uint16 {
	class := a.Group
	if a.HasMask {
		class = a.Mask
	}
	return 64*uint16(a.Owner%8) + 8*uint16(class%8) + uint16(a.Other%8)
}

// chmod is what Chmod is to return, as the contract tells it; its lists are those of a.
func chmod(a api.Acl, bits uint16) api.Acl {
	bits %= 512
	a.Owner = uint8(bits / 64)
	if a.HasMask {
		a.Mask = uint8(bits / 8 % 8)
	} else {
		a.Group = uint8(bits / 8 % 8)
	}
	a.Other = uint8(bits % 8)
	return a
}

// equal tells whether the lists are the same, number by number and entry by entry; one without entries is like none.
func equal(a, b api.Acl) bool {
	if len(a.Users) != len(b.Users) || len(a.Groups) != len(b.Groups) {
		return false
	}
	for k := range a.Users {
		if a.Users[k].Id != b.Users[k].Id || a.Users[k].Perm != b.Users[k].Perm {
			return false
		}
	}
	for k := range a.Groups {
		if a.Groups[k].Id != b.Groups[k].Id || a.Groups[k].Perm != b.Groups[k].Perm {
			return false
		}
	}
	return a.Owner == b.Owner && a.Group == b.Group && a.Other == b.Other && a.HasMask == b.HasMask && a.Mask == b.Mask
}

// validEntries are entries that may stand in a list.
func validEntries(n *rand.Rand) []api.Named {
	var l []api.Named
	id := uint16(n.IntN(3))
	for range n.IntN(5) {
		l = append(l, api.Named{Id: id, Perm: uint8(n.IntN(8))})
		id += uint16(1 + n.IntN(1<<uint(n.IntN(14))))
	}
	return l
}

// validList is a list that is valid.
func validList(n *rand.Rand) api.Acl {
	a := api.Acl{Owner: uint8(n.IntN(8)), Group: uint8(n.IntN(8)), Other: uint8(n.IntN(8)), HasMask: n.IntN(4) > 0}
	if a.HasMask {
		a.Mask = uint8(n.IntN(8))
		a.Users, a.Groups = validEntries(n), validEntries(n)
	}
	return a
}

// anyEntries are entries of any kind: few, with ids that are often the same.
func anyEntries(n *rand.Rand) []api.Named {
	l := make([]api.Named, n.IntN(7))
	for k := range l {
		l[k] = api.Named{Id: uint16(n.IntN(8)), Perm: uint8(n.IntN(256))}
	}
	return l
}

// anyList is a list of any numbers, and of any entries.
func anyList(n *rand.Rand) api.Acl {
	return api.Acl{
		Owner: uint8(n.IntN(256)), Group: uint8(n.IntN(256)), Other: uint8(n.IntN(256)), Mask: uint8(n.IntN(256)),
		HasMask: n.IntN(2) > 0, Users: anyEntries(n), Groups: anyEntries(n),
	}
}

// lists are many, valid ones and any others.
func lists(seed uint64) []api.Acl {
	n := noise(seed)
	l := []api.Acl{{}, {HasMask: true}}
	for range 300 {
		l = append(l, validList(n), anyList(n))
	}
	return l
}

// full is a valid list that has as much as one may have.
func full() api.Acl {
	return api.Acl{
		Owner: 7, Group: 7, Other: 7, HasMask: true, Mask: 7,
		Users:  []api.Named{{Id: 0, Perm: 7}, {Id: 1, Perm: 0}, {Id: 5, Perm: 3}, {Id: 65535, Perm: 7}},
		Groups: []api.Named{{Id: 0, Perm: 7}, {Id: 5, Perm: 1}, {Id: 6, Perm: 2}, {Id: 65535, Perm: 7}},
	}
}

// numbers are the list's numbers that stand beside its entries.
func numbers(a *api.Acl) []*uint8 {
	return []*uint8{&a.Owner, &a.Group, &a.Other, &a.Mask}
}

// checks holds that Check returns what the definition tells, and turns nothing.
func checks(t *testing.T, a api.Acl) {
	t.Helper()
	was := api.Acl{Owner: a.Owner, Group: a.Group, Other: a.Other, HasMask: a.HasMask, Mask: a.Mask}
	was.Users, was.Groups = append(was.Users, a.Users...), append(was.Groups, a.Groups...)
	if got, want := Check(a), errorOf(a); got != want {
		t.Fatalf("Check(%+v) = %v; want %v", a, got, want)
	}
	if !equal(a, was) {
		t.Fatalf("Check turned %+v to %+v", was, a)
	}
}

// P9.1: each number may be from 0 to 7, with a mask or without one.
func TestCheckOfNumbers(t *testing.T) {
	for v := range 256 {
		for k := range numbers(&api.Acl{}) {
			for _, a := range []api.Acl{{}, {HasMask: true}, full(), {Owner: 7, Group: 7, Other: 7}} {
				*numbers(&a)[k] = uint8(v)
				checks(t, a)
			}
		}
	}
}

// P9.1: so may each perm of each entry, among users and among groups.
func TestCheckOfPerms(t *testing.T) {
	for v := range 256 {
		for k := range 4 {
			a, b := full(), full()
			a.Users[k].Perm, b.Groups[k].Perm = uint8(v), uint8(v)
			checks(t, a)
			checks(t, b)
		}
	}
}

// P9.1: the ids of users ascend, and so do those of groups, each by itself; no more than 4 of each are named.
func TestCheckOfIds(t *testing.T) {
	all := [][]uint16{nil}
	for from := 0; len(all[from]) < 5; from++ {
		for _, id := range []uint16{0, 1, 2, 256, 65534, 65535} {
			all = append(all, append(slices.Clone(all[from]), id))
		}
	}
	for _, ids := range all {
		l := names(ids...)
		checks(t, api.Acl{HasMask: true, Users: l})
		checks(t, api.Acl{HasMask: true, Groups: l})
		checks(t, api.Acl{HasMask: true, Users: l, Groups: l})
		checks(t, api.Acl{HasMask: true, Users: l, Groups: names(3, 4, 5, 6)})
		checks(t, api.Acl{HasMask: true, Users: names(3, 4, 5, 6), Groups: l})
	}
}

// P9.1: how many users, and groups, may be named.
func TestCheckOfCounts(t *testing.T) {
	var ids []uint16
	for count := range 300 {
		l := names(ids...)
		checks(t, api.Acl{HasMask: true, Users: l})
		checks(t, api.Acl{HasMask: true, Groups: l})
		checks(t, api.Acl{Users: l})
		checks(t, api.Acl{Groups: l})
		ids = append(ids, uint16(200*count))
	}
	huge := make([]api.Named, 1<<20)
	for _, a := range []api.Acl{{HasMask: true, Users: huge}, {HasMask: true, Groups: huge}, {Users: huge}, {Groups: huge}} {
		if e := Check(a); e != api.EINVAL {
			t.Errorf("Check of %d entries = %v", len(huge), e)
		}
	}
}

// P9.1: what a list may have depends on whether there is a mask; it may be there without anything.
func TestCheckOfMasks(t *testing.T) {
	none := []api.Named{}
	for _, c := range []struct {
		a    api.Acl
		want api.Errno
	}{
		{api.Acl{}, 0},
		{api.Acl{Users: none, Groups: none}, 0},
		{api.Acl{HasMask: true}, 0},
		{api.Acl{HasMask: true, Users: none, Groups: none}, 0},
		{api.Acl{HasMask: true, Mask: 7}, 0},
		{api.Acl{HasMask: true, Mask: 8}, 622},
		{api.Acl{Mask: 1}, 622},
		{api.Acl{Mask: 7}, 622},
		{api.Acl{Users: names(5)}, 622},
		{api.Acl{Groups: names(5)}, 622},
		{api.Acl{HasMask: true, Users: names(5)}, 0},
		{api.Acl{HasMask: true, Groups: names(5)}, 0},
		{api.Acl{HasMask: true, Users: names(5), Groups: names(5)}, 0},
		{api.Acl{HasMask: true, Users: names(7), Groups: names(5)}, 0},
		{api.Acl{HasMask: true, Users: names(5, 7), Groups: names(7, 5)}, 622},
		{api.Acl{HasMask: true, Users: names(7, 5), Groups: names(5, 7)}, 622},
		{full(), 0},
	} {
		if got := Check(c.a); got != c.want {
			t.Errorf("Check(%+v) = %v; want %v", c.a, got, c.want)
		}
	}
}

// P9.1: lists of any kind are told as the definition tells them, and both answers are common.
func TestCheckOfNoise(t *testing.T) {
	n := noise(1)
	valid := 0
	for range 20000 {
		a := validList(n)
		checks(t, a)
		b := anyList(n)
		checks(t, b)
		// One thing of a valid list that may be wrong by itself.
		switch n.IntN(4) {
		case 0:
			a.HasMask = !a.HasMask
		case 1:
			*numbers(&a)[n.IntN(4)] = uint8(n.IntN(16))
		case 2:
			a.Users = anyEntries(n)
		case 3:
			a.Groups = anyEntries(n)
		}
		checks(t, a)
		if Check(a) == api.OK {
			valid++
		}
	}
	if valid < 1000 || valid > 19000 {
		t.Errorf("%d of 20000 lists are valid", valid)
	}
}

// others are lists that differ from a in one thing each.
func others(a api.Acl) []api.Acl {
	var l []api.Acl
	for k := range numbers(&a) {
		for _, by := range []uint8{1, 8, 128} {
			b := a
			*numbers(&b)[k] += by
			l = append(l, b)
		}
	}
	b := a
	b.HasMask = !a.HasMask
	l = append(l, b)
	for k := range a.Users {
		l = append(l, entryTurned(a, k, api.Named{Id: 1}), entryTurned(a, k, api.Named{Id: 256}), entryTurned(a, k, api.Named{Perm: 1}))
		b := a
		b.Users = slices.Delete(slices.Clone(a.Users), k, k+1)
		l = append(l, b)
	}
	b = a
	b.Users = append(slices.Clone(a.Users), api.Named{})
	return append(l, b)
}

// entryTurned is the list, with more in the id and the perm of one of its users.
func entryTurned(a api.Acl, k int, by api.Named) api.Acl {
	a.Users = slices.Clone(a.Users)
	a.Users[k].Id += by.Id
	a.Users[k].Perm += by.Perm
	return a
}

// swapped is the list, with the users as groups, and the groups as users.
func swapped(a api.Acl) api.Acl {
	a.Users, a.Groups = a.Groups, a.Users
	return a
}

// P9.1: Same tells any one difference, in each number and in each entry, of users and of groups; of lists that are valid, and of others.
func TestSameOfOthers(t *testing.T) {
	for _, a := range append(lists(2), full()) {
		for _, b := range others(a) {
			for _, c := range [][2]api.Acl{{a, b}, {b, a}, {swapped(a), swapped(b)}, {swapped(b), swapped(a)}} {
				if Same(c[0], c[1]) {
					t.Fatalf("Same(%+v, %+v)", c[0], c[1])
				}
			}
		}
	}
}

// P9.1: Same of equal ones, that stand elsewhere; none and an empty list are equivalent.
func TestSameOfEqual(t *testing.T) {
	for _, a := range lists(3) {
		b := a
		b.Users, b.Groups = make([]api.Named, len(a.Users), 20), make([]api.Named, len(a.Groups), 20)
		copy(b.Users, a.Users)
		copy(b.Groups, a.Groups)
		if !Same(a, b) || !Same(b, a) || !Same(a, a) {
			t.Fatalf("not Same(%+v, %+v)", a, b)
		}
	}
	none := api.Acl{Users: []api.Named{}, Groups: []api.Named{}}
	if !Same(api.Acl{}, none) || !Same(none, api.Acl{}) {
		t.Error("a list of none is not like none")
	}
}

// P9.1: Same of entries that stand elsewhere: in another order, or among the groups.
func TestSameOfOrder(t *testing.T) {
	for _, c := range [][2]api.Acl{
		{{HasMask: true, Users: names(5, 6)}, {HasMask: true, Users: names(6, 5)}},
		{{HasMask: true, Groups: names(5, 6)}, {HasMask: true, Groups: names(6, 5)}},
		{{HasMask: true, Users: names(5)}, {HasMask: true, Groups: names(5)}},
		{{HasMask: true, Users: names(5)}, {HasMask: true, Users: names(5, 5)}},
		{{HasMask: true, Users: names(5), Groups: names(6)}, {HasMask: true, Users: names(6), Groups: names(5)}},
		{{Owner: 7}, {Group: 7}}, {{Group: 7}, {Mask: 7}}, {{Other: 7}, {Owner: 7}},
	} {
		if Same(c[0], c[1]) || Same(c[1], c[0]) {
			t.Errorf("Same(%+v, %+v)", c[0], c[1])
		}
	}
}

// spoil turns all entries, also those that could be put behind them.
func spoil(l []api.Named) {
	l = l[:cap(l)]
	for k := range l {
		l[k] = api.Named{Id: 54321, Perm: 99}
	}
}

// owned holds that the result is the wanted one, that making it turned nothing of a, and that it shares nothing with a, nor its lists with each other.
func owned(t *testing.T, a api.Acl, of func(api.Acl) api.Acl, want api.Acl) {
	t.Helper()
	was := api.Acl{Owner: a.Owner, Group: a.Group, Other: a.Other, HasMask: a.HasMask, Mask: a.Mask}
	was.Users, was.Groups = append(was.Users, a.Users...), append(was.Groups, a.Groups...)
	want.Users, want.Groups = was.Users, was.Groups
	got := of(a)
	again := of(a)
	if !equal(got, want) || !equal(a, was) {
		t.Fatalf("of %+v: %+v, from then on %+v; want %+v", was, got, a, want)
	}
	spoil(again.Users)
	if !equal(a, was) || !equal(got, want) || !slices.Equal(again.Groups, was.Groups) {
		t.Fatalf("of %+v: the users are shared", was)
	}
	spoil(again.Groups)
	if !equal(a, was) || !equal(got, want) {
		t.Fatalf("of %+v: the groups are shared", was)
	}
	spoil(a.Users)
	spoil(a.Groups)
	if !equal(got, want) {
		t.Fatalf("of %+v: the lists are those of the argument", was)
	}
}

// P9.1: Copy returns an equal list, whether it is valid or not, with lists of its own.
func TestCopy(t *testing.T) {
	for _, a := range append(lists(4), full()) {
		owned(t, a, Copy, a)
	}
}

// P9.1, R5: lists of its own also if those of the argument are one, have room behind them, or are empty.
func TestCopyOfShared(t *testing.T) {
	l := append(make([]api.Named, 0, 8), names(5, 6, 7)...)
	owned(t, api.Acl{HasMask: true, Users: l, Groups: l}, Copy, api.Acl{HasMask: true})
	l = append(make([]api.Named, 0, 8), names(5, 6, 7)...)
	a := api.Acl{HasMask: true, Users: l[:1], Groups: l[1:2]}
	got := Copy(a)
	_, _ = append(got.Users, api.Named{Id: 1}), append(got.Groups, api.Named{Id: 2})
	_, _ = append(a.Users, api.Named{Id: 3}), append(a.Groups, api.Named{Id: 4})
	if !slices.Equal(got.Users, names(5)) || !slices.Equal(got.Groups, names(6)) {
		t.Errorf("%+v", got)
	}
	l = names(5, 6)
	got = Copy(api.Acl{Users: l[:0], Groups: l[:0]})
	_, _ = append(got.Users, api.Named{}), append(got.Groups, api.Named{})
	if len(got.Users) != 0 || len(got.Groups) != 0 || !slices.Equal(l, names(5, 6)) {
		t.Errorf("%+v, %+v", got, l)
	}
}

// P9.2: the bits of all lists of numbers that may be, and of the mask that may not.
func TestBitsOfAll(t *testing.T) {
	for k := range 1 << 13 {
		a := api.Acl{Owner: uint8(k & 7), Group: uint8(k >> 3 & 7), Other: uint8(k >> 6 & 7), Mask: uint8(k >> 9 & 7), HasMask: k>>12 > 0}
		if got, want := Bits(a), bitsOf(a); got != want {
			t.Fatalf("Bits(%+v) = %o; want %o", a, got, want)
		}
	}
}

// P9.2: each of the numbers is taken modulo 8, by itself; what else a list has does not matter.
func TestBitsModulo(t *testing.T) {
	for v := range 256 {
		for k := range numbers(&api.Acl{}) {
			for _, a := range []api.Acl{{}, {HasMask: true}, {Owner: 5, Group: 2, Other: 6, Mask: 3}, full()} {
				*numbers(&a)[k] = uint8(v)
				if got, want := Bits(a), bitsOf(a); got != want {
					t.Fatalf("Bits(%+v) = %o; want %o", a, got, want)
				}
			}
		}
	}
	for _, a := range lists(5) {
		if got, want := Bits(a), bitsOf(a); got != want || got > 511 {
			t.Fatalf("Bits(%+v) = %o; want %o", a, got, want)
		}
	}
}

// P9.2: Of of all numbers is a valid list without a mask, that has these bits, modulo 512.
func TestOf(t *testing.T) {
	for bits := range 1 << 16 {
		a := Of(uint16(bits))
		want := api.Acl{Owner: uint8(bits / 64 % 8), Group: uint8(bits / 8 % 8), Other: uint8(bits % 8)}
		if !equal(a, want) || Check(a) != api.OK || Bits(a) != uint16(bits%512) {
			t.Fatalf("Of(%o) = %+v; want %+v", bits, a, want)
		}
	}
}

// P9.3: Chmod of all numbers, taken modulo 512, of a list without a mask, with one, and of such as are not valid.
func TestChmodOfAll(t *testing.T) {
	n := noise(6)
	for _, a := range []api.Acl{
		{}, {HasMask: true}, full(), validList(n), {Owner: 255, Group: 254, Other: 253, Mask: 252}, {Owner: 255, Group: 254, Other: 253, Mask: 252, HasMask: true},
		{Group: 3, Mask: 5, Users: names(7, 5), Groups: names(5, 5)}, {Group: 3, Mask: 5, HasMask: true, Users: names(7, 5), Groups: names(5, 5)},
	} {
		for bits := range 1 << 16 {
			if got, want := Chmod(a, uint16(bits)), chmod(a, uint16(bits)); !equal(got, want) {
				t.Fatalf("Chmod(%+v, %o) = %+v; want %+v", a, bits, got, want)
			}
		}
	}
}

// P9.3: Chmod of lists of all kinds; the lists of the result are its own.
func TestChmodOwns(t *testing.T) {
	n := noise(7)
	for _, a := range append(lists(8), full()) {
		bits := uint16(n.IntN(1 << 16))
		owned(t, a, func(a api.Acl) api.Acl { return Chmod(a, bits) }, chmod(a, bits))
	}
	l := append(make([]api.Named, 0, 8), names(5, 6, 7)...)
	a := api.Acl{HasMask: true, Users: l, Groups: l}
	owned(t, a, func(a api.Acl) api.Acl { return Chmod(a, 0754) }, chmod(a, 0754))
}

// P9.3: which of the numbers are changed, and which are not.
func TestChmodTurns(t *testing.T) {
	a := api.Acl{Owner: 1, Group: 2, Other: 3, Mask: 4, Users: names(5), Groups: names(6)}
	if got := Chmod(a, 0765); got.Owner != 7 || got.Group != 6 || got.Other != 5 || got.Mask != 4 || got.HasMask {
		t.Errorf("without a mask: %+v", got)
	}
	a.HasMask = true
	if got := Chmod(a, 0765); got.Owner != 7 || got.Group != 2 || got.Other != 5 || got.Mask != 6 || !got.HasMask {
		t.Errorf("with a mask: %+v", got)
	}
}

// P9.4: after Chmod the bits are those; the entries, and with a mask Group, are as they were; the last one counts; what was valid still is.
func TestLaws(t *testing.T) {
	n := noise(9)
	for _, a := range lists(10) {
		for range 20 {
			first, last := uint16(n.IntN(1<<16)), uint16(n.IntN(1<<16))
			b := Chmod(a, first)
			if Bits(b) != first%512 || !slices.Equal(b.Users, a.Users) || !slices.Equal(b.Groups, a.Groups) || b.HasMask != a.HasMask {
				t.Fatalf("Chmod(%+v, %o) = %+v", a, first, b)
			}
			if a.HasMask && b.Group != a.Group || !a.HasMask && b.Mask != a.Mask {
				t.Fatalf("Chmod(%+v, %o) = %+v", a, first, b)
			}
			if c := Chmod(b, last); !Same(c, Chmod(a, last)) {
				t.Fatalf("Chmod of Chmod(%+v, %o) to %o = %+v", a, first, last, c)
			}
			if Check(a) == api.OK && (Check(b) != api.OK || !Same(Chmod(b, Bits(a)), a)) {
				t.Fatalf("Chmod(%+v, %o) = %+v", a, first, b)
			}
		}
	}
}

// The chapter's examples.
func TestExamples(t *testing.T) {
	if a := Of(0640); Bits(a) != 0640 || !equal(a, api.Acl{Owner: 6, Group: 4}) {
		t.Errorf("Of(0640) = %+v, of bits %o", a, Bits(a))
	}
	a := api.Acl{Owner: 7, Group: 7, Other: 7, Users: names(5), HasMask: true, Mask: 6}
	if got := Chmod(a, 0700); !equal(got, api.Acl{Owner: 7, Group: 7, Users: names(5), HasMask: true}) {
		t.Errorf("Chmod(%+v, 0700) = %+v", a, got)
	}
	if e := Check(api.Acl{HasMask: true, Users: names(5, 5)}); e != api.EINVAL {
		t.Errorf("Check of user 5 twice = %v", e)
	}
	if e := Check(api.Acl{Users: names(5)}); e != api.EINVAL {
		t.Errorf("Check of user 5 without a mask = %v", e)
	}
}
