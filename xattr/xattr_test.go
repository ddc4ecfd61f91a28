package xattr

import (
	"bytes"
	"math/rand/v2"
	"slices"
	"strings"
	"testing"

	"parclose/api"
)

// noise is a row of numbers that are the same in each run.
func noise(seed uint64) *rand.Rand {
	return rand.New(rand.NewPCG(seed, 11))
}

// keyError is what Key is to return, as the contract tells it.
func keyError(key string) api.Errno {
	if len(key) == 0 || bytes.Contains([]byte(key), []byte{0}) {
		return 622
	}
	if len(key) > 8 {
		return 634
	}
	return 0
}

// valid tells whether the list is, as the definition of layer 10 tells it.
func valid(l []api.Xattr) bool {
	for i, x := range l {
		if keyError(x.Key) != 0 || len(x.Val) > 16 {
			return false
		}
		for _, y := range l[i+1:] {
			if bytes.Compare([]byte(x.Key), []byte(y.Key)) >= 0 {
				return false
			}
		}
	}
	return len(l) <= 4
}

// values are those of the list by their keys.
func values(l []api.Xattr) map[string]string {
	m := map[string]string{}
	for _, x := range l {
		m[x.Key] = x.Val
	}
	return m
}

// list is the valid list with these values.
func list(m map[string]string) []api.Xattr {
	var l []api.Xattr
	for key, val := range m {
		l = append(l, api.Xattr{Key: key, Val: val})
	}
	slices.SortFunc(l, func(x, y api.Xattr) int { return bytes.Compare([]byte(x.Key), []byte(y.Key)) })
	return l
}

// row is a list of these keys, each of which has itself as its value.
func row(keys ...string) []api.Xattr {
	var l []api.Xattr
	for _, key := range keys {
		l = append(l, api.Xattr{Key: key, Val: key})
	}
	return l
}

// setOf is what Set is to return, as the contract tells it.
func setOf(l []api.Xattr, key, val string, how uint8) ([]api.Xattr, api.Errno) {
	m := values(l)
	_, has := m[key]
	for _, c := range []struct {
		holds bool
		e     api.Errno
	}{
		{!valid(l), 622}, {how > 2, 622}, {keyError(key) != 0, keyError(key)}, {len(val) > 16, 634},
		{how == 1 && has, 617}, {how == 2 && !has, 661}, {!has && len(l) == 4, 628},
	} {
		if c.holds {
			return nil, c.e
		}
	}
	m[key] = val
	return list(m), 0
}

// getError is what Get and Remove are to return, as the contract tells it.
func getError(l []api.Xattr, key string) api.Errno {
	if !valid(l) {
		return 622
	}
	if e := keyError(key); e != 0 {
		return e
	}
	if _, has := values(l)[key]; !has {
		return 661
	}
	return 0
}

// removeOf is what Remove is to return, as the contract tells it.
func removeOf(l []api.Xattr, key string) ([]api.Xattr, api.Errno) {
	if e := getError(l, key); e != 0 {
		return nil, e
	}
	m := values(l)
	delete(m, key)
	return list(m), 0
}

// keysOf is what Keys is to return, as the contract tells it.
func keysOf(l []api.Xattr) ([]string, api.Errno) {
	if !valid(l) {
		return nil, 622
	}
	var keys []string
	for _, x := range l {
		keys = append(keys, x.Key)
	}
	return keys, 0
}

// sets holds Set to the contract.
func sets(t *testing.T, l []api.Xattr, key, val string, how uint8) {
	t.Helper()
	want, e := setOf(l, key, val, how)
	got, f := Set(l, key, val, how)
	if f != e || !slices.Equal(got, want) {
		t.Fatalf("Set(%q, %q, %q, %d) = %q, %v; want %q, %v", l, key, val, how, got, f, want, e)
	}
}

// reads holds Get, Remove and Keys to the contract.
func reads(t *testing.T, l []api.Xattr, key string) {
	t.Helper()
	want := ""
	e := getError(l, key)
	if e == 0 {
		want = values(l)[key]
	}
	if got, f := Get(l, key); f != e || got != want {
		t.Fatalf("Get(%q, %q) = %q, %v; want %q, %v", l, key, got, f, want, e)
	}
	less, e := removeOf(l, key)
	if got, f := Remove(l, key); f != e || !slices.Equal(got, less) {
		t.Fatalf("Remove(%q, %q) = %q, %v; want %q, %v", l, key, got, f, less, e)
	}
	keys, e := keysOf(l)
	if got, f := Keys(l); f != e || !slices.Equal(got, keys) {
		t.Fatalf("Keys(%q) = %q, %v; want %q, %v", l, got, f, keys, e)
	}
}

// holds holds all calls with a list to the contracts, with that key and that value.
func holds(t *testing.T, l []api.Xattr, key, val string) {
	t.Helper()
	for how := range uint8(4) {
		sets(t, l, key, val, how)
	}
	sets(t, l, key, val, 255)
	reads(t, l, key)
}

// keys are many: of all lengths about the bound, without a zero byte and with one at each place.
func keys() []string {
	var all []string
	for length := range 12 {
		key := strings.Repeat("k", length)
		all = append(all, key)
		for at := range length {
			all = append(all, key[:at]+"\x00"+key[at+1:])
		}
	}
	return append(all, strings.Repeat("k", 1<<16), strings.Repeat("k", 1<<16)+"\x00", strings.Repeat("\x00", 300))
}

// P11.1: Key of each length, and of a zero byte at each place, also in keys that are too long.
func TestKey(t *testing.T) {
	for _, key := range keys() {
		if got := Key(key); got != keyError(key) {
			t.Errorf("Key(%.20q), of %d bytes: %v; want %v", key, len(key), got, keyError(key))
		}
	}
}

// P11.1: the bounds, and which error goes first.
func TestKeyOfEdges(t *testing.T) {
	for key, want := range map[string]api.Errno{
		"": api.EINVAL, "\x00": api.EINVAL, "a\x00": api.EINVAL, "\x00a": api.EINVAL,
		"a": api.OK, "12345678": api.OK, "1234567\x00": api.EINVAL,
		"123456789": api.ERANGE, "12345678\x00": api.EINVAL, "\x0012345678": api.EINVAL,
		"äöü": api.OK, "äöüß": api.OK, "äöüßa": api.ERANGE, "0": api.OK, " ": api.OK, "/": api.OK,
	} {
		if got := Key(key); got != want {
			t.Errorf("Key(%q) = %v; want %v", key, got, want)
		}
	}
}

// P11.1: a key may have every byte but 0, at every place.
func TestKeyOfBytes(t *testing.T) {
	for b := range 256 {
		want := api.OK
		if b == 0 {
			want = api.EINVAL
		}
		for at := range 8 {
			key := []byte("abcdefgh")
			key[at] = byte(b)
			for _, s := range []string{string(key), string(key[:at+1])} {
				if got := Key(s); got != want {
					t.Errorf("Key(%q) = %v; want %v", s, got, want)
				}
			}
		}
	}
}

// few are all valid lists of some of these keys, with values of their own.
func few(keys ...string) [][]api.Xattr {
	var all [][]api.Xattr
	for set := range 1 << len(keys) {
		m := map[string]string{}
		for k, key := range keys {
			if set>>k&1 == 1 {
				m[key] = "v" + key
			}
		}
		if len(m) <= 4 {
			all = append(all, list(m))
		}
	}
	return all
}

// P11.2, P11.3: every list of few keys, with every one of these keys: where it is, and at each place where it would be.
func TestFew(t *testing.T) {
	names := []string{"a", "ab", "b", "c\xff", "c", "\x80"}
	for _, l := range few(names...) {
		for _, key := range append(names, "A", "aa", "b\x01", "bb", "cc", "\xff", "") {
			for _, val := range []string{"", "1", "va", strings.Repeat("v", 16), strings.Repeat("v", 17)} {
				holds(t, l, key, val)
			}
		}
	}
}

// P11.2: each way of setting, where there is the key and where there is none, with room and without.
func TestHow(t *testing.T) {
	full, room := row("a", "b", "c", "d"), row("a", "b", "c")
	for _, c := range []struct {
		l    []api.Xattr
		key  string
		how  uint8
		want api.Errno
	}{
		{nil, "a", api.SetAny, api.OK}, {nil, "a", api.SetCreate, api.OK}, {nil, "a", api.SetReplace, api.ENODATA},
		{room, "a", api.SetAny, api.OK}, {room, "a", api.SetCreate, api.EEXIST}, {room, "a", api.SetReplace, api.OK},
		{room, "d", api.SetAny, api.OK}, {room, "d", api.SetCreate, api.OK}, {room, "d", api.SetReplace, api.ENODATA},
		{full, "d", api.SetAny, api.OK}, {full, "d", api.SetCreate, api.EEXIST}, {full, "d", api.SetReplace, api.OK},
		{full, "e", api.SetAny, api.ENOSPC}, {full, "e", api.SetCreate, api.ENOSPC}, {full, "e", api.SetReplace, api.ENODATA},
		{full, "d", 3, api.EINVAL}, {nil, "d", 3, api.EINVAL}, {nil, "d", 255, api.EINVAL},
	} {
		got, e := Set(c.l, c.key, "new", c.how)
		if e != c.want || e != api.OK && len(got) != 0 {
			t.Errorf("Set(%q, %q, %d) = %q, %v; want %v", c.l, c.key, c.how, got, e, c.want)
		}
		if e == api.OK && values(got)[c.key] != "new" {
			t.Errorf("Set(%q, %q, %d) = %q", c.l, c.key, c.how, got)
		}
		sets(t, c.l, c.key, "new", c.how)
	}
}

// P11.2: values of each length about the bound, in a new place and in that of another value.
func TestValueLengths(t *testing.T) {
	for length := range 40 {
		val := strings.Repeat("\x00", length)
		for _, l := range [][]api.Xattr{nil, row("a"), row("a", "b", "c", "d")} {
			got, e := Set(l, "a", val, api.SetAny)
			if length > 16 {
				if e != api.ERANGE || len(got) != 0 {
					t.Errorf("%d bytes: %q, %v", length, got, e)
				}
			} else if e != api.OK || values(got)["a"] != val {
				t.Errorf("%d bytes: %q, %v", length, got, e)
			}
			holds(t, l, "a", val)
		}
	}
	holds(t, row("a"), "a", strings.Repeat("v", 1<<16))
}

// P11.2, P11.3: values may have all bytes, and a value of no byte is a value.
func TestValueBytes(t *testing.T) {
	for b := range 256 {
		val := strings.Repeat(string([]byte{byte(b)}), 1+b%16)
		l, e := Set(row("a", "c"), "b", val, api.SetCreate)
		if got, f := Get(l, "b"); e != api.OK || f != api.OK || got != val {
			t.Errorf("%q: %v, then %q, %v", val, e, got, f)
		}
	}
	l, e := Set(nil, "a", "", api.SetAny)
	if len(l) != 1 || e != api.OK {
		t.Errorf("Set of no byte = %q, %v", l, e)
	}
	if got, e := Get(l, "a"); got != "" || e != api.OK {
		t.Errorf("Get = %q, %v", got, e)
	}
	if _, e := Set(l, "a", "1", api.SetCreate); e != api.EEXIST {
		t.Errorf("Set where there is a value of no byte: %v", e)
	}
	holds(t, l, "a", "")
}

// P11.2, P11.3: a key is the one with just these bytes: no shorter, no longer one, none in other letters.
func TestNearKeys(t *testing.T) {
	for _, l := range [][]api.Xattr{row("user.a"), row("User", "us", "use", "user"), row("a", "aaaaaaaa")} {
		for _, key := range []string{
			"u", "us", "use", "user", "user.", "user.a", "user.aa", "user.b", "User", "USER", "a", "A", "aa", "aaaaaaa", "aaaaaaaa",
			"aaaaaaaab", "user.a\x00", "user\x00",
		} {
			holds(t, l, key, "v")
		}
	}
}

// P11.2, P11.3: keys are in the order of their bytes, which are no letters and have no sign.
func TestOrder(t *testing.T) {
	for _, c := range [][4]string{
		{"B", "_", "a", "b"}, {"a", "a\x01", "aa", "b"}, {"\x01", "\x7f", "\x80", "\xff"}, {"1", "10", "2", "9"},
		{"a\x7f", "a\x80", "ä", "ö"}, {"a", "aaaaaaa", "aaaaaaaa", "aaaaaaab"},
	} {
		want := c[:]
		n := noise(1)
		for range 24 {
			var l []api.Xattr
			for _, k := range n.Perm(4) {
				var e api.Errno
				if l, e = Set(l, want[k], want[k], api.SetCreate); e != api.OK {
					t.Fatalf("%q into %q: %v", want[k], l, e)
				}
			}
			if got, e := Keys(l); !slices.Equal(got, want) || e != api.OK || !slices.Equal(l, row(want...)) {
				t.Errorf("Keys(%q) = %q, %v; want %q", l, got, e, want)
			}
		}
	}
}

// wrong are lists that are not valid.
func wrong() [][]api.Xattr {
	long := strings.Repeat("v", 17)
	return [][]api.Xattr{
		row(""), row("", "a"), row("a", ""), row("\x00"), row("a\x00"), row("a", "b\x00", "c"), row("aaaaaaaaa"), row("a", "bbbbbbbbb"),
		row("a", "a"), row("a", "b", "b"), row("b", "a"), row("a", "c", "b"), row("a", "b", "d", "c"), row("b", "c", "d", "a"), row("\xff", "a"),
		row("ab", "a"), row("a", "b", "c", "d", "e"), row("a", "b", "c", "d", "e", "f", "g", "h"), {{}}, {{}, {}, {}, {}, {}},
		{{Key: "a", Val: long}}, {{Key: "a"}, {Key: "b", Val: long}}, {{Key: "a"}, {Key: "b"}, {Key: "c"}, {Key: "d", Val: long}},
		{{Key: "a", Val: "1"}, {Key: "a", Val: "2"}}, {{Key: "a", Val: strings.Repeat("v", 1<<16)}},
	}
}

// P11.2, P11.3: with a list that is not valid all calls return EINVAL, before everything else.
func TestWrongLists(t *testing.T) {
	many := make([]api.Xattr, 1000)
	for k := range many {
		many[k].Key = string([]byte{'a' + byte(k/26/26), 'a' + byte(k/26%26), 'a' + byte(k%26)})
	}
	for _, l := range append(wrong(), many) {
		for _, key := range []string{"a", "b", "e", "z", "", "a\x00", "aaaaaaaaa"} {
			for _, val := range []string{"", "v", strings.Repeat("v", 17)} {
				for how := range uint8(4) {
					if got, e := Set(l, key, val, how); e != api.EINVAL || len(got) != 0 {
						t.Errorf("Set(%q, %q, %q, %d) = %q, %v", l, key, val, how, got, e)
					}
				}
			}
			if got, e := Get(l, key); e != api.EINVAL || got != "" {
				t.Errorf("Get(%q, %q) = %q, %v", l, key, got, e)
			}
			if got, e := Remove(l, key); e != api.EINVAL || len(got) != 0 {
				t.Errorf("Remove(%q, %q) = %q, %v", l, key, got, e)
			}
		}
		if got, e := Keys(l); e != api.EINVAL || len(got) != 0 {
			t.Errorf("Keys(%q) = %q, %v", l, got, e)
		}
	}
}

// P11.2, P11.3: all faults together, and all sets of them, are told in the contract's order.
func TestFaults(t *testing.T) {
	lists := append(wrong(), nil, row("a"), row("a", "b", "c", "d"), row("b", "c", "d", "e"))
	for _, l := range lists {
		for _, key := range []string{"a", "x", "", "\x00", "aaaaaaaa", "aaaaaaaaa", "aaaaaaaaa\x00"} {
			for _, val := range []string{"v", strings.Repeat("v", 16), strings.Repeat("v", 17)} {
				holds(t, l, key, val)
			}
		}
	}
}

// P11.2: which one of two errors goes first, told by their numbers.
func TestOrderOfErrors(t *testing.T) {
	one, full := row("a"), row("a", "b", "c", "d")
	long, key := strings.Repeat("v", 17), "aaaaaaaaa"
	for _, c := range []struct {
		l        []api.Xattr
		key, val string
		how      uint8
		want     api.Errno
	}{
		{one, key, long, 3, 622}, {one, "", long, 3, 622}, {one, "", long, 2, 622}, {one, key, long, 2, 634}, {one, "a\x00", long, 1, 622},
		{one, "a", long, 1, 634}, {one, "b", long, 2, 634}, {full, "e", long, 0, 634}, {full, "e", "v", 2, 661}, {full, "a", "v", 1, 617},
		{full, "e", "v", 1, 628}, {full, "", "v", 1, 622}, {full, key, "v", 0, 634}, {full, "e", "v", 3, 622},
	} {
		if got, e := Set(c.l, c.key, c.val, c.how); e != c.want || len(got) != 0 {
			t.Errorf("Set(%q, %q, %q, %d) = %q, %v; want %v", c.l, c.key, c.val, c.how, got, e, c.want)
		}
	}
}

// P11.3: Get and Remove return Key's error first, whatever the list is, if it is valid.
func TestKeyErrors(t *testing.T) {
	for _, l := range [][]api.Xattr{nil, row("a"), row("a", "b", "c", "d"), row("kkkkkkkk")} {
		for _, key := range keys() {
			want := keyError(key)
			if want == 0 && (len(l) != 1 || key != l[0].Key) {
				want = 661
			}
			got, e := Get(l, key)
			less, f := Remove(l, key)
			if e != want || f != want || want != 0 && (got != "" || len(less) != 0) {
				t.Errorf("%.20q of %q: Get = %q, %v; Remove = %q, %v; want %v", key, l, got, e, less, f, want)
			}
		}
	}
}

// P11.3, R4: none and an empty list are equivalent.
func TestNone(t *testing.T) {
	for _, l := range [][]api.Xattr{nil, {}, make([]api.Xattr, 0, 8), row("a", "b")[:0]} {
		if got, e := Keys(l); len(got) != 0 || e != api.OK {
			t.Errorf("Keys = %q, %v", got, e)
		}
		if got, e := Set(l, "b", "1", api.SetAny); !slices.Equal(got, []api.Xattr{{Key: "b", Val: "1"}}) || e != api.OK {
			t.Errorf("Set = %q, %v", got, e)
		}
		holds(t, l, "a", "1")
	}
	if got, e := Remove(row("a"), "a"); len(got) != 0 || e != api.OK {
		t.Errorf("Remove of the only key = %q, %v", got, e)
	}
}

// roomy is the list with room behind it, in which there is something.
func roomy(l []api.Xattr) []api.Xattr {
	all := append(slices.Clone(l), row("x", "y", "z")...)
	return all[:len(l)]
}

// spoil turns all values of the list, also those that could be put behind them.
func spoil(l []api.Xattr) {
	l = l[:cap(l)]
	for k := range l {
		l[k] = api.Xattr{Key: "spoiled", Val: "spoiled"}
	}
}

// owned holds that making a list from l turns nothing of l, nor what is behind it, and that the result shares nothing with it.
func owned(t *testing.T, l []api.Xattr, of func([]api.Xattr) ([]api.Xattr, api.Errno)) {
	t.Helper()
	l = roomy(l)
	was := slices.Clone(l[:cap(l)])
	got, e := of(l)
	want := slices.Clone(got)
	again, _ := of(l)
	if e != api.OK || !slices.Equal(l[:cap(l)], was) {
		t.Fatalf("of %q: %v, and from then on %q", was, e, l[:cap(l)])
	}
	spoil(again)
	if !slices.Equal(got, want) || !slices.Equal(l[:cap(l)], was) {
		t.Fatalf("of %q: the result is shared: %q, %q", was, got, l[:cap(l)])
	}
	spoil(l)
	if !slices.Equal(got, want) {
		t.Fatalf("of %q: the result stands in the list", was)
	}
}

// P11.2, P11.3, R5: the list that is handed in stays as it is, and what is returned is new memory: at the first place, at the last one, and between.
func TestOwned(t *testing.T) {
	for _, l := range few("a", "c", "e", "g") {
		for _, key := range []string{"A", "a", "b", "c", "d", "e", "f", "g", "h"} {
			for _, val := range []string{"new", "v" + key} {
				if _, e := setOf(l, key, val, api.SetAny); e == api.OK {
					owned(t, l, func(l []api.Xattr) ([]api.Xattr, api.Errno) { return Set(l, key, val, api.SetAny) })
				}
			}
			if getError(l, key) == api.OK {
				owned(t, l, func(l []api.Xattr) ([]api.Xattr, api.Errno) { return Remove(l, key) })
			}
		}
	}
}

// P11.3, R5: the keys are a list of their own, each time.
func TestKeysOwned(t *testing.T) {
	for _, l := range few("a", "b", "c", "d") {
		was := slices.Clone(l)
		got, _ := Keys(l)
		want := slices.Clone(got)
		again, _ := Keys(l)
		for k := range again {
			again[k] = "spoiled"
		}
		if !slices.Equal(got, want) || !slices.Equal(l, was) {
			t.Fatalf("Keys(%q): the keys are shared: %q, %q", was, got, l)
		}
		spoil(l)
		if !slices.Equal(got, want) {
			t.Fatalf("Keys(%q): the keys stand in the list", was)
		}
	}
}

// text is a few bytes, mostly of few kinds.
func text(n *rand.Rand, most int) string {
	b := make([]byte, n.IntN(most+1))
	for k := range b {
		switch n.IntN(40) {
		case 0:
			b[k] = 0
		case 1:
			b[k] = byte(n.IntN(256))
		default:
			b[k] = 'a' + byte(n.IntN(2))
		}
	}
	return string(b)
}

// drawn is a list of any values, that is often valid.
func drawn(n *rand.Rand) []api.Xattr {
	m := map[string]string{}
	for range n.IntN(6) {
		m[text(n, 2+n.IntN(8))] = text(n, 17)
	}
	if n.IntN(3) > 0 {
		delete(m, "")
	}
	l := list(m)
	if len(l) > 1 && n.IntN(8) == 0 {
		l[n.IntN(len(l))].Key = l[n.IntN(len(l))].Key
	}
	return l
}

// P11.2, P11.3: whatever lists, keys and values are drawn, the calls return what the contracts tell.
func TestDrawn(t *testing.T) {
	n := noise(2)
	good := 0
	for range 20000 {
		l := drawn(n)
		key := text(n, 9)
		if len(l) > 0 && n.IntN(2) == 0 {
			key = l[n.IntN(len(l))].Key
		}
		holds(t, l, key, text(n, 18))
		if valid(l) {
			good++
		}
	}
	if good < 4000 || good > 18000 {
		t.Errorf("%d of 20000 lists are valid", good)
	}
}

// validDrawn is a list that is valid.
func validDrawn(n *rand.Rand) []api.Xattr {
	for {
		if l := drawn(n); valid(l) {
			return l
		}
	}
}

// validKey is a key that may be.
func validKey(n *rand.Rand) string {
	for {
		if key := text(n, 4); keyError(key) == 0 {
			return key
		}
	}
}

// keeps holds that each of the list's values but that of the key is what it was.
func keeps(t *testing.T, was, is []api.Xattr, key string) {
	t.Helper()
	if !valid(is) {
		t.Fatalf("%q is not valid", is)
	}
	for _, x := range was {
		if got, e := Get(is, x.Key); x.Key != key && (got != x.Val || e != api.OK) {
			t.Fatalf("from %q to %q: Get(%q) = %q, %v", was, is, x.Key, got, e)
		}
	}
}

// P11.4: Get returns what was set, and no other key's value changes; what was removed is gone, and can be set anew.
func TestSetThenGet(t *testing.T) {
	n := noise(3)
	set := 0
	for range 10000 {
		l, key, val := validDrawn(n), validKey(n), text(n, 16)
		got, e := Set(l, key, val, api.SetAny)
		if e != api.OK {
			if _, f := Get(l, key); e != api.ENOSPC || f != api.ENODATA || len(l) != 4 {
				t.Fatalf("Set(%q, %q): %v", l, key, e)
			}
			continue
		}
		set++
		if v, e := Get(got, key); v != val || e != api.OK {
			t.Fatalf("Set(%q, %q, %q), then Get: %q, %v", l, key, val, v, e)
		}
		keeps(t, l, got, key)
		keeps(t, got, l, key)
		less, e := Remove(got, key)
		if _, f := Get(less, key); e != api.OK || f != api.ENODATA {
			t.Fatalf("Remove(%q, %q): %v, then Get: %v", got, key, e, f)
		}
		keeps(t, got, less, key)
		if again, e := Set(less, key, val, api.SetCreate); e != api.OK || !slices.Equal(again, got) {
			t.Fatalf("Set(%q, %q) where it was removed: %q, %v", less, key, again, e)
		}
	}
	if set < 5000 {
		t.Errorf("set only %d times", set)
	}
}

// P11.4: the last one of two values that are set for one key counts.
func TestSetTwice(t *testing.T) {
	n := noise(4)
	for range 5000 {
		l, key, val := validDrawn(n), validKey(n), text(n, 16)
		first, e := Set(l, key, text(n, 16), api.SetAny)
		if e != api.OK {
			continue
		}
		for _, how := range []uint8{api.SetAny, api.SetReplace} {
			both, e := Set(first, key, val, how)
			once, f := Set(l, key, val, api.SetAny)
			if e != api.OK || f != api.OK || !slices.Equal(both, once) {
				t.Fatalf("twice into %q: %q, %v; once: %q, %v", l, both, e, once, f)
			}
		}
	}
}

// two is what comes of setting both, one behind the other.
func two(l []api.Xattr, x, y api.Xattr) ([]api.Xattr, api.Errno) {
	l, e := Set(l, x.Key, x.Val, api.SetAny)
	if e != api.OK {
		return nil, e
	}
	return Set(l, y.Key, y.Val, api.SetAny)
}

// P11.4: values for two keys may be set in either order, if there is space for both.
func TestSetInEitherOrder(t *testing.T) {
	n := noise(5)
	space := 0
	for range 10000 {
		l := validDrawn(n)
		x, y := api.Xattr{Key: validKey(n), Val: text(n, 16)}, api.Xattr{Key: validKey(n), Val: text(n, 16)}
		if x.Key == y.Key {
			continue
		}
		m := values(l)
		m[x.Key], m[y.Key] = x.Val, y.Val
		want, e := list(m), api.OK
		if len(m) > 4 {
			want, e = nil, api.ENOSPC
		} else {
			space++
		}
		one, f := two(l, x, y)
		other, g := two(l, y, x)
		if f != e || g != e || !slices.Equal(one, want) || !slices.Equal(other, want) {
			t.Fatalf("%q and %q into %q: %q, %v; %q, %v; want %q, %v", x, y, l, one, f, other, g, want, e)
		}
	}
	if space < 3000 {
		t.Errorf("space for both only %d times", space)
	}
}

// P11.2, P11.3, P11.4: in long runs of calls the list is what a map of values is.
func TestRuns(t *testing.T) {
	n := noise(6)
	for range 200 {
		var l []api.Xattr
		m := map[string]string{}
		for range 100 {
			key, val, how := validKey(n), text(n, 16), uint8(n.IntN(3))
			_, has := m[key]
			if n.IntN(3) == 0 {
				if less, e := Remove(l, key); has == (e == api.OK) && e == api.OK {
					delete(m, key)
					l = less
				} else if has || e != api.ENODATA {
					t.Fatalf("Remove(%q, %q): %v", l, key, e)
				}
			} else if more, e := Set(l, key, val, how); e == api.OK {
				m[key] = val
				l = more
			} else if how == api.SetAny && (has || len(m) < 4) {
				t.Fatalf("Set(%q, %q): %v", l, key, e)
			}
			if !slices.Equal(l, list(m)) {
				t.Fatalf("%q; want %q", l, list(m))
			}
		}
	}
}

// The chapter's examples.
func TestExamples(t *testing.T) {
	l, e := Set(nil, "b", "1", api.SetAny)
	if got, f := Keys(l); e != api.OK || f != api.OK || !slices.Equal(got, []string{"b"}) {
		t.Errorf("Keys = %q, %v, %v", got, e, f)
	}
	l, e = Set(l, "a", "2", api.SetAny)
	if got, f := Keys(l); e != api.OK || f != api.OK || !slices.Equal(got, []string{"a", "b"}) {
		t.Errorf("Keys = %q, %v, %v", got, e, f)
	}
	if got, e := Set(l, "a", "3", api.SetCreate); e != api.EEXIST || len(got) != 0 {
		t.Errorf("Set of a, SetCreate = %q, %v", got, e)
	}
	if got, e := Set(l, "c", "3", api.SetReplace); e != api.ENODATA || len(got) != 0 {
		t.Errorf("Set of c, SetReplace = %q, %v", got, e)
	}
}
