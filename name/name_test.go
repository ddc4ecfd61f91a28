package name

import (
	"hash/crc32"
	"math/rand/v2"
	"slices"
	"strings"
	"testing"

	"parclose/api"
)

// noise is a row of numbers that are the same in each run.
func noise(seed uint64) *rand.Rand {
	return rand.New(rand.NewPCG(seed, 8))
}

// texts are all of at most n bytes, each of them one of these.
func texts(bytes string, n int) []string {
	all := []string{""}
	for from := 0; n > 0; n-- {
		to := len(all)
		for _, s := range all[from:to] {
			for k := range len(bytes) {
				all = append(all, s+bytes[k:k+1])
			}
		}
		from = to
	}
	return all
}

// textOf is a text of n bytes, each of them one of these.
func textOf(n *rand.Rand, bytes string, length int) string {
	b := make([]byte, length)
	for k := range b {
		b[k] = bytes[n.IntN(len(bytes))]
	}
	return string(b)
}

// most is a part that is as long as one may be, longest such a path.
var (
	most    = strings.Repeat("m", 16)
	longest = strings.Repeat(most[:15]+"/", 4)
)

// errorOf is what is wrong with the name, as the contract tells it.
func errorOf(s string) api.Errno {
	if s == "" {
		return api.ENOENT
	}
	for k := range len(s) {
		if s[k] == 0 || s[k] == 47 {
			return api.EINVAL
		}
	}
	if len(s) > 16 {
		return api.ENAMETOOLONG
	}
	return api.OK
}

// cut is the path's parts, as the chapter's definition tells them: byte by byte, a slash ends one.
func cut(path string) []string {
	var l []string
	part := ""
	for k := range len(path) {
		if path[k] != 47 {
			part += path[k : k+1]
			continue
		}
		if part != "" {
			l = append(l, part)
		}
		part = ""
	}
	if part != "" {
		l = append(l, part)
	}
	return l
}

// split is what Split is to return, as the contract tells it.
func split(path string) (api.Path, api.Errno) {
	l := cut(path)
	long := slices.ContainsFunc(l, func(part string) bool { return len(part) > 16 })
	switch {
	case len(path) == 0:
		return api.Path{}, 602
	case len(path) > 64:
		return api.Path{}, 636
	case strings.IndexByte(path, 0) >= 0:
		return api.Path{}, 622
	case long:
		return api.Path{}, 636
	}
	p := api.Path{Root: path[0] == 47, Parts: l}
	p.Dir = path[len(path)-1] == 47 || len(l) == 0 || l[len(l)-1] == "." || l[len(l)-1] == ".."
	return p, 0
}

// join is what Join is to return, as the contract tells it.
func join(p api.Path) string {
	s := ""
	if p.Root {
		s = "/"
	}
	for k, part := range p.Parts {
		if k > 0 {
			s += "/"
		}
		s += part
	}
	if p.Dir && len(p.Parts) > 0 {
		switch p.Parts[len(p.Parts)-1] {
		case ".", "..":
		default:
			s += "/"
		}
	}
	return s
}

// same tells whether the two paths are the same; a list without parts is like none.
func same(p, q api.Path) bool {
	return p.Root == q.Root && p.Dir == q.Dir && slices.Equal(p.Parts, q.Parts)
}

// splits holds that the path is split as the contract tells it, and the laws of what was split.
func splits(t *testing.T, path string) {
	t.Helper()
	p, e := Split(path)
	want, wantError := split(path)
	if !same(p, want) || e != wantError {
		t.Fatalf("Split(%q) = %+v, %v; want %+v, %v", path, p, e, want, wantError)
	}
	if e != api.OK {
		return
	}
	again, e := Split(Join(p))
	if !same(again, p) || e != api.OK {
		t.Fatalf("Split(Join(Split(%q))) = %+v, %v; want %+v", path, again, e, p)
	}
}

// joins holds that the path is joined as the contract tells it, and that nothing of it is turned.
func joins(t *testing.T, p api.Path) {
	t.Helper()
	was := slices.Clone(p.Parts)
	if got, want := Join(p), join(p); got != want {
		t.Fatalf("Join(%+v) = %q; want %q", p, got, want)
	}
	if !slices.Equal(p.Parts, was) {
		t.Fatalf("Join turned %q to %q", was, p.Parts)
	}
}

// P8.1: Check returns what is wrong first, for every text of few bytes, among them all that are wrong, and the dots.
func TestCheckOfAllShort(t *testing.T) {
	for _, s := range texts("a./\x00\xFF", 5) {
		if got, want := Check(s), errorOf(s); got != want {
			t.Fatalf("Check(%q) = %v; want %v", s, got, want)
		}
	}
}

// P8.1: each byte may be in a name, at each place of it, except 0 and the slash; that comes ahead of the length.
func TestCheckOfEachByte(t *testing.T) {
	for b := range 256 {
		for length := 1; length <= 40; length++ {
			for at := range length {
				s := []byte(strings.Repeat("n", length))
				s[at] = byte(b)
				if got, want := Check(string(s)), errorOf(string(s)); got != want {
					t.Fatalf("Check(%q) = %v; want %v", s, got, want)
				}
			}
		}
	}
}

// P8.1: the bounds that the contract names, in its order.
func TestCheckAtBounds(t *testing.T) {
	huge := strings.Repeat("n", 1<<20)
	for _, c := range []struct {
		s    string
		want api.Errno
	}{
		{"", 602}, {"a", 0}, {".", 0}, {"..", 0}, {"...", 0}, {most, 0}, {most + "m", 636},
		{"/", 622}, {"\x00", 622}, {"a/", 622}, {"/a", 622}, {"a\x00", 622}, {"low", 0},
		{most + "/", 622}, {most + "\x00", 622}, {"/" + most, 622}, {huge, 636}, {huge + "/", 622}, {huge + "\x00", 622},
	} {
		if got := Check(c.s); got != c.want {
			t.Errorf("Check of %d bytes, %.20q.. = %v; want %v", len(c.s), c.s, got, c.want)
		}
	}
}

// P8.1: Dots reports the two names, and no other one.
func TestDots(t *testing.T) {
	for _, s := range append(texts("./\x00a", 4), " .", ". ", "\uFF0E", "․", "‥", strings.Repeat(".", 1<<16)) {
		if got, want := Dots(s), s == "." || s == ".."; got != want {
			t.Errorf("Dots(%.20q) = %v; want %v", s, got, want)
		}
	}
}

// P8.2, P8.4: all paths of few bytes are split as the contract tells it, and again into the same when they were joined.
func TestSplitOfAllShort(t *testing.T) {
	for _, s := range texts("a./\x00", 7) {
		splits(t, s)
	}
}

// P8.2, P8.4: so are paths of any length, of any bytes, with parts of about the length that they may have.
func TestSplitOfNoise(t *testing.T) {
	n := noise(1)
	every := make([]byte, 256)
	for b := range every {
		every[b] = byte(b)
	}
	for _, bytes := range []string{"abcdefg/", "a/", "././.a", "aaaaaaaaaaaaaaaaaaaaaaaaaaaa/", "aaaaaaaaaaaaaaaaaaaaaaaaaaaaa/\x00", string(every), string(every[1:]) + "////////////////////////"} {
		for range 4000 {
			splits(t, textOf(n, bytes, n.IntN(70)))
		}
	}
}

// P8.2: each byte is of a part, except the slash, and except 0, which no path has.
func TestSplitOfEachByte(t *testing.T) {
	for b := range 256 {
		for at := range 7 {
			s := []byte("ab/cd/.")
			s[at] = byte(b)
			splits(t, string(s))
		}
	}
}

// P8.2: the bounds that the contract names.
func TestSplitAtBounds(t *testing.T) {
	for length := 60; length <= 70; length++ {
		splits(t, (longest + "////////")[:length])
		splits(t, (longest + "nnnnnnnn")[:length])
		splits(t, strings.Repeat("/", length))
		splits(t, strings.Repeat("a/", length)[:length])
		splits(t, strings.Repeat("a", length))
	}
	for length := range 40 {
		part := strings.Repeat("p", length)
		for _, s := range []string{part, "/" + part, part + "/", "a/" + part, part + "/a", "a//" + part + "//a", most + "/" + part} {
			splits(t, s)
		}
	}
	for _, c := range []struct {
		path string
		want api.Errno
	}{
		{longest, 0}, {longest + "/", 636}, {"/" + longest, 636}, {most, 0}, {most + "m", 636}, {"a/" + most + "m/b", 636},
		{strings.Repeat("/", 64), 0}, {strings.Repeat("/", 65), 636}, {strings.Repeat("/", 1<<20), 636},
	} {
		if _, e := Split(c.path); e != c.want {
			t.Errorf("Split of %d bytes, %.20q.. = %v; want %v", len(c.path), c.path, e, c.want)
		}
	}
}

// P8.2: of several errors the first one is returned: the path's length, a byte 0, a part's length; and nothing beside it.
func TestSplitOrder(t *testing.T) {
	for _, c := range []struct {
		path string
		want api.Errno
	}{
		{"", 602},
		{"\x00", 622},
		{"\x00/" + most + "m", 622},
		{most + "m/\x00", 622},
		{"a/" + most + "\x00", 622},
		{longest + "\x00", 636},
		{"\x00" + longest, 636},
		{strings.Repeat("m", 64) + "\x00", 636},
		{strings.Repeat("m", 64), 636},
		{strings.Repeat("m", 63) + "\x00", 622},
		{"/a/b/" + most + "m", 636},
		{"/a/b/" + most + "m/", 636},
	} {
		p, e := Split(c.path)
		if e != c.want || p.Root || p.Dir || len(p.Parts) != 0 {
			t.Errorf("Split(%q) = %+v, %v; want %v", c.path, p, e, c.want)
		}
	}
}

// P8.2: what each of the three results tells.
func TestSplitTells(t *testing.T) {
	for _, c := range []struct {
		path      string
		root, dir bool
		parts     string
	}{
		{"a", false, false, "a"}, {"/a", true, false, "a"}, {"a/", false, true, "a"}, {"/a/", true, true, "a"}, {"//a//", true, true, "a"},
		{".", false, true, "."}, {"..", false, true, ".."}, {"...", false, false, "..."}, {"/.", true, true, "."}, {"./", false, true, "."}, {"/..//", true, true, ".."},
		{"./a", false, false, ". a"}, {"../a", false, false, ".. a"}, {"a/..", false, true, "a .."}, {"a/./", false, true, "a ."}, {"a.", false, false, "a."}, {"a/b..", false, false, "a b.."}, {".a", false, false, ".a"}, {"a/..b", false, false, "a ..b"},
		{"/", true, true, ""}, {"//", true, true, ""}, {"a/b/c", false, false, "a b c"}, {"../../..", false, true, ".. .. .."}, {"/low/a", true, false, "low a"}, {"\xFF/é", false, false, "\xFF é"},
	} {
		p, e := Split(c.path)
		if e != api.OK || p.Root != c.root || p.Dir != c.dir || !slices.Equal(p.Parts, strings.Fields(c.parts)) {
			t.Errorf("Split(%q) = %+v, %v", c.path, p, e)
		}
	}
}

// P8.2: paths of all kinds are joined as the contract tells it, also such as no path is split into.
func TestJoin(t *testing.T) {
	n := noise(2)
	for _, one := range texts("./a", 3) {
		for _, other := range texts("./\x00", 2) {
			for k := range 16 {
				root, dir := k&1 != 0, k&2 != 0
				joins(t, api.Path{Root: root, Dir: dir, Parts: [][]string{nil, {}, {one}, {one, other}}[k>>2]})
			}
		}
	}
	for range 4000 {
		p := api.Path{Root: n.IntN(2) > 0, Dir: n.IntN(2) > 0}
		for range n.IntN(6) {
			p.Parts = append(p.Parts, textOf(n, "../ab\x00", n.IntN(30)))
		}
		joins(t, p)
	}
	joins(t, api.Path{Root: true, Dir: true, Parts: make([]string, 1000)})
	joins(t, api.Path{Dir: true, Parts: []string{strings.Repeat("a", 1<<16), strings.Repeat("./", 1<<16)}})
}

// P8.2: the ends of a joined path.
func TestJoinEnds(t *testing.T) {
	for _, c := range []struct {
		p    api.Path
		want string
	}{
		{api.Path{}, ""},
		{api.Path{Dir: true}, ""},
		{api.Path{Root: true}, "/"},
		{api.Path{Root: true, Dir: true, Parts: []string{}}, "/"},
		{api.Path{Parts: []string{"a", "b"}}, "a/b"},
		{api.Path{Dir: true, Parts: []string{"a", "b"}}, "a/b/"},
		{api.Path{Root: true, Parts: []string{"a", "b"}}, "/a/b"},
		{api.Path{Root: true, Dir: true, Parts: []string{"a"}}, "/a/"},
		{api.Path{Root: true, Dir: true, Parts: []string{"a", ".."}}, "/a/.."},
		{api.Path{Dir: true, Parts: []string{"."}}, "."},
		{api.Path{Dir: true, Parts: []string{".."}}, ".."},
		{api.Path{Dir: true, Parts: []string{"..", "a"}}, "../a/"},
		{api.Path{Dir: true, Parts: []string{"..."}}, ".../"},
		{api.Path{Parts: []string{".."}}, ".."},
		{api.Path{Dir: true, Parts: []string{""}}, "/"},
	} {
		if got := Join(c.p); got != c.want {
			t.Errorf("Join(%+v) = %q; want %q", c.p, got, c.want)
		}
	}
}

// P8.3: the bucket is the checksum modulo 4, whatever the name is; all four have names.
func TestBucket(t *testing.T) {
	n := noise(3)
	l := append(texts("a./\x00\xFF", 4), strings.Repeat("n", 1<<16))
	for range 2000 {
		l = append(l, textOf(n, "abcdefghijklmnopqrstuvwxyz", n.IntN(20)))
	}
	has := [4]int{}
	for _, s := range l {
		got := Bucket(s)
		if want := int(crc32.ChecksumIEEE([]byte(s)) % 4); got != want {
			t.Fatalf("Bucket(%.20q) = %d; want %d", s, got, want)
		}
		has[got]++
	}
	for b, count := range has {
		if count < len(l)/8 {
			t.Errorf("bucket %d has %d of %d names", b, count, len(l))
		}
	}
}

// P8.4: what has a part, or is absolute, and may be split at all, is split into the same when it was joined. What has neither isn't.
func TestSplitOfJoined(t *testing.T) {
	n := noise(4)
	for range 4000 {
		p := api.Path{Root: n.IntN(2) > 0}
		for range n.IntN(5) {
			p.Parts = append(p.Parts, textOf(n, "..ab", 1+n.IntN(12)))
		}
		last := len(p.Parts) - 1
		if last < 0 && !p.Root {
			if got, e := Split(Join(p)); e != api.ENOENT || !same(got, api.Path{}) {
				t.Fatalf("Split(Join(%+v)) = %+v, %v", p, got, e)
			}
			continue
		}
		p.Dir = last < 0 || Dots(p.Parts[last]) || n.IntN(2) > 0
		if got, e := Split(Join(p)); e != api.OK || !same(got, p) {
			t.Fatalf("Split(Join(%+v)) = %+v, %v", p, got, e)
		}
	}
}

// slashes are the places of the slashes.
func slashes(s string) []int {
	var l []int
	for at := range len(s) {
		if s[at] == '/' {
			l = append(l, at)
		}
	}
	return l
}

// P8.4: slashes beside one that is there change nothing, as long as the path isn't too long by them.
func TestMoreSlashes(t *testing.T) {
	n := noise(5)
	for range 2000 {
		s := textOf(n, "ab./", 1+n.IntN(20))
		p, e := Split(s)
		for l := slashes(s); len(l) > 0 && len(s) <= 66; l = slashes(s) {
			at := l[n.IntN(len(l))]
			s = s[:at] + "/" + s[at:]
			if len(s) > 64 {
				p, e = api.Path{}, api.ENAMETOOLONG
			}
			if got, gotError := Split(s); !same(got, p) || gotError != e {
				t.Fatalf("Split(%q) = %+v, %v; want %+v, %v", s, got, gotError, p, e)
			}
		}
	}
}

// R5, R6: what was returned is the caller's own: what is made of it changes no other result.
func TestOwnParts(t *testing.T) {
	const s = "/one/two/three"
	p, _ := Split(s)
	q, _ := Split(s)
	p.Parts[0], p.Parts[2] = "x", "y"
	_ = append(p.Parts[:1], "z")
	want := api.Path{Root: true, Parts: []string{"one", "two", "three"}}
	again, e := Split(s)
	if !same(q, want) || !same(again, want) || e != api.OK {
		t.Errorf("%+v, %+v, %v", q, again, e)
	}
}

// The chapter's examples.
func TestExamples(t *testing.T) {
	for _, c := range []struct {
		path string
		want api.Path
	}{
		{"/a//b/", api.Path{Root: true, Dir: true, Parts: []string{"a", "b"}}},
		{"..", api.Path{Dir: true, Parts: []string{".."}}},
		{"a/.", api.Path{Dir: true, Parts: []string{"a", "."}}},
		{"/", api.Path{Root: true, Dir: true}},
	} {
		if p, e := Split(c.path); !same(p, c.want) || e != api.OK {
			t.Errorf("Split(%q) = %+v, %v; want %+v", c.path, p, e, c.want)
		}
	}
	if p, e := Split(""); !same(p, api.Path{}) || e != api.ENOENT {
		t.Errorf("Split of the empty text = %+v, %v", p, e)
	}
	if e := Check("a/b"); e != api.EINVAL {
		t.Errorf("Check(a/b) = %v", e)
	}
	if b := Bucket(""); b != 0 {
		t.Errorf("Bucket of the empty name = %d", b)
	}
}
