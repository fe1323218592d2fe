package names_test

import (
	"slices"
	"strings"
	"testing"

	"gabion/api"
	"gabion/names"
)

// times: a text, n times.
func times(s string, n int) string { return strings.Repeat(s, n) }

// P3.1: what may be a name, and which error comes first.
func TestCheck(t *testing.T) {
	for _, c := range []struct {
		name string
		want api.Errno
	}{
		{"a", api.OK},
		{"...", api.OK},
		{".a", api.OK},
		{"a.", api.OK},
		{"..a", api.OK},
		{". .", api.OK},
		{" ", api.OK},
		{"a b", api.OK},
		{"~", api.OK},
		{"*?[\\]^-", api.OK},
		{"é", api.OK},
		{"\u0080\u0085\u00a0\u2028", api.OK},
		{"\ufffd", api.OK},
		{"\U0010ffff", api.OK},
		{"", api.Inval},
		{".", api.Inval},
		{"..", api.Inval},

		{times("a", 23), api.OK},
		{times("a", 24), api.OK},
		{times("a", 25), api.NameLen},
		{times("a", 5000), api.NameLen},
		{times(".", 24), api.OK},
		{times(".", 25), api.NameLen},
		{times("é", 12), api.OK},
		{times("é", 13), api.NameLen},
		{times("世", 8), api.OK},
		{times("世", 8) + "a", api.NameLen},
		{times("\U00010348", 6), api.OK},
		{times("\U00010348", 7), api.NameLen},

		{"\xff", api.Inval},
		{"a\x80", api.Inval},
		{"é"[:1], api.Inval},
		{"世"[:2] + "a", api.Inval},
		{"\xc0\x80", api.Inval},
		{"\xc1\xa1", api.Inval},
		{"\xed\xa0\x80", api.Inval},
		{"\xf4\x90\x80\x80", api.Inval},
		{times("a", 23) + "\xff", api.Inval},
		{times("a", 24) + "\xff", api.NameLen},

		{"/", api.Inval},
		{"a/b", api.Inval},
		{"/a", api.Inval},
		{"a/", api.Inval},
		{"\x00", api.Inval},
		{"a\nb", api.Inval},
		{"a\tb", api.Inval},
		{"ab\x1f", api.Inval},
		{"ab\x7f", api.Inval},
		{times("a", 23) + "/", api.Inval},
		{times("a", 24) + "/", api.NameLen},
		{times("/", 25), api.NameLen},
		{times("\x00", 25), api.NameLen},
	} {
		if e := names.Check(c.name); e != c.want {
			t.Errorf("%q: %d, want %d", c.name, e, c.want)
		}
	}
}

// P3.1: each byte, alone and in a name.
func TestCheckEachByte(t *testing.T) {
	for b := range 256 {
		want := api.OK
		if b < 0x20 || b == '/' || b >= 0x7f {
			want = api.Inval
		}
		alone := want
		if b == '.' {
			alone = api.Inval
		}
		s := string([]byte{byte(b)})
		if e := names.Check(s); e != alone {
			t.Errorf("%q: %d", s, e)
		}
		for _, in := range []string{"a" + s, s + "a", "a" + s + "b", times("a", 23) + s} {
			if e := names.Check(in); e != want {
				t.Errorf("%q: %d", in, e)
			}
		}
	}
}

// P3.1: a path's names; "" and "." are nothing, ".." takes the name ahead away.
func TestSplit(t *testing.T) {
	for _, c := range []struct {
		path string
		want []string
	}{
		{"/", nil},
		{"//", nil},
		{"/.", nil},
		{"/./", nil},
		{"/..", nil},
		{"/../", nil},
		{"/../..", nil},
		{times("/..", 60), nil},
		{"/a/./b/../c", []string{"a", "c"}},
		{"/a", []string{"a"}},
		{"/a/", []string{"a"}},
		{"//a", []string{"a"}},
		{"/a//b", []string{"a", "b"}},
		{"/a///b//", []string{"a", "b"}},
		{"/a/.", []string{"a"}},
		{"/./a", []string{"a"}},
		{"/a/..", nil},
		{"/../a", []string{"a"}},
		{"/../../a/b", []string{"a", "b"}},
		{"/a/../..", nil},
		{"/a/../../b", []string{"b"}},
		{"/a/b/..", []string{"a"}},
		{"/a/b/../", []string{"a"}},
		{"/a/b/../../c", []string{"c"}},
		{"/a/b/../../../c", []string{"c"}},
		{"/a/../a", []string{"a"}},
		{"/a/b/c/../d", []string{"a", "b", "d"}},
		{"/.../....", []string{"...", "...."}},
		{"/..a/.b", []string{"..a", ".b"}},
		{"/a/a/a", []string{"a", "a", "a"}},
		{"/ / a", []string{" ", " a"}},
		{"/é/世", []string{"é", "世"}},
		{"/*/[", []string{"*", "["}},
		{"/" + times("a", 24) + "/b", []string{times("a", 24), "b"}},
	} {
		l, e := names.Split(c.path)
		if e != api.OK || !slices.Equal(l, c.want) {
			t.Errorf("%q: %q, %d", c.path, l, e)
		}
	}
}

// P3.1, P1 (rules 1, 2): the first error that applies, and no names beside it.
func TestSplitErrors(t *testing.T) {
	long := times("a", 25)
	for _, c := range []struct {
		path string
		want api.Errno
	}{
		{"", api.Inval},
		{"a", api.Inval},
		{"a/b", api.Inval},
		{" /a", api.Inval},
		{".", api.Inval},
		{"..", api.Inval},
		{"./a", api.Inval},
		{"\x00/a", api.Inval},
		{"\\a", api.Inval},
		{times("a", 201), api.Inval},
		{times("a/", 150), api.Inval},

		{"/" + long, api.NameLen},
		{"/a/" + long + "/b", api.NameLen},
		{"/\x00", api.Inval},
		{"/a/\x7f", api.Inval},
		{"/a/b\x1f/c", api.Inval},
		{"/\xff", api.Inval},
		{"/a/\xc3/b", api.Inval},
		{"/\xc3/\xa9", api.Inval},

		{"/" + long + "/\x00", api.NameLen},
		{"/\x00/" + long, api.Inval},
		{"/\x00/..", api.Inval},
		{"/a/" + long + "/..", api.NameLen},
		{"/\xff/../a", api.Inval},
		{"/../\xff", api.Inval},
	} {
		l, e := names.Split(c.path)
		if e != c.want || len(l) != 0 {
			t.Errorf("%q: %q, %d, want %d", c.path, l, e, c.want)
		}
	}
}

// P3.1: paths of 200 and of 201 bytes, whatever their parts are.
func TestSplitLongPaths(t *testing.T) {
	full := times("/"+times("a", 24), 8) // 200 bytes
	for _, c := range []struct {
		path  string
		want  api.Errno
		count int
	}{
		{full, api.OK, 8},
		{full + "/", api.NameLen, 0},
		{full[:199], api.OK, 8},
		{times("/", 200), api.OK, 0},
		{times("/", 201), api.NameLen, 0},
		{times("/.", 100), api.OK, 0},
		{times("/.", 100) + "/", api.NameLen, 0},
		{times("/..", 66) + "/a", api.OK, 1},
		{times("/..", 66) + "/ab", api.NameLen, 0},
		{times("/a/..", 40), api.OK, 0},
		{times("/世", 12) + times("/", 152), api.OK, 12},
		{times("/世", 12) + times("/", 153), api.NameLen, 0},
		{"/\x00" + times("/", 198), api.Inval, 0},
		{"/\x00" + times("/", 199), api.NameLen, 0},
		{"/" + times("a", 199), api.NameLen, 0},
		{times("/", 3000), api.NameLen, 0},
	} {
		l, e := names.Split(c.path)
		if e != c.want || len(l) != c.count {
			t.Errorf("%d bytes, %q: %d names, %d", len(c.path), c.path, len(l), e)
		}
	}
}

// P3.1: 12 names may be, 13 may not; they are counted when all parts were gone through.
func TestSplitManyNames(t *testing.T) {
	for _, c := range []struct {
		path  string
		want  api.Errno
		count int
	}{
		{times("/a", 11), api.OK, 11},
		{times("/a", 12), api.OK, 12},
		{times("/a", 12) + "/", api.OK, 12},
		{times("/a", 13), api.NameLen, 0},
		{times("/a", 100), api.NameLen, 0},
		{times("/a", 13) + "/..", api.OK, 12},
		{times("/a", 14) + "/..", api.NameLen, 0},
		{times("/a", 30) + times("/..", 20), api.OK, 10},
		{times("/a", 12) + "/../b", api.OK, 12},
		{times("/a", 12) + "/./b", api.NameLen, 0},
		{times("/..", 13) + times("/a", 12), api.OK, 12},
		{times("/a", 13) + "/\x00", api.Inval, 0},
		{times("/a", 13) + "/\x00/..", api.Inval, 0},
	} {
		l, e := names.Split(c.path)
		if e != c.want || len(l) != c.count {
			t.Errorf("%q: %q, %d", c.path, l, e)
		}
	}
}

// P3.1: names with a / between, as they are.
func TestJoin(t *testing.T) {
	for _, c := range []struct {
		l    []string
		want string
	}{
		{nil, "/"},
		{[]string{}, "/"},
		{[]string{"a"}, "/a"},
		{[]string{"a", "b"}, "/a/b"},
		{[]string{"a", "b", "c"}, "/a/b/c"},
		{[]string{""}, "/"},
		{[]string{"", ""}, "//"},
		{[]string{"a", ""}, "/a/"},
		{[]string{"", "a"}, "//a"},
		{[]string{".", ".."}, "/./.."},
		{[]string{"a/b", "/"}, "/a/b//"},
		{[]string{"é", "\xff"}, "/é/\xff"},
		{[]string{times("a", 300)}, "/" + times("a", 300)},
		{strings.Split(times("b", 20), ""), times("/b", 20)},
	} {
		if s := names.Join(c.l...); s != c.want {
			t.Errorf("%q: %q", c.l, s)
		}
	}
	if s := names.Join(); s != "/" {
		t.Error("of none:", s)
	}
	if s := names.Join("a", "b"); s != "/a/b" {
		t.Error("one by one:", s)
	}
}

// P3.1, P1 (rules 2, 3): all names but the last, and that; of none nothing.
func TestLast(t *testing.T) {
	for _, c := range []struct {
		l, ahead []string
		last     string
		ok       bool
	}{
		{nil, nil, "", false},
		{[]string{}, nil, "", false},
		{[]string{"a"}, nil, "a", true},
		{[]string{""}, nil, "", true},
		{[]string{"a", "b"}, []string{"a"}, "b", true},
		{[]string{"a", "b", "c"}, []string{"a", "b"}, "c", true},
		{[]string{"a", ""}, []string{"a"}, "", true},
		{make([]string, 20), make([]string, 19), "", true},
	} {
		ahead, last, ok := names.Last(c.l)
		if !slices.Equal(ahead, c.ahead) || last != c.last || ok != c.ok {
			t.Errorf("%q: %q, %q, %t", c.l, ahead, last, ok)
		}
	}
}

// P3.1: whole names are held against each other, from the first on.
func TestWithin(t *testing.T) {
	list := func(l ...string) []string { return l }
	for _, c := range []struct {
		l, ahead []string
		want     bool
	}{
		{nil, nil, true},
		{nil, list(), true},
		{list(), nil, true},
		{list("a"), nil, true},
		{list("a"), list(), true},
		{list("a"), list("a"), true},
		{list("a", "b"), list("a"), true},
		{list("a", "b"), list("a", "b"), true},
		{list("a", "b", "c"), list("a", "b"), true},
		{nil, list("a"), false},
		{nil, list(""), false},
		{list(""), list(""), true},
		{list("a"), list("b"), false},
		{list("a"), list("a", "b"), false},
		{list("a"), list("a", ""), false},
		{list("a", "b"), list("b"), false},
		{list("a", "b"), list("a", "c"), false},
		{list("a", "b"), list("c", "b"), false},
		{list("a", "b", "c"), list("a", "c"), false},
		{list("ab"), list("a"), false},
		{list("a"), list("ab"), false},
		{list("a/b"), list("a"), false},
		{list("ab", "c"), list("a", "bc"), false},
		{list("A"), list("a"), false},
	} {
		if is := names.Within(c.l, c.ahead); is != c.want {
			t.Errorf("%q, %q: %t", c.l, c.ahead, is)
		}
	}
}

// P1 (rule 4): lists aren't changed, their spare room neither; answers are new memory.
func TestListsAreLeftAlone(t *testing.T) {
	room := []string{"a", "b", "c", "d"}
	l := room[:3]
	ahead, _, _ := names.Last(l)
	again, _, _ := names.Last(l)
	ahead[0] = "x"
	_ = append(ahead[:1], "y", "y", "y")
	_ = append(again, "z", "z")
	if !slices.Equal(again, []string{"a", "b"}) {
		t.Error("two answers share memory:", again)
	}
	one, _, _ := names.Last(room[:1])
	_ = append(one, "w")
	names.Join(l...)
	names.Within(l, room[:2])
	if !slices.Equal(room, []string{"a", "b", "c", "d"}) {
		t.Error("changed:", room)
	}
	first, _ := names.Split("/a/b/c")
	second, _ := names.Split("/a/b/c")
	first[0] = "x"
	_ = append(first[:1], "y", "y")
	if !slices.Equal(second, []string{"a", "b", "c"}) {
		t.Error("two answers share memory:", second)
	}
}

// P3.2: names that may be, joined, are split as they were.
func TestJoinedIsSplit(t *testing.T) {
	seed := uint64(5)
	next := func(n int) int { // the same numbers in each run
		seed = seed*6364136223846793005 + 1442695040888963407
		return int(seed>>33) % n
	}
	pieces := []string{"a", ".", " ", "é", "世", "\U00010348", "\ufffd", "\\", "..", "Z"}
	tried := 0
	for range 5000 {
		l := make([]string, next(13))
		for i := range l {
			for names.Check(l[i]) != api.OK {
				l[i] = ""
				for range 1 + next(4) {
					l[i] += pieces[next(len(pieces))]
				}
			}
		}
		path := names.Join(l...)
		if len(path) > api.MaxPath {
			continue
		}
		tried++
		got, e := names.Split(path)
		if e != api.OK || !slices.Equal(got, l) {
			t.Fatalf("%q: %q, %d", l, got, e)
		}
	}
	if tried < 4000 {
		t.Error("only", tried, "were tried")
	}
}

// P3.2: as many names, and as long ones, as may be.
func TestJoinedIsSplitAtTheLimits(t *testing.T) {
	for _, l := range [][]string{
		nil,
		strings.Split(times("a", 12), ""),
		strings.Split(times(times("a", 24)+"/", 7)+times("b", 24), "/"), // a path of 200 bytes
		{times("世", 8), times("é", 12), times(".", 24)},
	} {
		path := names.Join(l...)
		if got, e := names.Split(path); e != api.OK || !slices.Equal(got, l) {
			t.Errorf("%d bytes: %q, %d", len(path), got, e)
		}
	}
}

// P1 (rules 5, 6): whatever bytes come, each call ends, and answers the same again.
func TestAnyBytes(t *testing.T) {
	seed := uint64(9)
	some := func() string { // the same bytes in each run
		seed = seed*6364136223846793005 + 1442695040888963407
		b := make([]byte, seed>>60)
		for i := range b {
			seed = seed*6364136223846793005 + 1442695040888963407
			b[i] = byte(seed >> 56)
			if seed>>55&1 == 0 {
				b[i] = "/.*?[]^-\\a\xff\xc3"[seed>>40%12]
			}
		}
		return string(b)
	}
	for range 20000 {
		a, b := some(), some()
		l, e := names.Split(a)
		again, other := names.Split(a)
		if !slices.Equal(l, again) || e != other || e != api.OK && len(l) != 0 {
			t.Errorf("Split(%q): %q, %d; %q, %d", a, l, e, again, other)
		}
		for _, x := range l {
			if names.Check(x) != api.OK {
				t.Errorf("Split(%q): %q is no name", a, x)
			}
		}
		is, e := names.Match(a, b)
		if was, other := names.Match(a, b); is != was || e != other || e != api.OK && (is || e != api.Form) {
			t.Errorf("Match(%q, %q): %t, %d; %t, %d", a, b, is, e, was, other)
		}
		if names.Check(a) != names.Check(a) || names.Less(a, b) != names.Less(a, b) {
			t.Errorf("%q, %q: another answer", a, b)
		}
	}
}
