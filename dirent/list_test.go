package dirent_test

import (
	"bytes"
	"math"
	"slices"
	"strings"
	"testing"

	"gabion/api"
	"gabion/dirent"
	"gabion/names"
)

// folder: the bytes of entries, one behind the other.
func folder(l ...dirent.Entry) []byte {
	var b []byte
	for _, x := range l {
		b = append(b, laid(x)...)
	}
	return b
}

// P18.1: the entries of a folder's bytes, none among them.
func TestList(t *testing.T) {
	a, b, c, none := dirent.Entry{Node: 1, Name: "a"}, dirent.Entry{Node: 2, Name: "b"}, dirent.Entry{Node: math.MaxUint32, Name: most}, dirent.Entry{}
	for _, l := range [][]dirent.Entry{
		nil, {a}, {none}, {a, b, c}, {none, a}, {a, none}, {a, none, b, none, none, c, none}, {none, none}, {c, c, a, a},
		slices.Repeat([]dirent.Entry{a, none, c}, 100),
	} {
		got, e := dirent.List(folder(l...))
		if e != api.OK || !slices.Equal(got, l) {
			t.Error(l, got, e)
		}
	}
	if got, e := dirent.List([]byte{}); e != api.OK || len(got) != 0 {
		t.Error(got, e)
	}
}

// P18.1: what isn't a whole entry at the end is nothing, whatever it is.
func TestListOfBytesThatEndWithinAnEntry(t *testing.T) {
	a, b := dirent.Entry{Node: 1, Name: "a"}, dirent.Entry{Node: 2, Name: "b"}
	for _, last := range [][]byte{laid(b), make([]byte, 32), bytes.Repeat([]byte{255}, 32)} {
		for many := range dirent.Size {
			for _, l := range [][]dirent.Entry{nil, {a}, {a, {}}, {a, b, b}} {
				got, e := dirent.List(append(folder(l...), last[:many]...))
				if e != api.OK || !slices.Equal(got, l) {
					t.Error(l, many, got, e)
				}
			}
		}
	}
}

// P18.1: an entry that is wrong, wherever it stands: its error, and no entry.
func TestListRefuses(t *testing.T) {
	a, none := dirent.Entry{Node: 1, Name: "a"}, dirent.Entry{}
	for _, x := range []dirent.Entry{{Node: 1}, {Name: "a"}, {Node: 1, Name: ".."}, {Node: 1, Name: "a/b"}, {Node: 1, Name: "\xff"}, {Node: 1, Name: most + "x"}} {
		for _, l := range [][]dirent.Entry{{x}, {x, a}, {a, x}, {none, x, none}, {a, a, a, x}, {x, x}} {
			for _, more := range []int{0, 1, 31} {
				if got, e := dirent.List(append(folder(l...), make([]byte, more)...)); e != api.Form || len(got) != 0 {
					t.Error(l, more, got, e)
				}
			}
		}
	}
	b := folder(a, none, a)
	b[32+31] = 1
	if got, e := dirent.List(b); e != api.Form || len(got) != 0 {
		t.Error("a byte behind none:", got, e)
	}
}

// P18.1: where a name stands: the first, with a Node.
func TestFind(t *testing.T) {
	l := []dirent.Entry{{}, {Name: "a"}, {Node: 1, Name: "b"}, {Node: 2, Name: "a"}, {Node: 3, Name: "a"}, {}, {Node: 3, Name: "é"}, {Node: 4, Name: most}, {Node: 5, Name: "ab"}}
	for name, want := range map[string]int{
		"a": 3, "b": 2, "é": 6, most: 7, "ab": 8,
		"": -1, "c": -1, "A": -1, "abc": -1, "e": -1, "e\u0301": -1, "\xc3": -1, "\xff": -1, " a": -1, "a ": -1, most + "x": -1, most[:23]: -1, ".": -1, "..": -1, "/": -1, "*": -1,
	} {
		if got := dirent.Find(l, name); got != want {
			t.Errorf("%q: %d, want %d", name, got, want)
		}
	}
	for _, name := range []string{"", "a", "\xff"} {
		for _, l := range [][]dirent.Entry{nil, {}, {{}}, {{}, {Name: "a"}, {}}} {
			if got := dirent.Find(l, name); got != -1 {
				t.Errorf("%q in %v: %d", name, l, got)
			}
		}
	}
	if got := dirent.Find([]dirent.Entry{{Node: 9, Name: "z"}}, "z"); got != 0 {
		t.Error(got)
	}
}

// P18.1: the first entry that is none; how many there are, if all are some.
func TestRoom(t *testing.T) {
	a, b, none := dirent.Entry{Node: 1, Name: "a"}, dirent.Entry{Node: math.MaxUint32, Name: "b"}, dirent.Entry{}
	for _, x := range []struct {
		l    []dirent.Entry
		want int
	}{
		{nil, 0}, {[]dirent.Entry{}, 0},
		{[]dirent.Entry{none}, 0}, {[]dirent.Entry{none, a, none}, 0}, {[]dirent.Entry{none, none}, 0},
		{[]dirent.Entry{a, none, b}, 1}, {[]dirent.Entry{a, b, none, a, none}, 2}, {[]dirent.Entry{a, b, none}, 2},
		{[]dirent.Entry{a}, 1}, {[]dirent.Entry{a, b}, 2}, {[]dirent.Entry{a, b, a, b, a}, 5},
		{[]dirent.Entry{a, {Name: "x"}, b}, 1}, // its Node is 0
		{[]dirent.Entry{a, {Node: 1}, b}, 3},   // it isn't
	} {
		if got := dirent.Room(x.l); got != x.want {
			t.Error(x, got)
		}
	}
}

// P18.1: the names, in layer 3's order; what is none has no name.
func TestNames(t *testing.T) {
	for _, x := range []struct{ come, want []string }{
		{nil, nil},
		{[]string{"b", "a"}, []string{"a", "b"}},
		{[]string{"a"}, []string{"a"}},
		{[]string{"a", "b", "c"}, []string{"a", "b", "c"}},
		{[]string{"c", "a", "b", "a"}, []string{"a", "a", "b", "c"}},
		{[]string{"x", "x"}, []string{"x", "x"}},
		{[]string{"ab", "a", "abc", "b", "B"}, []string{"B", "a", "ab", "abc", "b"}},
		{[]string{"a10", "a9", "a1"}, []string{"a1", "a10", "a9"}},
		{[]string{"世", "é", "z", "\U00010348", "e\u0301", "e"}, []string{"e", "e\u0301", "z", "é", "世", "\U00010348"}},
		// By bytes FF would stand behind all letters; it counts as FFFD.
		{[]string{"\U00010348", "\xff", "\ufffe", "世", "\xfe"}, []string{"世", "\xfe", "\xff", "\ufffe", "\U00010348"}},
		{[]string{"\xff\xff", "\xff", "\ufffd"}, []string{"\ufffd", "\xff", "\xff\xff"}},
	} {
		var l []dirent.Entry
		for i, name := range x.come {
			l = append(l, dirent.Entry{}, dirent.Entry{Node: uint32(i + 1), Name: name}, dirent.Entry{Name: "none"})
		}
		if got := dirent.Names(l); !slices.Equal(got, x.want) {
			t.Errorf("%q: %q", x.come, got)
		}
	}
	if got := dirent.Names([]dirent.Entry{{}, {Name: "a"}}); len(got) != 0 {
		t.Error(got)
	}
}

// P18.1: of names in any order the answer is the same, and each stands behind the one ahead of it.
func TestNamesInAnyOrder(t *testing.T) {
	var all []dirent.Entry
	for i, name := range append(slices.Clone(right), right...) {
		all = append(all, dirent.Entry{Node: uint32(i + 1), Name: name})
	}
	want := dirent.Names(all)
	if len(want) != len(all) {
		t.Fatal(want)
	}
	for i := 1; i < len(want); i++ {
		if names.Less(want[i], want[i-1]) {
			t.Errorf("%q stands behind %q", want[i], want[i-1])
		}
	}
	for turn := range len(all) {
		l := append(slices.Clone(all[turn:]), all[:turn]...)
		if turn%2 == 1 {
			slices.Reverse(l)
		}
		if got := dirent.Names(l); !slices.Equal(got, want) {
			t.Error(turn, got)
		}
	}
}

// P1 (rule 4): lists that are handed in aren't changed, their spare room neither, and not kept; an answer is new memory.
func TestMemoryOfLists(t *testing.T) {
	b := append(folder(dirent.Entry{Node: 1, Name: "b"}, dirent.Entry{}, dirent.Entry{Node: 2, Name: "a"}), 7, 7, 7)
	was := slices.Clone(b)
	l, e := dirent.List(b[:96])
	again, _ := dirent.List(b[:96])
	if e != api.OK || !bytes.Equal(b, was) {
		t.Error(e, b)
	}
	clear(b)
	want := []dirent.Entry{{Node: 1, Name: "b"}, {}, {Node: 2, Name: "a"}}
	if !slices.Equal(l, want) {
		t.Error("it kept what it was given:", l)
	}
	l[0] = dirent.Entry{Node: 9}
	_ = append(l, dirent.Entry{})
	if !slices.Equal(again, want) {
		t.Error("answers have memory in common:", again)
	}

	room := append(slices.Clone(want), dirent.Entry{Node: 8, Name: "spare"})
	first, second := dirent.Names(room[:3]), dirent.Names(room[:3])
	dirent.Find(room[:3], "a")
	dirent.Room(room[:3])
	if !slices.Equal(room[:3], want) || room[3].Name != "spare" {
		t.Error("changed:", room)
	}
	first[0] = "z"
	_ = append(first, "y")
	clear(room)
	if !slices.Equal(second, []string{"a", "b"}) {
		t.Error(second)
	}
}

// P1 (rule 6): any entries, also such as can't be: each call ends.
func TestAnyEntries(t *testing.T) {
	l := []dirent.Entry{{Node: 1}, {Node: 2, Name: strings.Repeat("\xff", 1000)}, {Node: 3, Name: "/"}, {Name: "\x00"}, {Node: 4, Name: "a"}}
	if got := dirent.Names(l); !slices.Equal(got, []string{"", "/", "a", strings.Repeat("\xff", 1000)}) {
		t.Errorf("%q", got)
	}
	if dirent.Find(l, "") != 0 || dirent.Find(l, "/") != 2 || dirent.Find(l, "\x00") != -1 || dirent.Room(l) != 3 {
		t.Error(dirent.Find(l, ""), dirent.Find(l, "/"), dirent.Room(l))
	}
	if got := dirent.Names(slices.Repeat(l, 2000)); len(got) != 8000 {
		t.Error(len(got))
	}
}
