package dirent_test

import (
	"bytes"
	"encoding/binary"
	"math"
	"slices"
	"strings"
	"testing"

	"gabion/api"
	"gabion/dirent"
	"gabion/names"
)

// laid: an entry's bytes, by hand.
func laid(x dirent.Entry) []byte {
	b := binary.LittleEndian.AppendUint32(nil, x.Node)
	b = append(b, byte(len(x.Name)))
	b = append(b, x.Name...)
	return append(b, make([]byte, 32-len(b))...)
}

// most: a name of as many bytes as may be.
var most = strings.Repeat("x", api.MaxName)

// right: names that may be.
var right = []string{
	"a", " ", "...", ".a", "a.", "~", "*", "\\", "README.md", most, most[:23],
	"é", "世界", "\U00010348", "\ufffd", "e\u0301", "\u0080", strings.Repeat("é", 12), strings.Repeat("世", 8), strings.Repeat("\U00010348", 6), strings.Repeat("é", 11) + "ab",
}

// wrong: names that may not be, and Check's error of each.
var wrong = map[string]api.Errno{
	".": api.Inval, "..": api.Inval, "/": api.Inval, "a/b": api.Inval, "/a": api.Inval, "a/": api.Inval,
	"\x00": api.Inval, "a\x00": api.Inval, "\x1f": api.Inval, "a\nb": api.Inval, "\x7f": api.Inval,
	"\xff": api.Inval, "a\x80": api.Inval, "世"[:2]: api.Inval, "\xed\xa0\x80": api.Inval,
	most + "x": api.NameLen, most + "xx": api.NameLen, strings.Repeat("x", 27): api.NameLen, strings.Repeat("x", 28): api.NameLen,
	strings.Repeat("x", 255): api.NameLen, strings.Repeat("x", 256): api.NameLen, strings.Repeat("x", 257): api.NameLen, strings.Repeat("x", 1<<20): api.NameLen,
	strings.Repeat("é", 12) + "a": api.NameLen, strings.Repeat("世", 9): api.NameLen, strings.Repeat("/", 25): api.NameLen, strings.Repeat("\xff", 25): api.NameLen,
}

// nodes: numbers of inodes, from the least on.
var nodes = []uint32{1, 2, 255, 256, 0x04030201, 1 << 31, math.MaxUint32}

// P18.1: how many bytes an entry has.
func TestSize(t *testing.T) {
	if dirent.Size != 32 {
		t.Error(dirent.Size)
	}
}

// P18.1: an entry's bytes, one by one.
func TestEncode(t *testing.T) {
	want := append([]byte{1, 2, 3, 4, 5, 'a', 0xE4, 0xB8, 0x96, 'b'}, make([]byte, 22)...)
	if b, e := (dirent.Entry{Node: 0x04030201, Name: "a世b"}).Encode(); e != api.OK || !bytes.Equal(b, want) {
		t.Error(b, e)
	}
	for _, n := range nodes {
		for _, name := range right {
			x := dirent.Entry{Node: n, Name: name}
			if b, e := x.Encode(); e != api.OK || len(b) != dirent.Size || !bytes.Equal(b, laid(x)) {
				t.Error(x, b, e)
			}
		}
	}
}

// P18.1: an entry that is none is noughts.
func TestEncodeOfNone(t *testing.T) {
	if b, e := (dirent.Entry{}).Encode(); e != api.OK || !bytes.Equal(b, make([]byte, 32)) {
		t.Error(b, e)
	}
}

// P18.1: of a name that may not be layer 3's error, with Node 0, too; of one that may be and Node 0 Form.
func TestEncodeRefuses(t *testing.T) {
	refused := func(x dirent.Entry, want api.Errno) {
		t.Helper()
		if b, e := x.Encode(); e != want || len(b) != 0 {
			t.Error(x, b, e)
		}
	}
	for name, want := range wrong {
		if e := names.Check(name); e != want {
			t.Errorf("%q is told otherwise: %d", name, e)
		}
		for _, n := range append(nodes, 0) {
			refused(dirent.Entry{Node: n, Name: name}, want)
		}
	}
	for _, n := range nodes {
		refused(dirent.Entry{Node: n}, api.Inval)
	}
	for _, name := range right {
		refused(dirent.Entry{Name: name}, api.Form)
	}
}

// P18.1, P18.2: what is encoded is decoded as it was; so are bytes that were laid by hand.
func TestDecode(t *testing.T) {
	l := []dirent.Entry{{}}
	for _, n := range nodes {
		for _, name := range right {
			l = append(l, dirent.Entry{Node: n, Name: name})
		}
	}
	for _, x := range l {
		b, e := x.Encode()
		if e != api.OK {
			t.Error(x, e)
		}
		if got, e := dirent.Decode(b); e != api.OK || got != x {
			t.Error(x, got, e)
		}
		if got, e := dirent.Decode(laid(x)); e != api.OK || got != x {
			t.Error("by hand:", x, got, e)
		}
	}
}

// refused: bytes that are no entry.
func refused(t *testing.T, b []byte, what ...any) {
	t.Helper()
	if x, e := dirent.Decode(b); e != api.Form || x != (dirent.Entry{}) {
		t.Error(append(what, x, e)...)
	}
}

// P18.1: bytes that aren't 32.
func TestDecodeOfAnotherLength(t *testing.T) {
	for _, x := range []dirent.Entry{{}, {Node: 1, Name: "a"}, {Node: math.MaxUint32, Name: most}} {
		b := laid(x)
		for many := range dirent.Size {
			refused(t, b[:many], x, many)
		}
		for _, many := range []int{1, 2, 31, 32, 1000} {
			refused(t, append(slices.Clone(b), make([]byte, many)...), x, "and", many)
		}
	}
	refused(t, nil, "nil")
	refused(t, []byte{}, "none")
	refused(t, make([]byte, 1<<20), "many")
}

// P18.1: a name's length that runs out, or is another one than the name's.
func TestDecodeOfAnotherNamesLength(t *testing.T) {
	filled := []byte{1, 0, 0, 0, 0}
	filled = append(filled, bytes.Repeat([]byte{'x'}, 27)...)
	for many := range 256 {
		b := slices.Clone(filled)
		b[4] = byte(many)
		refused(t, b, "filled up:", many) // up to 27 it isn't the name's end, or too long; behind that it runs out
	}
	for many := range 256 {
		b := laid(dirent.Entry{Node: 1, Name: "abc"})
		b[4] = byte(many)
		if many == 3 {
			continue
		}
		refused(t, b, "abc:", many) // fewer leave bytes behind, more take noughts into the name
	}
	for many := 1; many <= 27; many++ {
		b := laid(dirent.Entry{Node: 1, Name: strings.Repeat("x", many)})
		if many <= api.MaxName {
			if x, e := dirent.Decode(b); e != api.OK || len(x.Name) != many {
				t.Error(many, x, e)
			}
			continue
		}
		refused(t, b, "too long:", many)
	}
}

// P18.1: another byte than 0 behind the name, at each place and of each number; behind nothing, too.
func TestDecodeOfBytesBehind(t *testing.T) {
	for _, x := range []dirent.Entry{{}, {Node: 7, Name: "a"}, {Node: 7, Name: "世界"}, {Node: 7, Name: most}} {
		for i := 5 + len(x.Name); i < dirent.Size; i++ {
			for v := 1; v < 256; v++ {
				b := laid(x)
				b[i] = byte(v)
				refused(t, b, x, i, v)
			}
		}
	}
}

// P18.1: a Node without a name, a name without a Node, a name that may not be.
func TestDecodeRefuses(t *testing.T) {
	for _, n := range nodes {
		refused(t, laid(dirent.Entry{Node: n}), "without a name:", n)
	}
	for _, name := range right {
		refused(t, laid(dirent.Entry{Name: name}), "without a Node:", name)
	}
	for name := range wrong {
		if len(name) <= 27 {
			refused(t, laid(dirent.Entry{Node: 5, Name: name}), name)
			refused(t, laid(dirent.Entry{Name: name}), "without a Node:", name)
		}
	}
}

// P18.2: bytes that are decoded are those of what they were decoded to.
func TestDecodedIsEncoded(t *testing.T) {
	for _, x := range []dirent.Entry{{}, {Node: 1, Name: "a"}, {Node: 0x04030201, Name: "ab世"}, {Node: math.MaxUint32, Name: most}} {
		for i := range dirent.Size {
			for v := range 256 {
				b := laid(x)
				b[i] = byte(v)
				got, e := dirent.Decode(b)
				if e != api.OK {
					continue
				}
				if again, e := got.Encode(); e != api.OK || !bytes.Equal(again, b) {
					t.Error(x, i, v, got, again, e)
				}
			}
		}
	}
}

// P1 (rule 4): what is handed in isn't changed, its spare room neither, and not kept; an answer is new memory.
func TestMemoryOfEntries(t *testing.T) {
	x := dirent.Entry{Node: 3, Name: "abc"}
	room := append(laid(x), 7, 7, 7)
	was := slices.Clone(room)
	got, e := dirent.Decode(room[:dirent.Size])
	if e != api.OK || got != x || !bytes.Equal(room, was) {
		t.Error(got, e, room)
	}
	clear(room)
	if got != x {
		t.Error("it kept what it was given:", got)
	}
	for _, x := range []dirent.Entry{{}, x} {
		first, _ := x.Encode()
		second, _ := x.Encode()
		first[9] = 99
		_ = append(first, 1, 2, 3)
		if !bytes.Equal(second, laid(x)) {
			t.Error("answers have memory in common:", second)
		}
	}
}
