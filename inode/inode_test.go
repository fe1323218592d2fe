package inode_test

import (
	"bytes"
	"encoding/binary"
	"math"
	"slices"
	"testing"

	"gabion/api"
	"gabion/inode"
)

// laid: an inode's bytes, by hand.
func laid(n inode.Inode) []byte {
	b := []byte{n.Kind, 0}
	b = binary.LittleEndian.AppendUint16(b, n.Links)
	b = binary.LittleEndian.AppendUint32(b, n.Size)
	for _, x := range n.Direct {
		b = binary.LittleEndian.AppendUint32(b, x)
	}
	b = binary.LittleEndian.AppendUint32(b, n.Single)
	b = binary.LittleEndian.AppendUint32(b, n.Double)
	return append(b, make([]byte, 16)...)
}

// full: an inode of a Kind all of whose numbers are one.
func full(kind uint8, links uint16, x uint32) inode.Inode {
	n := inode.Inode{Kind: kind, Links: links, Size: x, Single: x, Double: x}
	for i := range n.Direct {
		n.Direct[i] = x
	}
	return n
}

// some: inodes that may be, with numbers at their least, at their greatest, and between.
func some() []inode.Inode {
	l := []inode.Inode{{}}
	for _, kind := range []uint8{inode.File, inode.Folder} {
		l = append(l, inode.Inode{Kind: kind})
		l = append(l, full(kind, math.MaxUint16, math.MaxUint32), full(kind, 0x0201, 0x04030201), full(kind, 1, 1<<31))
		l = append(l, inode.Inode{Kind: kind, Links: math.MaxUint16}, inode.Inode{Kind: kind, Size: math.MaxUint32})
		l = append(l, inode.Inode{Kind: kind, Single: math.MaxUint32}, inode.Inode{Kind: kind, Double: math.MaxUint32})
		for i := range inode.Direct {
			n := inode.Inode{Kind: kind}
			n.Direct[i] = math.MaxUint32
			l = append(l, n)
		}
	}
	seed := uint64(17)
	next := func() uint32 { // the same numbers in each run
		seed = seed*6364136223846793005 + 1442695040888963407
		return uint32(seed >> 32)
	}
	for i := range 200 {
		n := inode.Inode{Kind: uint8(1 + i%2), Links: uint16(next()), Size: next(), Single: next(), Double: next()}
		for i := range n.Direct {
			n.Direct[i] = next()
		}
		l = append(l, n)
	}
	return l
}

// The numbers that the document names.
func TestConstants(t *testing.T) {
	if inode.Size != 64 || inode.Direct != 8 || inode.Root != 1 {
		t.Error(inode.Size, inode.Direct, inode.Root)
	}
	if inode.Free != 0 || inode.File != 1 || inode.Folder != 2 {
		t.Error(inode.Free, inode.File, inode.Folder)
	}
}

// P17.1: an inode's bytes, one by one.
func TestEncode(t *testing.T) {
	n := inode.Inode{Kind: inode.Folder, Links: 0x0403, Size: 0x08070605, Single: 0x2C2B2A29, Double: 0x302F2E2D}
	for i := range n.Direct {
		n.Direct[i] = 0x0C0B0A09 + uint32(i)*0x04040404
	}
	var want []byte
	for i := range byte(48) {
		want = append(want, i+1)
	}
	want[0], want[1] = 2, 0
	want = append(want, make([]byte, 16)...)
	if b := n.Encode(); !bytes.Equal(b, want) {
		t.Error(b)
	}
	for _, n := range some() {
		if b := n.Encode(); len(b) != inode.Size || !bytes.Equal(b, laid(n)) {
			t.Error(n, b)
		}
	}
	if b := (inode.Inode{}).Encode(); !bytes.Equal(b, make([]byte, 64)) {
		t.Error("a free one:", b)
	}
	// It asks for nothing: what may not be has bytes, too.
	for _, n := range []inode.Inode{full(inode.Free, 1, 2), full(3, 4, 5), full(255, math.MaxUint16, math.MaxUint32)} {
		if b := n.Encode(); !bytes.Equal(b, laid(n)) {
			t.Error(n, b)
		}
	}
}

// P17.1, P17.2: what is encoded is decoded as it was; so are bytes that were laid by hand.
func TestDecode(t *testing.T) {
	for _, n := range some() {
		if got, e := inode.Decode(n.Encode()); e != api.OK || got != n {
			t.Error(n, got, e)
		}
		if got, e := inode.Decode(laid(n)); e != api.OK || got != n {
			t.Error("by hand:", n, got, e)
		}
	}
}

// P17.2: no two inodes have the same bytes.
func TestBytesTellInodesApart(t *testing.T) {
	for _, n := range []inode.Inode{full(inode.File, 7, 9), full(inode.Folder, 0, 0), full(inode.File, math.MaxUint16, math.MaxUint32)} {
		b := n.Encode()
		seen := map[inode.Inode]bool{n: true}
		for i := 2; i < 48; i++ {
			for bit := range 8 {
				c := slices.Clone(b)
				c[i] ^= 1 << bit
				got, e := inode.Decode(c)
				if e != api.OK || seen[got] {
					t.Error(n, i, bit, got, e)
				}
				seen[got] = true
				if again := got.Encode(); !bytes.Equal(again, c) {
					t.Error(n, i, bit, again)
				}
			}
		}
	}
}

// refused: bytes that are no inode.
func refused(t *testing.T, b []byte, what ...any) {
	t.Helper()
	if n, e := inode.Decode(b); e != api.Form || n != (inode.Inode{}) {
		t.Error(append(what, n, e)...)
	}
}

// P17.1: bytes that aren't 64.
func TestDecodeOfAnotherLength(t *testing.T) {
	for _, n := range []inode.Inode{{}, full(inode.File, 1, 2), full(inode.Folder, 2, 0)} {
		b := laid(n)
		for many := range inode.Size {
			refused(t, b[:many], n, many)
		}
		for _, many := range []int{1, 2, 63, 64, 1000} {
			refused(t, append(slices.Clone(b), make([]byte, many)...), n, "and", many)
		}
		refused(t, append(slices.Clone(b), b...), n, "twice")
	}
	refused(t, nil, "nil")
	refused(t, []byte{}, "none")
	refused(t, make([]byte, 1<<20), "many")
}

// P17.1: another Kind.
func TestDecodeOfAnotherKind(t *testing.T) {
	for kind := 3; kind < 256; kind++ {
		refused(t, laid(full(uint8(kind), 0, 0)), kind)
		refused(t, laid(full(uint8(kind), 1, 2)), kind)
	}
}

// P17.1: each byte that must be 0, with each bit.
func TestDecodeOfBytesThatMustBeNought(t *testing.T) {
	places := []int{1}
	for i := 48; i < inode.Size; i++ {
		places = append(places, i)
	}
	for _, n := range []inode.Inode{full(inode.File, 1, 2), full(inode.Folder, 0, 0), {}} {
		for _, i := range places {
			for x := 1; x < 256; x++ {
				b := laid(n)
				b[i] = byte(x)
				refused(t, b, n, i, x)
			}
		}
	}
}

// P17.1: one that is Free, and not all 0.
func TestDecodeOfFree(t *testing.T) {
	if n, e := inode.Decode(make([]byte, 64)); e != api.OK || n != (inode.Inode{}) {
		t.Error(n, e)
	}
	for i := 1; i < inode.Size; i++ {
		for _, x := range []byte{1, 16, 128, 255} {
			b := make([]byte, inode.Size)
			b[i] = x
			refused(t, b, i, x)
		}
	}
	for _, n := range some()[1:] {
		n.Kind = inode.Free
		if n != (inode.Inode{}) {
			refused(t, n.Encode(), n)
		}
	}
}

// P1 (rule 4): what is handed in isn't changed, its spare room neither, and not kept; an answer is new memory.
func TestMemory(t *testing.T) {
	n := full(inode.File, 3, 5)
	room := append(laid(n), 7, 7, 7)
	was := slices.Clone(room)
	got, e := inode.Decode(room[:inode.Size])
	if e != api.OK || got != n || !bytes.Equal(room, was) {
		t.Error(got, e, room)
	}
	clear(room)
	if got != n {
		t.Error("it kept what it was given:", got)
	}
	first, second := n.Encode(), n.Encode()
	first[9] = 99
	_ = append(first, 1, 2, 3)
	if !bytes.Equal(second, laid(n)) || !bytes.Equal(n.Encode(), laid(n)) || n != full(inode.File, 3, 5) {
		t.Error("answers have memory in common:", second, n)
	}
}
