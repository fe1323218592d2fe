package bmap_test

import (
	"bytes"
	"encoding/binary"
	"math"
	"slices"
	"testing"

	"gabion/bmap"
)

// sample: so many bytes, no two numbers of which are alike.
func sample(n int) []byte {
	b := make([]byte, n)
	for i := range b {
		b[i] = byte(i%4*64 + i/4%64 + i/256)
	}
	return b
}

// beyond: which numbers a block of so many bytes doesn't have.
func beyond(n int) []int {
	return []int{math.MinInt, math.MinInt + 1, math.MinInt32, -n, -4, -2, -1, n / 4, n/4 + 1, n, 1 << 30, 1 << 32, 1 << 61, 1 << 62, 1<<62 + 1, math.MaxInt - 1, math.MaxInt}
}

// lengths: of blocks, also such as are no multiple of 4.
var lengths = []int{0, 1, 2, 3, 4, 5, 6, 7, 8, 9, 11, 12, 255, 256, 257, 258, 259, 320, 1023, 1024, 1027}

// P19.1: the numbers of a block, the lowest byte first.
func TestGet(t *testing.T) {
	b := []byte{1, 2, 3, 4, 0, 0, 0, 0, 255, 255, 255, 255, 0, 0, 0, 128, 9, 9, 9}
	for i, want := range []uint32{0x04030201, 0, math.MaxUint32, 1 << 31, 0} {
		if got := bmap.Get(b, i); got != want {
			t.Error(i, got)
		}
	}
	for _, n := range lengths {
		b := sample(n)
		for i := range n / 4 {
			if got := bmap.Get(b, i); got != binary.LittleEndian.Uint32(b[4*i:]) {
				t.Error(n, i, got)
			}
		}
	}
}

// P19.1: of a number that there isn't 0.
func TestGetOfNone(t *testing.T) {
	for _, n := range lengths {
		b := bytes.Repeat([]byte{255}, n)
		for _, i := range beyond(n) {
			if n == 0 && i == 0 || i < 0 || i >= n/4 {
				if got := bmap.Get(b, i); got != 0 {
					t.Error(n, i, got)
				}
				// What stands behind the block isn't the block's.
				if got := bmap.Get(append(slices.Clone(b), 255, 255, 255, 255)[:n], i); got != 0 {
					t.Error(n, i, got)
				}
			}
		}
	}
	if bmap.Get(nil, 0) != 0 || bmap.Get([]byte{}, 0) != 0 || bmap.Get(nil, -1) != 0 {
		t.Error("of nothing")
	}
}

// P19.1: a block with another number, all other bytes as they are.
func TestSet(t *testing.T) {
	if b := bmap.Set([]byte{1, 2, 3, 4, 5, 6, 7, 8, 9}, 1, 0x0D0C0B0A); !bytes.Equal(b, []byte{1, 2, 3, 4, 10, 11, 12, 13, 9}) {
		t.Error(b)
	}
	for _, n := range lengths {
		for i := range n / 4 {
			for _, v := range []uint32{0, 1, 0x04030201, 1 << 31, math.MaxUint32} {
				b := sample(n)
				want := sample(n)
				binary.LittleEndian.PutUint32(want[4*i:], v)
				got := bmap.Set(b, i, v)
				if !bytes.Equal(got, want) || bmap.Get(got, i) != v {
					t.Error(n, i, v, got)
				}
				if !bytes.Equal(b, sample(n)) {
					t.Error(n, i, v, "changed what was given")
				}
			}
		}
	}
}

// P19.1: of a number that there isn't the block as it is.
func TestSetOfNone(t *testing.T) {
	for _, n := range lengths {
		for _, i := range beyond(n) {
			if i >= 0 && i < n/4 {
				continue
			}
			room := append(sample(n), 7, 7, 7, 7)
			got := bmap.Set(room[:n], i, math.MaxUint32)
			if !bytes.Equal(got, sample(n)) || !bytes.Equal(room, append(sample(n), 7, 7, 7, 7)) {
				t.Error(n, i, got, room)
			}
		}
	}
	if got := bmap.Set(nil, 0, 5); len(got) != 0 {
		t.Error(got)
	}
	if got := bmap.Set([]byte{}, -1, 5); len(got) != 0 {
		t.Error(got)
	}
}

// P19.1: a block that is laid number by number has them all.
func TestSetOneBehindTheOther(t *testing.T) {
	b := make([]byte, 259)
	for turn := range uint32(3) {
		for i := range 64 {
			b = bmap.Set(b, (i*37)%64, turn*1000+uint32(i*37)%64)
		}
		for i := range 64 {
			if got := bmap.Get(b, i); got != turn*1000+uint32(i) {
				t.Error(turn, i, got)
			}
		}
	}
	if !bytes.Equal(b[256:], []byte{0, 0, 0}) {
		t.Error(b[256:])
	}
}

// P1 (rule 4): an answer of Set is new memory, also where there is no such number; the spare room of what is given stays.
func TestMemoryOfSet(t *testing.T) {
	for _, i := range []int{-1, 0, 1, 2, 3} {
		room := sample(16)
		b := room[:8:12]
		first, second := bmap.Set(b, i, 9), bmap.Set(b, i, 9)
		kept := slices.Clone(second)
		first[0], first[7] = 99, 99
		_ = append(first, 1, 2, 3, 4)
		if !bytes.Equal(room, sample(16)) || !bytes.Equal(second, kept) {
			t.Error(i, "answers have memory in common:", room, second)
		}
		clear(room)
		if !bytes.Equal(second, kept) {
			t.Error(i, "it kept what it was given:", second)
		}
	}
}
