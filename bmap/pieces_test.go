package bmap_test

import (
	"math"
	"slices"
	"testing"

	"gabion/api"
	"gabion/bmap"
)

// P19.1: the parts of bytes, block by block.
func TestPieces(t *testing.T) {
	for _, x := range []struct {
		at, n int64
		size  int
		want  []bmap.Piece
	}{
		{0, 0, 256, nil}, {5, 0, 256, nil}, {256, 0, 256, nil}, {1 << 31, 0, 1, nil},
		{0, 1, 256, []bmap.Piece{{0, 0, 1}}},
		{5, 10, 256, []bmap.Piece{{0, 5, 10}}},
		{300, 10, 256, []bmap.Piece{{1, 44, 10}}},
		{0, 256, 256, []bmap.Piece{{0, 0, 256}}},
		{250, 6, 256, []bmap.Piece{{0, 250, 6}}}, // up to a block's end
		{250, 7, 256, []bmap.Piece{{0, 250, 6}, {1, 0, 1}}},
		{255, 1, 256, []bmap.Piece{{0, 255, 1}}},
		{256, 1, 256, []bmap.Piece{{1, 0, 1}}},
		{255, 2, 256, []bmap.Piece{{0, 255, 1}, {1, 0, 1}}},
		{10, 1024, 256, []bmap.Piece{{0, 10, 246}, {1, 0, 256}, {2, 0, 256}, {3, 0, 256}, {4, 0, 10}}},
		{512, 512, 256, []bmap.Piece{{2, 0, 256}, {3, 0, 256}}},
		{1000, 1024, 1024, []bmap.Piece{{0, 1000, 24}, {1, 0, 1000}}},
		{100, 500, 333, []bmap.Piece{{0, 100, 233}, {1, 0, 267}}},
		{3, 3, 1, []bmap.Piece{{3, 0, 1}, {4, 0, 1}, {5, 0, 1}}},
		{7, 1 << 20, math.MaxInt, []bmap.Piece{{0, 7, 1 << 20}}},
		{1 << 31, 1 << 20, 1 << 30, []bmap.Piece{{2, 0, 1 << 20}}},
		{1 << 31, 1, 1, []bmap.Piece{{1 << 31, 0, 1}}},
		{1<<31 - 1, 2, 256, []bmap.Piece{{1<<23 - 1, 255, 1}, {1 << 23, 0, 1}}},
		{1 << 31, 1 << 20, 1 << 20, []bmap.Piece{{2048, 0, 1 << 20}}},
	} {
		if got, e := bmap.Pieces(x.at, x.n, x.size); e != api.OK || !slices.Equal(got, x.want) {
			t.Error(x, got, e)
		}
	}
}

// right: are pieces, one behind the other, the bytes, and is none larger than it must be, or empty?
func right(t *testing.T, at, n int64, size int) {
	t.Helper()
	l, e := bmap.Pieces(at, n, size)
	if e != api.OK {
		t.Error(at, n, size, e)
		return
	}
	next := at
	for i, p := range l {
		if int64(p.Block)*int64(size)+int64(p.From) != next || p.From < 0 || p.From >= size || p.Size < 1 || p.Size > size-p.From {
			t.Error(at, n, size, "piece", i, p)
			return
		}
		next += int64(p.Size)
		if i > 0 && (p.From != 0 || p.Block != l[i-1].Block+1) {
			t.Error(at, n, size, "a block comes twice, or not at all:", l[i-1], p)
		}
	}
	if next != at+n {
		t.Error(at, n, size, "they end at", next)
	}
}

// P19.3: pieces, one behind the other, are the bytes.
func TestPiecesAreTheBytes(t *testing.T) {
	for _, size := range []int{1, 2, 3, 7, 8} {
		for at := range int64(20) {
			for n := range int64(40) {
				right(t, at, n, size)
			}
		}
	}
	for _, size := range []int{1, 64, 255, 256, 257, 320, 1000, 1024, 1 << 20, 1<<31 - 1, 1 << 31, 1 << 40, math.MaxInt} {
		for _, at := range []int64{0, 1, 255, 256, 257, 1023, 1024, 1<<20 - 1, 1<<31 - 1025, 1<<31 - 1, 1 << 31} {
			for _, n := range []int64{0, 1, 255, 256, 257, 1023, 1024, 1025, 1<<20 - 1, 1 << 20} {
				right(t, at, n, size)
			}
		}
	}
}

// P19.1: numbers at their least and most, and one beyond.
func TestPiecesRefuses(t *testing.T) {
	for _, x := range []struct {
		at, n int64
		size  int
		want  api.Errno
	}{
		{-1, 0, 256, api.Range}, {0, 0, 256, api.OK}, {1 << 31, 0, 256, api.OK}, {1<<31 + 1, 0, 256, api.Range},
		{-1, 1, 256, api.Range}, {1 << 31, 1, 256, api.OK}, {1<<31 + 1, 1, 256, api.Range},
		{0, -1, 256, api.Range}, {0, 1 << 20, 256, api.OK}, {0, 1<<20 + 1, 256, api.Range},
		{1 << 31, 1 << 20, 256, api.OK}, {1<<31 + 1, 1<<20 + 1, 256, api.Range},
		{0, 1, 1, api.OK}, {0, 1, 0, api.Range}, {0, 0, 0, api.Range}, {0, 1, -1, api.Range}, {0, 1, -256, api.Range},
		{0, 1, math.MinInt, api.Range}, {0, 1, math.MaxInt, api.OK},
		{math.MinInt64, 1, 256, api.Range}, {math.MaxInt64, 1, 256, api.Range},
		{0, math.MinInt64, 256, api.Range}, {0, math.MaxInt64, 256, api.Range},
		{math.MaxInt64, math.MaxInt64, math.MaxInt, api.Range}, {1<<32 + 5, 1, 256, api.Range}, {0, 1<<32 + 5, 256, api.Range},
	} {
		l, e := bmap.Pieces(x.at, x.n, x.size)
		if e != x.want || e != api.OK && len(l) != 0 {
			t.Error(x, len(l), e)
		}
	}
}

// P19.1: how many blocks hold so many bytes.
func TestBlocks(t *testing.T) {
	for _, x := range []struct {
		n    int64
		size int
		want int64
	}{
		{0, 256, 0}, {1, 256, 1}, {255, 256, 1}, {256, 256, 1}, {257, 256, 2}, {512, 256, 2}, {513, 256, 3},
		{1024, 1024, 1}, {1025, 1024, 2}, {1 << 31, 256, 1 << 23}, {1<<31 + 1, 256, 1<<23 + 1}, {999, 333, 3}, {1000, 333, 4},
		{1, 1, 1}, {7, 1, 7}, {math.MaxInt64, 1, math.MaxInt64}, {math.MaxInt64, 2, 1 << 62}, {math.MaxInt64, 256, 1 << 55},
		{math.MaxInt64 - 1, math.MaxInt, 1}, {math.MaxInt64, math.MaxInt, 1}, {math.MaxInt64, math.MaxInt - 1, 2}, {1, math.MaxInt, 1},
		{-1, 256, 0}, {-257, 256, 0}, {math.MinInt64, 256, 0}, {math.MinInt64, 1, 0},
		{5, 0, 0}, {0, 0, 0}, {5, -1, 0}, {5, -256, 0}, {5, math.MinInt, 0}, {-5, -2, 0}, {math.MinInt64, -1, 0}, {math.MinInt64, math.MinInt, 0},
	} {
		if got := bmap.Blocks(x.n, x.size); got != x.want {
			t.Error(x, got)
		}
	}
	for size := 1; size < 20; size++ {
		held := int64(0) // blocks are taken as bytes need them
		for n := int64(1); n < 200; n++ {
			if held*int64(size) < n {
				held++
			}
			if got := bmap.Blocks(n, size); got != held {
				t.Error(n, size, got, held)
			}
		}
	}
}

// P19.3: bytes from a file's beginning on have as many pieces as blocks hold them.
func TestPiecesAndBlocks(t *testing.T) {
	for _, size := range []int{1, 3, 256, 257, 1024, 1 << 21} {
		for _, n := range []int64{0, 1, 255, 256, 257, 511, 512, 513, 1024, 1025, 1 << 20} {
			if l, e := bmap.Pieces(0, n, size); e != api.OK || int64(len(l)) != bmap.Blocks(n, size) {
				t.Error(n, size, len(l), e)
			}
		}
	}
}

// P1 (rule 4): an answer is new memory.
func TestMemoryOfPieces(t *testing.T) {
	first, _ := bmap.Pieces(10, 1000, 256)
	second, _ := bmap.Pieces(10, 1000, 256)
	want := slices.Clone(second)
	clear(first)
	_ = append(first, bmap.Piece{})
	if third, e := bmap.Pieces(10, 1000, 256); e != api.OK || !slices.Equal(second, want) || !slices.Equal(third, want) {
		t.Error("answers have memory in common:", second, third)
	}
}
