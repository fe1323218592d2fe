package bmap_test

import (
	"math"
	"testing"

	"gabion/api"
	"gabion/bmap"
	"gabion/inode"
)

// way: a way as it is told.
func way(deep, at, then int) bmap.Way { return bmap.Way{Deep: deep, At: [2]int{at, then}} }

// P19.1: the ways to single blocks.
func TestFind(t *testing.T) {
	for _, x := range []struct {
		n, size int
		want    bmap.Way
	}{
		{0, 256, way(0, 0, 0)}, {1, 256, way(0, 1, 0)}, {7, 256, way(0, 7, 0)},
		{8, 256, way(1, 0, 0)}, {9, 256, way(1, 1, 0)}, {71, 256, way(1, 63, 0)},
		{72, 256, way(2, 0, 0)}, {73, 256, way(2, 0, 1)}, {135, 256, way(2, 0, 63)}, {136, 256, way(2, 1, 0)},
		{4166, 256, way(2, 63, 62)}, {4167, 256, way(2, 63, 63)},
		{7, 1024, way(0, 7, 0)}, {8, 1024, way(1, 0, 0)}, {263, 1024, way(1, 255, 0)},
		{264, 1024, way(2, 0, 0)}, {519, 1024, way(2, 0, 255)}, {520, 1024, way(2, 1, 0)}, {65799, 1024, way(2, 255, 255)},
		{71, 259, way(1, 63, 0)}, {72, 259, way(2, 0, 0)}, {4167, 259, way(2, 63, 63)}, // as of 256 bytes
		{72, 260, way(1, 64, 0)}, {73, 260, way(2, 0, 0)}, {4297, 260, way(2, 64, 64)},
		{262, 1023, way(1, 254, 0)}, {263, 1023, way(2, 0, 0)}, {65287, 1023, way(2, 254, 254)},
	} {
		if got, e := bmap.Find(x.n, x.size); e != api.OK || got != x.want {
			t.Error(x, got, e)
		}
	}
}

// all: the ways to a file's blocks, in order, as they are counted.
func all(size int) []bmap.Way {
	var l []bmap.Way
	k := size / 4
	for i := range 8 {
		l = append(l, way(0, i, 0))
	}
	for i := range k {
		l = append(l, way(1, i, 0))
	}
	for i := range k {
		for j := range k {
			l = append(l, way(2, i, j))
		}
	}
	return l
}

// P19.1, P19.2: all blocks of a file, of each size: the ways in order, no two alike; behind the last there is none.
func TestAllWays(t *testing.T) {
	for size := api.MinSize; size <= api.MaxSize; size++ {
		if size > 300 && size < 1000 && size%64 != 0 {
			continue
		}
		ways := all(size)
		seen := make(map[bmap.Way]int, len(ways))
		for n, want := range ways {
			got, e := bmap.Find(n, size)
			if e != api.OK || got != want {
				t.Fatal(size, n, got, e, want)
			}
			if other, ok := seen[got]; ok {
				t.Fatal(size, n, "goes as", other)
			}
			seen[got] = n
		}
		for _, n := range []int{len(ways), len(ways) + 1, 2 * len(ways), 1 << 31, 1 << 32, 1 << 62, math.MaxInt - 1, math.MaxInt} {
			if got, e := bmap.Find(n, size); e != api.FBig || got != (bmap.Way{}) {
				t.Error(size, n, got, e)
			}
		}
	}
}

// P19.1: the last block that there is is the one that layer 17's Most ends with.
func TestWaysReachAsFarAsFiles(t *testing.T) {
	for size := api.MinSize; size <= api.MaxSize; size += 64 {
		l, e := inode.Lay(100000, size)
		if e != api.OK {
			t.Fatal(size, e)
		}
		last := int(l.Most()/int64(size)) - 1
		if got, e := bmap.Find(last, size); e != api.OK || got != way(2, size/4-1, size/4-1) {
			t.Error(size, last, got, e)
		}
		if got, e := bmap.Find(last+1, size); e != api.FBig || got != (bmap.Way{}) {
			t.Error(size, last+1, got, e)
		}
	}
}

// P19.1: a block below 0, and sizes that may not be, ahead of FBig.
func TestFindRefuses(t *testing.T) {
	wrong := func(n, size int) {
		t.Helper()
		if got, e := bmap.Find(n, size); e != api.Range || got != (bmap.Way{}) {
			t.Error(n, size, got, e)
		}
	}
	blocks := []int{math.MinInt, math.MinInt32, -8, -1, 0, 7, 8, 72, 5000, 1 << 31, math.MaxInt}
	for _, size := range []int{math.MinInt, -1024, -256, -4, -1, 0, 1, 3, 4, 64, 252, 255, 1025, 1028, 4096, 1 << 31, 1<<32 + 256, math.MaxInt} {
		for _, n := range blocks {
			wrong(n, size)
		}
	}
	for _, size := range []int{256, 257, 320, 1023, 1024} {
		for _, n := range blocks {
			if n < 0 {
				wrong(n, size)
			}
		}
	}
}
