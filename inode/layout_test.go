package inode_test

import (
	"math"
	"testing"

	"gabion/api"
	"gabion/inode"
)

// sizes: all sizes that blocks may have.
func sizes() []int {
	var l []int
	for size := api.MinSize; size <= api.MaxSize; size += 64 {
		l = append(l, size)
	}
	return l
}

// reckoned: a layout out of the chapter, things counted into blocks one block behind the other; false: it hasn't room.
func reckoned(blocks, size int) (inode.Layout, bool) {
	l := inode.Layout{Blocks: blocks, Size: size}
	for l.Nodes < 16 || l.Nodes < blocks/4 {
		l.Bits++
		l.Nodes += size / 64
	}
	l.First = l.Bits
	for bits := 0; bits < blocks; bits += 8 * size {
		l.First++
	}
	return l, l.First+8 <= blocks
}

// lay: a layout that there is.
func lay(t *testing.T, blocks, size int) inode.Layout {
	t.Helper()
	l, e := inode.Lay(blocks, size)
	if e != api.OK {
		t.Fatal(blocks, size, e)
	}
	return l
}

// P17.1: the example, and layouts that were reckoned by hand.
func TestLay(t *testing.T) {
	for _, x := range []inode.Layout{
		{Nodes: 20, Bits: 5, First: 6, Blocks: 72, Size: 256},
		{Nodes: 16, Bits: 4, First: 5, Blocks: 13, Size: 256},
		{Nodes: 16, Bits: 4, First: 5, Blocks: 63, Size: 256},
		{Nodes: 16, Bits: 4, First: 5, Blocks: 64, Size: 256},
		{Nodes: 16, Bits: 4, First: 5, Blocks: 67, Size: 256},
		{Nodes: 20, Bits: 5, First: 6, Blocks: 68, Size: 256},
		{Nodes: 20, Bits: 5, First: 6, Blocks: 80, Size: 256},
		{Nodes: 20, Bits: 5, First: 6, Blocks: 83, Size: 256},
		{Nodes: 24, Bits: 6, First: 7, Blocks: 84, Size: 256},
		{Nodes: 512, Bits: 128, First: 129, Blocks: 2048, Size: 256},
		{Nodes: 512, Bits: 128, First: 130, Blocks: 2049, Size: 256},
		{Nodes: 20, Bits: 4, First: 5, Blocks: 63, Size: 320},
		{Nodes: 20, Bits: 4, First: 5, Blocks: 83, Size: 320},
		{Nodes: 25, Bits: 5, First: 6, Blocks: 84, Size: 320},
		{Nodes: 16, Bits: 2, First: 3, Blocks: 64, Size: 512},
		{Nodes: 30, Bits: 2, First: 3, Blocks: 64, Size: 960},
		{Nodes: 16, Bits: 1, First: 2, Blocks: 10, Size: 1024},
		{Nodes: 16, Bits: 1, First: 2, Blocks: 67, Size: 1024},
		{Nodes: 32, Bits: 2, First: 3, Blocks: 68, Size: 1024},
		{Nodes: 2048, Bits: 128, First: 129, Blocks: 8192, Size: 1024},
		{Nodes: 2064, Bits: 129, First: 131, Blocks: 8256, Size: 1024},
		{Nodes: 262144, Bits: 65536, First: 66048, Blocks: 1 << 20, Size: 256},
		{Nodes: 262144, Bits: 16384, First: 16512, Blocks: 1 << 20, Size: 1024},
	} {
		if l, e := inode.Lay(x.Blocks, x.Size); e != api.OK || l != x {
			t.Error(x, l, e)
		}
	}
}

// P17.1: all layouts of few blocks, and some of many, are as they were counted.
func TestLayIsAsCounted(t *testing.T) {
	for _, size := range sizes() {
		counts := []int{9999, 10000, 65535, 65536, 99999, 1<<20 - 1, 1 << 20}
		for n := 1; n < 700; n++ {
			counts = append(counts, n)
		}
		for k := 1; k < 4; k++ {
			counts = append(counts, 8*size*k-1, 8*size*k, 8*size*k+1)
		}
		for _, n := range counts {
			want, fits := reckoned(n, size)
			l, e := inode.Lay(n, size)
			if fits && (e != api.OK || l != want) {
				t.Error(n, size, l, e, want)
			}
			if !fits && (e != api.NoSpc || l != inode.Layout{}) {
				t.Error(n, size, l, e, "it hasn't room")
			}
		}
	}
}

// P17.1: the least count of blocks that fits, for each size, and one less.
func TestLayAtItsLeast(t *testing.T) {
	least := map[int]int{256: 13, 320: 13, 384: 12, 448: 12, 512: 11, 576: 11, 640: 11, 704: 11, 768: 11, 832: 11, 896: 11, 960: 11, 1024: 10}
	for _, size := range sizes() {
		n := least[size]
		if l, e := inode.Lay(n, size); e != api.OK || l.First+8 != n {
			t.Error(n, size, l, e)
		}
		for ; n > 1; n-- {
			if l, e := inode.Lay(n-1, size); e != api.NoSpc || l != (inode.Layout{}) {
				t.Error(n-1, size, l, e)
			}
		}
	}
}

// P17.1: counts and sizes that may not be, each alone and ahead of NoSpc.
func TestLayRefuses(t *testing.T) {
	wrong := func(blocks, size int) {
		t.Helper()
		if l, e := inode.Lay(blocks, size); e != api.Range || l != (inode.Layout{}) {
			t.Error(blocks, size, l, e)
		}
	}
	for _, size := range sizes() {
		for _, blocks := range []int{math.MinInt, math.MinInt32, -72, -1, 0, 1<<20 + 1, 1 << 21, 1<<32 + 72, math.MaxInt - 1, math.MaxInt} {
			wrong(blocks, size)
		}
		for off := 1; off < 64; off++ {
			wrong(72, size+off)
			wrong(72, size-off)
		}
	}
	for _, size := range []int{math.MinInt, -256, -64, -1, 0, 1, 4, 63, 64, 128, 192, 255, 257, 1000, 1023, 1025, 1088, 2048, 1<<32 + 256, math.MaxInt - 63, math.MaxInt} {
		for _, blocks := range []int{0, 1, 12, 72, 1 << 20, 1<<20 + 1} {
			wrong(blocks, size)
		}
	}
	if l, e := inode.Lay(1, 256); e != api.NoSpc || l != (inode.Layout{}) {
		t.Error(l, e)
	}
}

// P17.1: which block has an inode, and where.
func TestAt(t *testing.T) {
	l := lay(t, 72, 256)
	for _, x := range []struct {
		n         uint32
		block, at int
		ok        bool
	}{
		{0, 0, 0, false}, {inode.Root, 0, 0, true}, {2, 0, 64, true}, {3, 0, 128, true},
		{4, 0, 192, true}, {5, 1, 0, true}, {8, 1, 192, true}, {9, 2, 0, true},
		{17, 4, 0, true}, {20, 4, 192, true}, {21, 0, 0, false}, {22, 0, 0, false},
		{1 << 31, 0, 0, false}, {math.MaxUint32 - 1, 0, 0, false}, {math.MaxUint32, 0, 0, false},
	} {
		if block, at, ok := l.At(x.n); block != x.block || at != x.at || ok != x.ok {
			t.Error(x, block, at, ok)
		}
	}
	l = lay(t, 84, 320) // five inodes a block
	for _, x := range [][3]int{{5, 0, 256}, {6, 1, 0}, {10, 1, 256}, {11, 2, 0}, {25, 4, 256}} {
		if block, at, ok := l.At(uint32(x[0])); block != x[1] || at != x[2] || !ok {
			t.Error(x, block, at, ok)
		}
	}
	if block, at, ok := l.At(26); block != 0 || at != 0 || ok {
		t.Error(block, at, ok)
	}
}

// P17.1: which block has a block's bit, which byte of it, which bit of that.
func TestBit(t *testing.T) {
	for _, x := range []struct {
		blocks, size int
		b            uint32
		block, at    int
		bit          uint
	}{
		{72, 256, 0, 5, 0, 0}, {72, 256, 1, 5, 0, 1}, {72, 256, 7, 5, 0, 7}, {72, 256, 8, 5, 1, 0},
		{72, 256, 71, 5, 8, 7}, {72, 256, 72, 5, 9, 0}, // the last block, and one behind it
		{3000, 256, 2047, 188, 255, 7}, {3000, 256, 2048, 189, 0, 0}, {3000, 256, 2999, 189, 118, 7},
		{9000, 1024, 8191, 141, 1023, 7}, {9000, 1024, 8192, 142, 0, 0}, {9000, 1024, 8199, 142, 0, 7},
		{6000, 320, 2559, 300, 319, 7}, {6000, 320, 2560, 301, 0, 0}, {6000, 320, 5119, 301, 319, 7}, {6000, 320, 5120, 302, 0, 0},
		{1 << 20, 256, 1<<20 - 1, 66047, 255, 7}, {1 << 20, 256, 1 << 20, 66048, 0, 0},
	} {
		l := lay(t, x.blocks, x.size)
		if block, at, bit := l.Bit(x.b); block != x.block || at != x.at || bit != x.bit {
			t.Error(x, l, block, at, bit)
		}
	}
}

// P17.3: no two inodes, and no two bits, have a place in common; the inodes' blocks stand ahead of the bits', and these ahead of First.
func TestPlacesAreApart(t *testing.T) {
	for _, size := range sizes() {
		for _, blocks := range []int{13, 63, 64, 67, 68, 72, 333, 8*size - 1, 8 * size, 8*size + 1, 20000} {
			l := lay(t, blocks, size)
			apart(t, l)
		}
	}
}

// apart: have all inodes and bits of a layout places of their own?
func apart(t *testing.T, l inode.Layout) {
	t.Helper()
	bytes := make([]bool, l.First*l.Size)
	for n := 1; n <= l.Nodes; n++ {
		block, at, ok := l.At(uint32(n))
		if !ok || block < 0 || block >= l.Bits || at < 0 || at+inode.Size > l.Size {
			t.Fatal(l, n, block, at, ok)
		}
		for i := range inode.Size {
			place := block*l.Size + at + i
			if bytes[place] {
				t.Fatal(l, n, "has a byte of another one")
			}
			bytes[place] = true
		}
	}
	bits := make([]bool, 8*l.First*l.Size)
	for b := range l.Blocks {
		block, at, bit := l.Bit(uint32(b))
		if block < l.Bits || block >= l.First || at < 0 || at >= l.Size || bit > 7 {
			t.Fatal(l, b, block, at, bit)
		}
		place := block*l.Size + at
		if bits[8*place+int(bit)] || bytes[place] {
			t.Fatal(l, b, "has another one's bit")
		}
		bits[8*place+int(bit)] = true
	}
	if l.First+8 > l.Blocks {
		t.Fatal(l, "leaves no room")
	}
}

// P17.1: how many bytes a file can have, of each size of blocks; of no other number.
func TestMost(t *testing.T) {
	want := map[int]int64{
		256: 1067008, 320: 2076160, 384: 3578880, 448: 5673472, 512: 8458240, 576: 12031488, 640: 16491520,
		704: 21936640, 768: 28465152, 832: 36175360, 896: 45165568, 960: 55534080, 1024: 67379200,
	}
	for _, size := range sizes() {
		for _, blocks := range []int{13, 72, 1 << 20} {
			if got := lay(t, blocks, size).Most(); got != want[size] {
				t.Error(size, blocks, got)
			}
		}
	}
	// Blocks that Lay answers aren't so large that the bound is met.
	if got := (inode.Layout{Size: 4096}).Most(); got != 1<<31 {
		t.Error(got)
	}
}

// P1 (rule 6): of layouts that Lay doesn't answer each call ends all the same.
func TestOtherLayouts(t *testing.T) {
	numbers := []int{math.MinInt, -64, -1, 0, 1, 4, 63, 64, 65, 1 << 32, 1 << 61, 1 << 62, math.MaxInt}
	for _, size := range numbers {
		for _, x := range numbers {
			l := inode.Layout{Nodes: x, Bits: x, First: x, Blocks: x, Size: size}
			l.Most()
			for _, n := range []uint32{0, 1, 2, 64, 1 << 31, math.MaxUint32} {
				l.Bit(n)
				if block, at, ok := l.At(n); !ok && (block != 0 || at != 0) {
					t.Error(l, n, block, at)
				}
			}
		}
	}
	if block, at, ok := (inode.Layout{}).At(1); block != 0 || at != 0 || ok {
		t.Error(block, at, ok)
	}
}
