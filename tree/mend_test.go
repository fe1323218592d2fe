package tree_test

import (
	"bytes"
	"maps"
	"math"
	"slices"
	"testing"

	"gabion/api"
	"gabion/inode"
	"gabion/store"
)

// store1 is one block with its bytes.
func store1(b uint32, data []byte) store.Item { return store.Item{Block: b, Data: data} }

// P20.1: counts of names become others; below 1 an inode is given up, with its blocks; marks of blocks become others.
func TestMend(t *testing.T) {
	r := garden(t)
	h, d := r.number("/h"), r.number("/d")
	node := r.node(h)
	links := map[uint32]int{h: 7, d: 150, r.number("/most"): math.MaxUint16, 1: 1}
	used := map[uint32]bool{0: false, 21: false, 22: false, 400: true, 407: true}
	was, marks := maps.Clone(links), maps.Clone(used)
	for range 2 {
		r.ok("Mend", r.Mend(links, used))
		if !maps.Equal(links, was) || !maps.Equal(used, marks) {
			t.Error("what was handed in is changed")
		}
		for n, many := range links {
			if x := r.node(n); int(x.Links) != many {
				t.Error(n, x, "want", many)
			}
		}
		for b, want := range used {
			if is, e := r.Used(b); is != want || e != api.OK {
				t.Error("block", b, is, e)
			}
		}
		if is, e := r.Used(20); !is || e != api.OK {
			t.Error("block 20:", is, e)
		}
		x := node
		x.Links = 7
		if r.node(h) != x {
			t.Error("more than the count was changed:", r.node(h), node)
		}
		r.sync()
		r = r.again()
	}
	r.holds("/h", append(make([]byte, 100), ink(500, 2)...))
	r.ok("Mend", r.Mend(nil, map[uint32]bool{0: true, 21: true, 22: true, 400: false, 407: false}))
	blocks, nodes, _ := r.Space()
	// Given up: a file with its blocks, one of none, a folder; their names stay.
	for i, n := range []uint32{h, r.number("/most"), d} {
		r.ok("Mend", r.Mend(map[uint32]int{n: []int{0, -1, math.MinInt}[i]}, map[uint32]bool{}))
		if x := r.node(n); x != (inode.Inode{}) {
			t.Error(n, "is", x)
		}
	}
	r.space("given up:", blocks+2+1, nodes+3)
	if r.number("/h") != h || r.number("/d") != d {
		t.Error("their names are gone")
	}
	// What is free stays so, whatever its count.
	r.refuse("Mend", api.OK, func() api.Errno { return r.Mend(map[uint32]int{h: 3, d: 0, 100: 200, 101: -5}, nil) })
	r.refuse("Mend", api.OK, func() api.Errno { return r.Mend(nil, nil) })
	r.refuse("Mend", api.OK, func() api.Errno { return r.Mend(map[uint32]int{}, map[uint32]bool{}) })
}

// P20.1: an inode that can't be read is free.
func TestMendOfWhatIsSpoilt(t *testing.T) {
	for _, many := range []int{0, 1, -3} {
		r := garden(t)
		n := r.number("/h")
		_, nodes, _ := r.Space()
		r.forge(n, ink(64, 1))
		if x, e := r.Node(n); e != api.Form || x != (inode.Inode{}) {
			t.Error("Node", x, e)
		}
		if _, is, e := r.Space(); is != nodes || e != api.OK {
			t.Error("it isn't free yet:", is, nodes, e)
		}
		r.ok("Mend", r.Mend(map[uint32]int{n: many}, nil))
		if x := r.node(n); x != (inode.Inode{}) {
			t.Error("it is", x)
		}
		if _, is, _ := r.Space(); is != nodes+1 {
			t.Error("it is free:", is, nodes)
		}
	}
}

// P20.2: numbers that are none: nothing is changed, of the others neither.
func TestMendErrors(t *testing.T) {
	r := garden(t)
	nodes, blocks := uint32(r.Layout().Nodes), uint32(r.Layout().Blocks)
	for _, links := range []map[uint32]int{{0: 1}, {0: 0, 2: 5}, {2: 0, nodes + 1: 5}, {2: 5, math.MaxUint32: 1}, {2: 5, 3: math.MaxUint16 + 1}, {2: math.MaxInt}} {
		r.refuse("Mend", api.Range, func() api.Errno { return r.Mend(links, map[uint32]bool{30: true}) })
	}
	for _, used := range []map[uint32]bool{{blocks: true}, {30: true, blocks: false}, {30: true, math.MaxUint32: false}} {
		r.refuse("Mend", api.Range, func() api.Errno { return r.Mend(map[uint32]int{2: 0}, used) })
	}
	r.ok("Mend", r.Mend(map[uint32]int{nodes: 0}, map[uint32]bool{blocks - 1: true}))
}

// P20.1: each one by one: more of them than may wait at once.
func TestMendMuch(t *testing.T) {
	r := plant(t, great)
	links := map[uint32]int{}
	r.folders("", 150)
	for n := uint32(2); n < 152; n++ {
		links[n] = int(n)
	}
	r.sync()
	used := map[uint32]bool{}
	for b := uint32(r.Layout().First); int(b) < r.Layout().Blocks; b++ {
		used[b] = true
	}
	r.ok("Mend", r.Mend(links, used))
	if r.Waiting() > api.MaxBatch {
		t.Error(r.Waiting(), "wait")
	}
	r.sync()
	r = r.again()
	for n, many := range links {
		if x := r.node(n); int(x.Links) != many {
			t.Error(n, x)
		}
		links[n] = 0
	}
	if r.free() != 0 {
		t.Error("free are", r.free())
	}
	clear(used)
	r.ok("Mend", r.Mend(links, used))
	r.space("all given up:", 0, r.Layout().Nodes-1)
}

// P20.1: a file that has blocks that no file has, or that another one has, is given up all the same; what stands ahead of files' blocks stays.
func TestMendOfOddBlocks(t *testing.T) {
	r := garden(t)
	h := r.number("/h")
	x := r.node(h)
	x.Direct = [8]uint32{2, 21, 408, math.MaxUint32, x.Direct[0], x.Direct[0], 22, 0}
	x.Single, x.Double = 5, 9999
	r.forge(h, x.Encode())
	r.ok("Mend", r.Mend(map[uint32]int{h: 0}, nil))
	if r.node(h) != (inode.Inode{}) {
		t.Error("it is", r.node(h))
	}
	for b := range uint32(22) {
		if used, e := r.Used(b); !used || e != api.OK {
			t.Error("block", b, used, e)
		}
	}
	r.sync()
	if y := r.again(); y.node(1) != r.node(1) || y.node(2) != r.node(2) {
		t.Error("inodes were given up")
	}
	// A block that names itself.
	r = garden(t)
	n := r.number("/h")
	x = r.node(n)
	b := x.Direct[0]
	x.Single, x.Double = b, b
	r.forge(n, x.Encode())
	r.laid(store1(b, bytes.Repeat([]byte{byte(b), 0, 0, 0}, 80)))
	r.ok("Mend", r.Mend(map[uint32]int{n: 0}, nil))
	if r.node(n) != (inode.Inode{}) {
		t.Error("it is", r.node(n))
	}
}

// P20.1: inodes, marks and blocks by their numbers, at their edges and beyond.
func TestNumbers(t *testing.T) {
	for _, g := range []api.Geo{small, least, some, broad} {
		r := plant(t, g)
		l := r.Layout()
		r.file("/f")
		for _, n := range []uint32{0, uint32(l.Nodes) + 1, uint32(l.Nodes) + 2, 1 << 31, math.MaxUint32} {
			if x, e := r.Node(n); x != (inode.Inode{}) || e != api.Range {
				t.Error(g, "Node", n, x, e)
			}
		}
		if x, e := r.Node(uint32(l.Nodes)); x != (inode.Inode{}) || e != api.OK {
			t.Error(g, "the last one:", x, e)
		}
		if x, e := r.Node(1); x.Kind != inode.Folder || e != api.OK {
			t.Error(g, "the root:", x, e)
		}
		for _, b := range []uint32{uint32(l.Blocks), uint32(l.Blocks) + 1, uint32(8 * g.Size * (l.First - l.Bits)), 1 << 31, math.MaxUint32} {
			if used, e := r.Used(b); used || e != api.Range {
				t.Error(g, "Used", b, used, e)
			}
			if data, e := r.Block(b); data != nil || e != api.Range {
				t.Error(g, "Block", b, data, e)
			}
		}
		for b, want := range map[uint32]bool{0: true, uint32(l.First) - 1: true, uint32(l.First): true, uint32(l.First) + 1: false, uint32(l.Blocks) - 1: false} {
			if used, e := r.Used(b); used != want || e != api.OK {
				t.Error(g, "Used", b, used, e)
			}
			if data, e := r.Block(b); len(data) != g.Size || e != api.OK {
				t.Error(g, "Block", b, len(data), e)
			}
		}
		// What waits is answered as it is now.
		data, _ := r.Block(uint32(l.First))
		if want := append(entry(t, 2, "f"), make([]byte, g.Size-32)...); !bytes.Equal(data, want) {
			t.Error(g, "the root's block:", data)
		}
		if data, _ := r.s.Get(uint32(l.First)); !bytes.Equal(data, make([]byte, g.Size)) {
			t.Error(g, "it was written")
		}
	}
}

// Rule 4: an answer is new memory.
func TestNewMemory(t *testing.T) {
	r := garden(t)
	n := r.number("/h")
	r.write(n, 0, ink(700, 4))
	was := r.image()
	for round := range 2 {
		spoil := func(b []byte, e api.Errno) {
			t.Helper()
			r.ok("an answer", e)
			for i := range b[:cap(b)] {
				b[:cap(b)][i] ^= 255
			}
		}
		for b := range uint32(r.Layout().Blocks) {
			spoil(r.Block(b))
		}
		for at := range int64(3) {
			spoil(r.ReadAt(n, at*320, 320))
			spoil(r.ReadAt(n, at, api.MaxIO))
		}
		if round == 0 && r.image() != was {
			t.Error("what waits is changed")
		}
		r.sync()
	}
	y := r.again()
	if !slices.Equal(y.paths("/"), r.paths("/")) {
		t.Error("it is", y.paths("/"))
	}
	y.holds("/h", ink(700, 4))
}

// Files with blocks that no file has: what is ahead of files' blocks isn't written; nothing panics.
func TestOddBlocks(t *testing.T) {
	for _, odd := range []uint32{1, 5, 21, 408, math.MaxUint32} {
		r := garden(t)
		h, d := r.number("/h"), r.number("/d")
		x, y := r.node(h), r.node(d)
		x.Direct[0], x.Single, x.Double, x.Size = odd, odd, odd, 100*320
		y.Direct[0] = odd
		r.forge(h, x.Encode())
		r.forge(d, y.Encode())
		for _, at := range []int64{0, 9 * 320, 90 * 320} {
			for _, n := range []int{1, 320} {
				r.refuse("WriteAt", api.Form, func() api.Errno { return r.WriteAt(h, at, ink(n, 1)) })
			}
			if b, e := r.ReadAt(h, at, 5); (e == api.OK) != (len(b) > 0) || odd > 400 && e != api.Range {
				t.Error("ReadAt", odd, at, b, e)
			}
		}
		if _, _, e := r.Find("/d/f"); e == api.OK || e == api.NoSpc {
			t.Error("Find", odd, e)
		}
		if _, e := r.Create("/d/new"); e == api.NoSpc {
			t.Error("Create", odd, e)
		}
		r.ok("Truncate", r.Truncate(h, 0))
		r.ok("Unlink", r.Unlink("/h"))
		for b := range uint32(22) {
			if used, e := r.Used(b); !used || e != api.OK {
				t.Error("block", b, used, e)
			}
		}
	}
	// Sizes beyond all.
	r := garden(t)
	h := r.number("/h")
	x := r.node(h)
	x.Size = math.MaxUint32
	r.forge(h, x.Encode())
	for _, at := range []int64{0, 320 * 8, 1 << 31, 1<<31 + 1, math.MaxUint32 - 1, math.MaxUint32} {
		if b, e := r.ReadAt(h, at, 5); (len(b) == 5) != (e == api.OK && at < math.MaxUint32-5) {
			t.Error("ReadAt", at, b, e)
		}
	}
	r.write(h, 50, []byte{1})
	r.ok("Truncate", r.Truncate(h, 60))
	r.reads(h, 49, 5, []byte{0, 1, 0, 0, 0})
	if r.node(h).Size != 60 {
		t.Error(r.node(h))
	}
}

// P20.1: a folder that has as many bytes as there may be has room for no name more. (So that it needs few blocks all its names are those of one of them.)
func TestFolderOfMostBytes(t *testing.T) {
	r := plant(t, small)
	r.folder("/d")
	d, f := r.number("/d"), r.file("/f")
	var full []byte
	for i := range 8 {
		full = append(full, entry(t, f, string(rune('a'+i)))...)
	}
	r.sync()
	numbers := func(b byte) []byte { return bytes.Repeat([]byte{b, 0, 0, 0}, 64) }
	r.laid(store1(10, full), store1(11, numbers(10)), store1(12, numbers(11)))
	x := inode.Inode{Kind: inode.Folder, Links: 2, Size: uint32(r.Layout().Most()), Single: 11, Double: 12, Direct: [8]uint32{10, 10, 10, 10, 10, 10, 10, 10}}
	r.forge(d, x.Encode())
	r.ok("Mend", r.Mend(nil, map[uint32]bool{10: true, 11: true, 12: true}))
	if l := r.slots("/d"); len(l) != 33344 {
		t.Error(len(l), "names")
	}
	r.refuse("Create", api.NoSpc, func() api.Errno { return zero(t, r.Create, "/d/new") })
	r.refuse("Mkdir", api.NoSpc, func() api.Errno { return zero(t, r.Mkdir, "/d/new") })
	r.refuse("Link", api.NoSpc, func() api.Errno { return r.Link("/f", "/d/new") })
	r.refuse("Rename", api.NoSpc, func() api.Errno { return r.Rename("/f", "/d/new") })
	r.refuse("Create", api.Exist, func() api.Errno { return zero(t, r.Create, "/d/h") })
}

// A name of an inode that is free: no more names are made of it, and it may go.
func TestNameOfNothing(t *testing.T) {
	r := garden(t)
	h := r.number("/h")
	r.ok("Mend", r.Mend(map[uint32]int{h: 0}, nil))
	if n, x, e := r.Find("/h"); n != h || x != (inode.Inode{}) || e != api.OK {
		t.Error("Find", n, x, e)
	}
	r.refuse("Link", api.Form, func() api.Errno { return r.Link("/h", "/new") })
	r.refuse("Create", api.Exist, func() api.Errno { return zero(t, r.Create, "/h") })
	r.refuse("Rmdir", api.NotDir, func() api.Errno { return r.Rmdir("/h") })
	r.refuse("Find", api.NotDir, func() api.Errno { _, _, e := r.Find("/h/x"); return e })
	r.ok("Unlink", r.Unlink("/h"))
	r.listed("/", "/", "/d", "/d/e", "/d/f", "/full", "/full/x", "/g", "/most")
	r.whole("it is gone")
}
