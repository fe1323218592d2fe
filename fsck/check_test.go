package fsck_test

import (
	"fmt"
	"math"
	"slices"
	"strings"
	"testing"

	"gabion/api"
	"gabion/array"
	"gabion/dirent"
	"gabion/fsck"
	"gabion/inode"
	"gabion/nand"
	"gabion/store"
	"gabion/tree"
)

// Example 1: a block that is marked, and that nobody has: Lost.
func TestExample(t *testing.T) {
	r := plant(t, small)
	r.mark(r.block(3), true)
	r.shows("a mark:", []string{"/"}, lost(r.block(3)))
}

// P22.2: nothing is wrong with a tree that its own calls changed; all paths, in order of their bytes, a file with several names under each.
func TestNothingIsWrong(t *testing.T) {
	for _, shape := range []api.Geo{small, some, broad, great} {
		r := plant(t, shape)
		r.shows("a root alone:", []string{"/"})
		r = garden(t, shape)
		r.shows("a garden:", paths())
		// As it is now, whether it is written or not.
		r.ok("Rename", r.Rename("/a", "/d/x"))
		r.ok("Unlink", r.Unlink("/z"))
		r.ok("Truncate", r.Truncate(f, 100))
		r.ok("Link", r.Link("/d/g", "/d/x/b/g"))
		r.file("/d/x.", 0, 300)
		r.file("/ä", 0, 1)
		r.file("/Z", 0, 0)
		l := []string{"/", "/Z", "/d", "/d/g", "/d/x", "/d/x.", "/d/x/b", "/d/x/b/g", "/d/x/f", "/e", "/ä"}
		r.shows("another one:", l)
		r.sync()
		r.shows("written:", l)
		r.mends("nothing", 0)
		r.shows("not mended:", l)
	}
}

// P22.2: as many names as may be, of a file and of a folder; a file with blocks of all ways.
func TestNothingIsWrongWithMuch(t *testing.T) {
	r := plant(t, great)
	all := []string{"/", "/d", "/f"}
	r.folder("/d", 0)
	r.file("/f", 0, 1)
	for i := range api.MaxLinks - 2 {
		p := fmt.Sprint("/d/", i)
		r.folder(p, 0)
		r.ok("Link", r.Link("/f", p+"/f"))
		all = append(all, p, p+"/f")
	}
	n, e := r.Create("/big")
	r.ok("Create", e)
	all = append(all, "/big")
	size := int64(great.Size)
	for _, at := range []int64{0, 8, 71, 72, 135, 136, 4000} {
		r.ok("WriteAt", r.WriteAt(n, at*size, ink(300, int(at))))
	}
	slices.Sort(all)
	r.shows("much:", all)
	r.ok("Truncate", r.Truncate(n, 73*size))
	r.shows("less:", all)
	r.ok("Unlink", r.Unlink("/big"))
	r.shows("none:", slices.DeleteFunc(all, func(p string) bool { return p == "/big" }))
}

// P22.2: what stands deeper than a path may be.
func TestDeep(t *testing.T) {
	r := plant(t, great)
	in, all := "", []string{"/"}
	for range 12 {
		in += "/x"
		r.folder(in, 0)
	}
	for i := range 9 {
		from := fmt.Sprint("/y", i)
		r.folder(from, 0)
		r.ok("Rename", r.Rename("/x", from+"/x"))
		r.ok("Rename", r.Rename(from, "/x"))
	}
	for i := range 21 {
		all = append(all, strings.Repeat("/x", i+1))
	}
	r.shows("deep:", all)
}

// P22.1: no tree; and errors of the tree.
func TestCheckErrors(t *testing.T) {
	for _, y := range []*tree.Tree{nil, {}} {
		if l, paths, e := fsck.Check(y); l != nil || paths != nil || e != api.Nil {
			t.Error(l, paths, e)
		}
		if n, e := fsck.Mend(y); n != 0 || e != api.Nil {
			t.Error(n, e)
		}
	}
	r := garden(t, small)
	r.mark(r.block(30), true)
	from := r.a.Ops()
	r.wrong("plain:", lost(r.block(30)))
	for op := 1; op < r.a.Ops()-from; op += 3 {
		again := func(events ...nand.Event) *rig {
			a := r.a.Copy(events...)
			x, e := array.Open(a)
			r.ok("Open", e)
			s, e := store.Mount(x)
			r.ok("Mount", e)
			y, e := tree.Mount(s, small.Size)
			r.ok("Mount", e)
			return &rig{t: t, a: a, s: s, Tree: y}
		}
		from := again().a.Ops()
		k := again(nand.Event{Op: from + op, Kind: nand.Crash})
		if l, paths, e := fsck.Check(k.Tree); e != api.Crash && k.a.Ops() >= from+op || e == api.Crash && (l != nil || paths != nil) {
			t.Error(op, l, paths, e)
		}
		k = again(nand.Event{Op: from + op, Kind: nand.Crash})
		if n, e := fsck.Mend(k.Tree); e != api.Crash && k.a.Ops() >= from+op || e == api.Crash && n != 0 {
			t.Error(op, n, e)
		}
	}
}

// P22.1: Unread: an inode that can't be decoded, with a name or without one, or that isn't there.
func TestUnreadInodes(t *testing.T) {
	r := garden(t, small)
	r.bytes(e, ink(64, 1))
	r.shows("a file:", paths(), unread(e))
	r.bytes(nobody, ink(64, 2))
	r.shows("one without a name, too:", paths(), unread(e), unread(nobody))
	r.mends("unread", 0, unread(e), unread(nobody))

	r = garden(t, small)
	r.bytes(f, []byte{3})
	r.shows("a file with blocks:", paths(), append([]fsck.Trouble{unread(f)}, r.lostAll(2, 13)...)...)
	r.mends("its blocks", 11, unread(f))

	r = garden(t, small)
	r.bytes(d, []byte{2, 1})
	r.shows("a folder:", []string{"/", "/a", "/a/b", "/a/f", "/d", "/e", "/z"}, unread(d), count(root), orphan(g), lost(r.block(13)), lost(r.block(14)))

	r = garden(t, small)
	far := uint32(r.Layout().Nodes + 1)
	r.entry(root, 4, far, "far")
	r.entry(root, 5, math.MaxUint32, "farther")
	r.entry(d, 1, far, "far")
	r.shows("what isn't there:", []string{"/", "/a", "/a/b", "/a/f", "/d", "/d/far", "/d/g", "/e", "/far", "/farther", "/z"}, unread(far), unread(math.MaxUint32))
	r.mends("what isn't there", 0, unread(far), unread(math.MaxUint32))
	r.bytes(root, ink(64, 2))
	l := []fsck.Trouble{unread(root)}
	for n := uint32(a); n <= g; n++ {
		l = append(l, orphan(n))
	}
	r.shows("the root:", []string{"/"}, append(l, r.lostAll(0, 15)...)...)
}

// P22.1: Unread: a folder's entries can't be read; what they named has no name.
func TestUnreadFolders(t *testing.T) {
	without := []string{"/", "/a", "/a/b", "/a/f", "/d", "/e", "/z"}
	for what, by := range map[string]func(r *rig){
		"no entry":                     func(r *rig) { r.spoilt(d, 0, ink(32, 1)) },
		"no entry behind one":          func(r *rig) { r.spoilt(d, 3, ink(32, 1)) },
		"a name that may not be":       func(r *rig) { r.spoilt(d, 0, append([]byte{g, 0, 0, 0, 1, '/'}, make([]byte, 26)...)) },
		"a node without a name":        func(r *rig) { r.spoilt(d, 0, append([]byte{g, 0, 0, 0, 0, 0}, make([]byte, 26)...)) },
		"a name without a node":        func(r *rig) { r.spoilt(d, 1, append([]byte{0, 0, 0, 0, 1, 'a'}, make([]byte, 26)...)) },
		"more bytes than there may be": func(r *rig) { r.node(d, func(x *inode.Inode) { x.Size = math.MaxUint32 }) },
		"just one more":                func(r *rig) { r.node(d, func(x *inode.Inode) { x.Size = uint32(r.Layout().Most() + 1) }) },
	} {
		r := garden(t, small)
		by(r)
		r.shows(what, without, unread(d), orphan(g), lost(r.block(14)))
		r.mends(what, 2, unread(d))
	}
	// What is behind its last whole entry is nothing, what isn't there is noughts.
	for what, size := range map[string]uint32{"a part of an entry": 63, "noughts": 256, "a block that isn't there": 3000, "as many as there may be": uint32(plant(t, small).Layout().Most())} {
		r := garden(t, small)
		r.node(d, func(x *inode.Inode) { x.Size = size })
		r.shows(what, paths())
	}
	// A folder in it: its own count is asked as if it named none.
	r := garden(t, small)
	r.spoilt(a, 0, ink(32, 1))
	r.shows("a folder in it:", []string{"/", "/a", "/d", "/d/g", "/e", "/z"}, unread(a), count(a), count(f), orphan(b))
	r.mends("a folder in it", 3, unread(a))
	if x, e := r.Node(a); x.Links != 2 || e != api.OK {
		t.Error(x, e)
	}
}

// P22.1: Kind: a name of an inode that is free.
func TestKind(t *testing.T) {
	r := garden(t, small)
	r.entry(root, 4, nobody, "n")
	r.shows("a name:", append([]string{"/", "/a", "/a/b", "/a/f", "/d", "/d/g", "/e", "/n"}, "/z"), kind(nobody))
	r.entry(root, 5, nobody, "m")
	r.entry(d, 1, nobody+1, "n")
	all := []string{"/", "/a", "/a/b", "/a/f", "/d", "/d/g", "/d/n", "/e", "/m", "/n", "/z"}
	r.shows("more of them:", all, kind(nobody), kind(nobody+1))
	r.mends("names of nothing", 0, kind(nobody), kind(nobody+1))
	r = plant(t, small)
	r.bytes(root, make([]byte, 64))
	r.shows("the root:", []string{"/"}, kind(root))
}

// P22.1: Count: another count of names than there are; of a folder one more, and one for each folder in it.
func TestCount(t *testing.T) {
	for n := uint32(root); n < nobody; n++ {
		for _, more := range []int{1, -1, 100, 60000} {
			r := garden(t, small)
			was, _ := r.Node(n)
			r.links(n, more)
			r.shows("one", paths(), count(n))
			r.mends("one", 1)
			if x, e := r.Node(n); x != was || e != api.OK {
				t.Error(n, x, "was", was, e)
			}
		}
	}
	r := garden(t, small)
	for n := uint32(root); n < nobody; n++ {
		r.node(n, func(x *inode.Inode) { x.Links = 0 })
	}
	r.shows("all:", paths(), count(1), count(2), count(3), count(4), count(5), count(6), count(7))
	r.mends("all", 7)
	// A name more, and one less, beneath.
	r.entry(d, 1, e, "e")
	r.entry(root, 1, 0, "")
	r.shows("names:", []string{"/", "/a", "/a/b", "/a/f", "/d", "/d/e", "/d/g", "/e"}, count(f), count(e))
	r.mends("names", 2)
	r.ok("Unlink", r.Unlink("/d/e"))
	r.ok("Unlink", r.Unlink("/e"))
	r.shows("they are right:", []string{"/", "/a", "/a/b", "/a/f", "/d", "/d/g"})
}

// P22.1: Orphan: an inode that isn't free, and has no name; its blocks are nobody's. It isn't asked for its count.
func TestOrphan(t *testing.T) {
	for _, x := range []inode.Inode{{Kind: inode.File}, {Kind: inode.File, Links: 1}, {Kind: inode.File, Links: 7, Size: 5000}, {Kind: inode.Folder}, {Kind: inode.Folder, Links: 1}, {Kind: inode.Folder, Links: 2}} {
		r := garden(t, small)
		r.bytes(nobody+3, x.Encode())
		r.shows("one:", paths(), orphan(nobody+3))
		r.mends("one", 1)
		if y, e := r.Node(nobody + 3); y != (inode.Inode{}) || e != api.OK {
			t.Error(y, e)
		}
	}
	r := garden(t, small)
	r.entry(d, 0, 0, "")
	r.shows("one with a block:", []string{"/", "/a", "/a/b", "/a/f", "/d", "/e", "/z"}, orphan(g), lost(r.block(14)))
	r.mends("one with a block", 2)
	// All of a folder, that one in it, too: each is one.
	r.entry(root, 0, 0, "")
	r.shows("a folder:", []string{"/", "/d", "/e", "/z"}, count(root), count(f), orphan(a), orphan(b), lost(r.block(1)))
	r.mends("a folder", 5)
	r.shows("it is gone:", []string{"/", "/d", "/e", "/z"})
	// Folders that name one another, and nobody else names.
	r = garden(t, small)
	r.entry(root, 0, 0, "")
	r.entry(a, 0, a, "a")
	r.shows("a ring:", []string{"/", "/d", "/d/g", "/e", "/z"}, count(root), count(f), orphan(a), orphan(b), lost(r.block(1)))
	// What blocks it names isn't asked.
	r = garden(t, small)
	r.bytes(nobody, inode.Inode{Kind: inode.File, Links: 1, Direct: [8]uint32{r.block(0), 1, math.MaxUint32, r.block(0)}, Single: r.block(20), Double: 3}.Encode())
	r.shows("one with others' blocks:", paths(), orphan(nobody))
}

// P22.1: Twice: a folder that is met again isn't gone through again; its names count all the same.
func TestFoldersTwice(t *testing.T) {
	r := garden(t, small)
	r.entry(d, 1, a, "a")
	all := []string{"/", "/a", "/a/b", "/a/f", "/d", "/d/a", "/d/g", "/e", "/z"}
	r.shows("a second name:", all, count(a), count(d), twice(a, 0))
	r.links(a, 1)
	r.links(d, 1)
	r.shows("by itself:", all, twice(a, 0))
	r.entry(d, 2, a, "b")
	r.entry(d, 3, b, "c")
	r.shows("more of them:", []string{"/", "/a", "/a/b", "/a/f", "/d", "/d/a", "/d/b", "/d/c", "/d/g", "/e", "/z"}, count(a), count(b), count(d), twice(a, 0), twice(b, 0))
	r.mends("more of them", 3, twice(a, 0), twice(b, 0))

	// In order of names: /a/b is met ahead of /b, and /a/b/x is where it is found.
	r = garden(t, small)
	r.file("/a/b/x", 0, 0)
	r.entry(root, 4, b, "b")
	r.entry(root, 5, b, "A")
	r.links(root, 2)
	r.links(b, 2)
	r.shows("one that is met ahead:", []string{"/", "/A", "/A/x", "/a", "/a/b", "/a/f", "/b", "/d", "/d/g", "/e", "/z"}, twice(b, 0))

	r = garden(t, small)
	r.entry(d, 1, d, "d")
	r.entry(root, 4, root, "root")
	all = []string{"/", "/a", "/a/b", "/a/f", "/d", "/d/d", "/d/g", "/e", "/root", "/z"}
	r.shows("those that name themselves:", all, count(root), count(d), twice(root, 0), twice(d, 0))
	r.mends("those that name themselves", 2, twice(root, 0), twice(d, 0))
	for n, want := range map[uint32]uint16{root: 2 + 1 + 3, d: 2 + 1 + 1} {
		if x, e := r.Node(n); x.Links != want || e != api.OK {
			t.Error(n, x, e)
		}
	}
	r.file("/a/b/x", 0, 0)
	r.entry(b, 1, a, "up")
	r.wrong("a ring:", count(a), count(b), twice(root, 0), twice(a, 0), twice(d, 0))
	r.mends("a ring", 2, twice(root, 0), twice(a, 0), twice(d, 0))
}

// P22.1: Twice: a block that another one has, or that it has itself, already; a file with several names is gone through once.
func TestBlocksTwice(t *testing.T) {
	r := garden(t, small)
	// /d/g is met behind /a/f, whatever their numbers.
	r.node(g, func(x *inode.Inode) { x.Direct[3] = r.block(5) })
	r.shows("another one's:", paths(), twice(g, r.block(5)))
	r.node(g, func(x *inode.Inode) { x.Direct[4] = r.block(5); x.Direct[5] = x.Direct[0]; x.Direct[7] = r.block(0) })
	r.shows("its own:", paths(), twice(g, r.block(0)), twice(g, r.block(5)), twice(g, r.block(14)))
	r.mends("blocks that two have", 0, twice(g, r.block(0)), twice(g, r.block(5)), twice(g, r.block(14)))
	r.node(e, func(x *inode.Inode) { x.Single = r.block(0); x.Double = r.block(14) })
	r.wrong("as blocks of numbers:", twice(e, r.block(0)), twice(e, r.block(14)), twice(g, r.block(0)), twice(g, r.block(5)), twice(g, r.block(14)))

	// In order: its eight, Single and what it names, Double and what that names.
	r = garden(t, small)
	single, double, deep := r.block(20), r.block(21), r.block(22)
	for _, b := range []uint32{single, double, deep} {
		r.mark(b, true)
	}
	r.number(single, 0, r.block(20))
	r.number(single, 1, r.block(21))
	r.number(double, 0, r.block(22))
	r.number(deep, 63, r.block(14))
	r.node(g, func(x *inode.Inode) { x.Single = single; x.Double = double })
	r.shows("a block that names itself, and the next one:", paths(), twice(g, r.block(20)), twice(g, r.block(21)), lost(r.block(22)))
	r.number(single, 1, 0)
	r.shows("what Double names:", paths(), twice(g, r.block(14)), twice(g, r.block(20)))
	r.number(double, 1, deep)
	r.number(double, 2, single)
	r.shows("more that Double names:", paths(), twice(g, r.block(14)), twice(g, r.block(20)), twice(g, r.block(22)))
	r.number(single, 0, 0)
	r.number(deep, 63, 0)
	r.number(double, 1, 0)
	r.number(double, 2, 0)
	r.shows("nothing:", paths())

	// Of a folder, too: its entries are read all the same.
	r = garden(t, small)
	r.node(d, func(x *inode.Inode) { x.Direct[0] = r.block(0); x.Size = 4 * dirent.Size })
	l, _, e := fsck.Check(r.Tree)
	r.ok("Check", e)
	if !slices.Contains(l, twice(d, r.block(0))) || !slices.Contains(l, twice(d, 0)) || !slices.Contains(l, lost(r.block(13))) {
		t.Error("a folder with the root's block:", l)
	}
}

// P22.1: Outside: a number that no file's block has; what it would name isn't looked at.
func TestOutside(t *testing.T) {
	r := garden(t, small)
	first, many := uint32(r.Layout().First), uint32(r.Layout().Blocks)
	r.node(e, func(x *inode.Inode) { x.Direct = [8]uint32{1, first - 1, many, many + 1, math.MaxUint32, 0, 1} })
	r.shows("its eight:", paths(), outside(e, 1), outside(e, first-1), outside(e, many), outside(e, many+1), outside(e, math.MaxUint32))
	r.mends("numbers", 0, outside(e, 1), outside(e, first-1), outside(e, many), outside(e, many+1), outside(e, math.MaxUint32))
	for _, v := range []uint32{1, 2, first - 1, many, 1 << 20, math.MaxUint32} {
		r := garden(t, small)
		r.node(e, func(x *inode.Inode) { x.Single = v })
		r.shows("Single:", paths(), outside(e, v))
		r.node(e, func(x *inode.Inode) { x.Single, x.Double = 0, v })
		r.shows("Double:", paths(), outside(e, v))
		r.node(e, func(x *inode.Inode) { x.Single, x.Double = v, v })
		r.shows("both:", paths(), outside(e, v))
		r = garden(t, small)
		r.number(r.block(10), 40, v)
		r.shows("what Single names:", paths(), outside(f, v))
		// The two blocks of the file that it names are blocks of numbers now.
		for _, n := range []int{11, 12} {
			r.lay(r.block(n), 0, make([]byte, small.Size))
		}
		r.node(f, func(x *inode.Inode) { x.Single, x.Double = 0, x.Single })
		r.shows("what Double names:", paths(), outside(f, v))
		r.number(r.block(10), 40, 0)
		r.shows("nothing:", paths())
		r.number(r.block(11), 0, v)
		r.number(r.block(12), 63, v)
		r.node(d, func(x *inode.Inode) { x.Direct[7] = v })
		r.shows("what these name:", paths(), outside(f, v), outside(d, v))
		// A folder that must be read there can't be.
		r.node(b, func(x *inode.Inode) { x.Direct[0] = v; x.Size = 64 })
		l, _, e := fsck.Check(r.Tree)
		if r.ok("Check", e); !slices.Contains(l, outside(b, v)) || v >= many && !slices.Contains(l, unread(b)) {
			t.Error("a folder:", v, l)
		}
	}
	r = garden(t, small)
	r.node(e, func(x *inode.Inode) { x.Direct[0], x.Direct[1] = first+20, many-1 })
	r.shows("at both ends:", paths(), unused(e, first+20), unused(e, many-1))
}

// P22.1: Unused: a block that somebody has, or that is ahead of the first one of files, and that isn't marked.
func TestUnused(t *testing.T) {
	r := garden(t, small)
	l := []fsck.Trouble{}
	for b := range uint32(r.Layout().First) {
		r.mark(b, false)
		l = append(l, unused(0, b))
	}
	r.shows("ahead of the first:", paths(), l...)
	owners := []uint32{root, a, f, f, f, f, f, f, f, f, f, f, f, d, g}
	r.mends("ahead of the first", r.Layout().First)
	for n, owner := range owners {
		r.mark(r.block(n), false)
		r.shows("one:", paths(), unused(owner, r.block(n)))
		r.mends("one", 1)
	}
	for n := range owners {
		r.mark(r.block(n), false)
	}
	r.shows("all of files:", paths(), unused(root, r.block(0)), unused(a, r.block(1)), unused(f, r.block(2)), unused(f, r.block(3)), unused(f, r.block(4)), unused(f, r.block(5)), unused(f, r.block(6)), unused(f, r.block(7)), unused(f, r.block(8)), unused(f, r.block(9)), unused(f, r.block(10)), unused(f, r.block(11)), unused(f, r.block(12)), unused(d, r.block(13)), unused(g, r.block(14)))
	r.mends("all of files", 15)
	// Of one that two have it is the first one's.
	r.node(g, func(x *inode.Inode) { x.Direct[2] = r.block(0) })
	r.mark(r.block(0), false)
	r.shows("one that two have:", paths(), twice(g, r.block(0)), unused(root, r.block(0)))
	r.mends("one that two have", 1, twice(g, r.block(0)))
}

// P22.1: Lost: a block that is marked, from the first one of files on, and that nobody has.
func TestLost(t *testing.T) {
	r := garden(t, small)
	many := r.Layout().Blocks - r.Layout().First
	for n := 15; n < many; n++ {
		r.mark(r.block(n), true)
		r.shows("one:", paths(), lost(r.block(n)))
		r.mends("one", 1)
	}
	for n := 15; n < many; n++ {
		r.mark(r.block(n), true)
	}
	r.shows("all:", paths(), r.lostAll(15, many)...)
	r.mends("all", many-15)
	// Bits behind the last block's are nobody's.
	block, at, bit := r.Layout().Bit(uint32(r.Layout().Blocks))
	data, e := r.Block(uint32(block))
	r.ok("Block", e)
	for i := at; i < len(data); i++ {
		data[i] |= 255 << bit
		bit = 0
	}
	r.lay(uint32(block), 0, data)
	r.shows("bits behind the last:", paths())
}

// P22.1: all kinds at once: by kind, inode and block, each once.
func TestSeveral(t *testing.T) {
	r := garden(t, small)
	far := uint32(r.Layout().Blocks)
	r.bytes(e, ink(64, 3))
	r.entry(d, 1, 1000, "far")
	r.entry(d, 2, nobody+2, "n")
	r.entry(d, 3, nobody+2, "m")
	r.entry(d, 4, nobody+1, "o")
	r.entry(d, 5, a, "a")
	r.links(b, 3)
	r.bytes(nobody+4, inode.Inode{Kind: 1, Links: 1}.Encode())
	r.bytes(nobody+3, inode.Inode{Kind: 2, Links: 1}.Encode())
	r.node(g, func(x *inode.Inode) {
		x.Direct = [8]uint32{x.Direct[0], 3, far, r.block(40), x.Direct[0], r.block(1), r.block(40), 3}
	})
	r.mark(2, false)
	r.mark(r.block(4), false)
	r.mark(r.block(30), true)
	r.mark(r.block(50), true)
	r.mark(r.block(20), true)
	want := []fsck.Trouble{
		unread(e), unread(1000),
		kind(nobody + 1), kind(nobody + 2),
		count(a), count(b), count(d),
		orphan(nobody + 3), orphan(nobody + 4),
		twice(a, 0), twice(g, r.block(1)), twice(g, r.block(14)), twice(g, r.block(40)),
		outside(g, 3), outside(g, far),
		unused(0, 2), unused(f, r.block(4)), unused(g, r.block(40)),
		lost(r.block(20)), lost(r.block(30)), lost(r.block(50)),
	}
	r.shows("several:", []string{"/", "/a", "/a/b", "/a/f", "/d", "/d/a", "/d/far", "/d/g", "/d/m", "/d/n", "/d/o", "/e", "/z"}, want...)
	r.mends("several", 3+2+3+3, slices.Concat(want[:4], want[9:15])...)
}

// P22.1: a name that stands twice in a folder is two names.
func TestSameNames(t *testing.T) {
	r := garden(t, small)
	r.entry(d, 1, e, "g")
	r.entry(d, 2, f, "g")
	all := []string{"/", "/a", "/a/b", "/a/f", "/d", "/d/g", "/d/g", "/d/g", "/e", "/z"}
	r.shows("three:", all, count(f), count(e))
	r.links(e, 1)
	r.links(f, 1)
	r.shows("three that are counted:", all)
	r.entry(d, 0, 0, "")
	r.shows("two:", []string{"/", "/a", "/a/b", "/a/f", "/d", "/d/g", "/d/g", "/e", "/z"}, orphan(g), lost(r.block(14)))
}
