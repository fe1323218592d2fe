package fsck_test

import (
	"fmt"
	"os"
	"runtime/debug"
	"slices"
	"strings"
	"testing"

	"gabion/api"
	"gabion/array"
	"gabion/bmap"
	"gabion/dirent"
	"gabion/fsck"
	"gabion/inode"
	"gabion/nand"
	"gabion/store"
	"gabion/tree"
)

// Much is left behind below, and little of it at once: it needn't be collected often.
func TestMain(m *testing.M) {
	debug.SetGCPercent(400)
	os.Exit(m.Run())
}

// Shapes: one with few blocks, one with more, the greatest pages, and one with room for a folder of most names.
var (
	small = api.Geo{Chips: 3, Blocks: 24, Pages: 8, Size: 256}
	some  = api.Geo{Chips: 5, Blocks: 32, Pages: 12, Size: 320}
	broad = api.Geo{Chips: 4, Blocks: 24, Pages: 8, Size: 1024}
	great = api.Geo{Chips: 4, Blocks: 64, Pages: 16, Size: 256}
)

// rig is a tree, and what it stands on.
type rig struct {
	t *testing.T
	a *nand.Array
	s *store.Store
	*tree.Tree
}

// plant: a tree that has a root alone.
func plant(t *testing.T, g api.Geo, events ...nand.Event) *rig {
	t.Helper()
	a, e := nand.New(g, nil, events...)
	if e != api.OK {
		t.Fatal(e)
	}
	x, e := array.Format(a)
	if e != api.OK {
		t.Fatal("array:", e)
	}
	s, e := store.Format(x)
	if e != api.OK {
		t.Fatal("store:", e)
	}
	y, e := tree.Format(s, g.Size)
	if e != api.OK {
		t.Fatal("tree:", e)
	}
	return &rig{t: t, a: a, s: s, Tree: y}
}

// What stands in a garden. Its blocks are, in order from the first one on: the root's, a's, the eight of /a/f, the one that names its others, and these two; /d's; the one of /d/g.
const (
	root = iota + 1
	a
	b
	f
	e
	d
	g
	nobody
)

// garden: a tree with folders in one another, a file with a block of numbers that has two names, an empty one, and one of one block.
func garden(t *testing.T, shape api.Geo) *rig {
	t.Helper()
	r := plant(t, shape)
	r.folder("/a", a)
	r.folder("/a/b", b)
	r.file("/a/f", f, 10*shape.Size)
	r.ok("Link", r.Link("/a/f", "/z"))
	r.file("/e", e, 0)
	r.folder("/d", d)
	r.file("/d/g", g, 100)
	r.sync()
	return r
}

// paths: those of a garden.
func paths() []string { return []string{"/", "/a", "/a/b", "/a/f", "/d", "/d/g", "/e", "/z"} }

// block: the n-th of files' blocks, from 0 on.
func (r *rig) block(n int) uint32 { return uint32(r.Layout().First + n) }

// ok: a call was answered without an error.
func (r *rig) ok(what string, e api.Errno) {
	r.t.Helper()
	if e != api.OK {
		r.t.Fatal(what, e)
	}
}

// sync: all is written.
func (r *rig) sync() {
	r.t.Helper()
	r.ok("Sync", r.Sync())
}

// folder, file: there is one more, of this number (0: whichever).
func (r *rig) folder(path string, want uint32) {
	r.t.Helper()
	n, e := r.Mkdir(path)
	if e != api.OK || want != 0 && n != want {
		r.t.Fatal(path, n, e)
	}
}

func (r *rig) file(path string, want uint32, size int) {
	r.t.Helper()
	n, e := r.Create(path)
	if e != api.OK || want != 0 && n != want {
		r.t.Fatal(path, n, e)
	}
	for at := 0; at < size; at += api.MaxIO {
		r.ok("WriteAt", r.WriteAt(n, int64(at), ink(min(size-at, api.MaxIO), at)))
	}
}

// ink: n bytes, none of which is 0.
func ink(n, seed int) []byte {
	l := make([]byte, n)
	for i := range l {
		l[i] = byte((i*7+i/13+seed*31)%255 + 1)
	}
	return l
}

// lay: a block has other bytes from one on, whatever the tree says.
func (r *rig) lay(b uint32, at int, data []byte) {
	r.t.Helper()
	r.sync()
	is, e := r.s.Get(b)
	r.ok("Get", e)
	copy(is[at:], data)
	r.ok("Batch", r.s.Batch([]store.Item{{Block: b, Data: is}}))
}

// bytes: an inode's bytes are others.
func (r *rig) bytes(n uint32, data []byte) {
	r.t.Helper()
	b, at, ok := r.Layout().At(n)
	if !ok {
		r.t.Fatal(n, "isn't there")
	}
	r.lay(uint32(b), at, data)
}

// node: an inode is another one.
func (r *rig) node(n uint32, by func(x *inode.Inode)) {
	r.t.Helper()
	x, e := r.Node(n)
	r.ok("Node", e)
	by(&x)
	r.bytes(n, x.Encode())
}

// links: an inode says that it has so many names more.
func (r *rig) links(n uint32, more int) {
	r.t.Helper()
	r.node(n, func(x *inode.Inode) { x.Links += uint16(more) })
}

// mark: a block is marked as in use, or isn't.
func (r *rig) mark(b uint32, used bool) {
	r.t.Helper()
	block, at, bit := r.Layout().Bit(b)
	data, e := r.Block(uint32(block))
	r.ok("Block", e)
	data[at] &^= 1 << bit
	if used {
		data[at] |= 1 << bit
	}
	r.lay(uint32(block), at, data[at:at+1])
}

// number: the i-th number of a block of numbers is another one.
func (r *rig) number(b uint32, i int, v uint32) {
	r.t.Helper()
	r.sync()
	data, e := r.Block(b)
	r.ok("Block", e)
	r.lay(b, 0, bmap.Set(data, i, v))
}

// entry: the i-th entry of a folder, in its first block, is another one; a folder that has fewer has as many now.
func (r *rig) entry(folder uint32, i int, node uint32, name string) {
	r.t.Helper()
	data, e := dirent.Entry{Node: node, Name: name}.Encode()
	r.ok("Encode", e)
	r.spoilt(folder, i, data)
}

// spoilt: likewise, any bytes.
func (r *rig) spoilt(folder uint32, i int, data []byte) {
	r.t.Helper()
	x, e := r.Node(folder)
	if e != api.OK || x.Direct[0] == 0 {
		r.t.Fatal(folder, "has no block:", e)
	}
	r.lay(x.Direct[0], i*dirent.Size, data)
	r.node(folder, func(x *inode.Inode) { x.Size = max(x.Size, uint32((i+1)*dirent.Size)) })
}

// unread, kind, ..: troubles.
func unread(n uint32) fsck.Trouble { return fsck.Trouble{Kind: 1, Node: n} }

func kind(n uint32) fsck.Trouble { return fsck.Trouble{Kind: 2, Node: n} }

func count(n uint32) fsck.Trouble { return fsck.Trouble{Kind: 3, Node: n} }

func orphan(n uint32) fsck.Trouble { return fsck.Trouble{Kind: 4, Node: n} }

func twice(n, b uint32) fsck.Trouble { return fsck.Trouble{Kind: 5, Node: n, Block: b} }

func outside(n, b uint32) fsck.Trouble { return fsck.Trouble{Kind: 6, Node: n, Block: b} }

func unused(n, b uint32) fsck.Trouble { return fsck.Trouble{Kind: 7, Node: n, Block: b} }

func lost(b uint32) fsck.Trouble { return fsck.Trouble{Kind: 8, Block: b} }

// lostAll: these are lost.
func (r *rig) lostAll(from, to int) []fsck.Trouble {
	var l []fsck.Trouble
	for n := from; n < to; n++ {
		l = append(l, lost(r.block(n)))
	}
	return l
}

// image: all that may be seen of a tree.
func (r *rig) image() string {
	r.t.Helper()
	var s strings.Builder
	for b := range uint32(r.Layout().Blocks) {
		data, e := r.Block(b)
		r.ok("Block", e)
		s.Write(data)
	}
	fmt.Fprint(&s, r.Waiting(), r.s.Stats())
	return s.String()
}

// wrong: is this what is wrong, and nothing else? It is told the same again, and nothing is changed. The paths.
func (r *rig) wrong(what string, want ...fsck.Trouble) []string {
	r.t.Helper()
	was := r.image()
	l, paths, e := fsck.Check(r.Tree)
	if !slices.Equal(l, want) || e != api.OK {
		r.t.Error(what, l, e, "want", want)
	}
	again, same, e := fsck.Check(r.Tree)
	if !slices.Equal(l, again) || !slices.Equal(paths, same) || e != api.OK {
		r.t.Error(what, "told otherwise:", again, same, e)
	}
	if r.image() != was {
		r.t.Error(what, "is changed")
	}
	return paths
}

// shows: likewise, with these paths.
func (r *rig) shows(what string, paths []string, want ...fsck.Trouble) {
	r.t.Helper()
	if l := r.wrong(what, want...); !slices.Equal(l, paths) {
		r.t.Error(what, "paths", l, "want", paths)
	}
}

// mends: so many troubles are put right; what is left.
func (r *rig) mends(what string, many int, want ...fsck.Trouble) {
	r.t.Helper()
	if n, e := fsck.Mend(r.Tree); n != many || e != api.OK {
		r.t.Error(what, "mended", n, e, "want", many)
	}
	r.wrong(what+" mended:", want...)
}
