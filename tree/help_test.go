package tree_test

import (
	"bytes"
	"fmt"
	"hash/crc32"
	"os"
	"runtime/debug"
	"slices"
	"strings"
	"testing"

	"gabion/api"
	"gabion/array"
	"gabion/bmap"
	"gabion/dirent"
	"gabion/inode"
	"gabion/nand"
	"gabion/store"
	"gabion/tree"
)

// Much is left behind below, and little of it at once: it needn't be collected often.
func TestMain(m *testing.M) {
	debug.SetGCPercent(400)
	os.Exit(m.Run())
}

// Shapes: one with few blocks, one with fewest inodes, one with more of both, the greatest pages, and one with room for a folder of most names.
var (
	small = api.Geo{Chips: 3, Blocks: 24, Pages: 8, Size: 256}
	least = api.Geo{Chips: 3, Blocks: 19, Pages: 9, Size: 256}
	some  = api.Geo{Chips: 5, Blocks: 32, Pages: 12, Size: 320}
	broad = api.Geo{Chips: 4, Blocks: 24, Pages: 8, Size: 1024}
	great = api.Geo{Chips: 4, Blocks: 64, Pages: 16, Size: 256}
)

// rig is a tree, and what it stands on.
type rig struct {
	t *testing.T
	a *nand.Array
	x *array.Array
	s *store.Store
	*tree.Tree
}

// bare: a store that holds nothing, without a tree.
func bare(t *testing.T, g api.Geo, events ...nand.Event) *rig {
	t.Helper()
	a, e := nand.New(g, nil, events...)
	if e != api.OK {
		t.Fatal(e)
	}
	x, e := array.Format(a)
	if e != api.OK {
		t.Fatal("array:", e)
	}
	s, e := store.Format(x)
	if e != api.OK {
		t.Fatal("store:", e)
	}
	return &rig{t: t, a: a, x: x, s: s}
}

// plant: a tree that has a root alone.
func plant(t *testing.T, g api.Geo) *rig {
	t.Helper()
	r := bare(t, g)
	y, e := tree.Format(r.s, g.Size)
	if e != api.OK {
		t.Fatal("Format:", e)
	}
	r.Tree = y
	return r
}

// again: the tree as it is found on the chips now, as if the power had gone.
func (r *rig) again() *rig {
	r.t.Helper()
	a := r.a.Copy()
	a.Boot()
	x, e := array.Open(a)
	if e != api.OK {
		r.t.Fatal("Open:", e)
	}
	s, e := store.Mount(x)
	if e != api.OK {
		r.t.Fatal("store's Mount:", e)
	}
	y, e := tree.Mount(s, a.Geo().Size)
	if e != api.OK {
		r.t.Fatal("Mount:", e)
	}
	return &rig{t: r.t, a: a, x: x, s: s, Tree: y}
}

// ok: a call was answered without an error.
func (r *rig) ok(what string, e api.Errno) {
	r.t.Helper()
	if e != api.OK {
		r.t.Fatal(what, e)
	}
}

// file, folder: there is one more; its number.
func (r *rig) file(path string) uint32 {
	r.t.Helper()
	n, e := r.Create(path)
	r.ok("Create "+path, e)
	return n
}

func (r *rig) folder(path string) uint32 {
	r.t.Helper()
	n, e := r.Mkdir(path)
	r.ok("Mkdir "+path, e)
	return n
}

// folders: so many folders in one.
func (r *rig) folders(in string, n int) {
	r.t.Helper()
	for i := range n {
		r.folder(fmt.Sprint(in, "/d", i))
	}
}

// write: bytes stand in a file.
func (r *rig) write(n uint32, at int64, data []byte) {
	r.t.Helper()
	r.ok(fmt.Sprint("WriteAt ", n, " ", at), r.WriteAt(n, at, data))
}

// sync: all is written.
func (r *rig) sync() {
	r.t.Helper()
	r.ok("Sync", r.Sync())
}

// number: what a path names; 0: nothing.
func (r *rig) number(path string) uint32 {
	r.t.Helper()
	n, _, e := r.Find(path)
	if e != api.OK && e != api.NoEnt {
		r.t.Fatal("Find", path, e)
	}
	return n
}

// node: an inode.
func (r *rig) node(n uint32) inode.Inode {
	r.t.Helper()
	x, e := r.Node(n)
	r.ok(fmt.Sprint("Node ", n), e)
	return x
}

// links: how many names an inode says that it has.
func (r *rig) links(path string, want int) {
	r.t.Helper()
	_, x, e := r.Find(path)
	if e != api.OK || int(x.Links) != want {
		r.t.Error(path, "has", x.Links, "names, want", want, e)
	}
}

// holds: are these a file's bytes, and all of them?
func (r *rig) holds(path string, want []byte) {
	r.t.Helper()
	n, x, e := r.Find(path)
	if e != api.OK || int(x.Size) != len(want) || x.Kind != inode.File {
		r.t.Error(path, x, e, "want", len(want))
		return
	}
	if is := r.all(n, x); !bytes.Equal(is, want) {
		r.t.Error(path, "isn't what was written")
	}
}

// all: a file's bytes.
func (r *rig) all(n uint32, x inode.Inode) []byte {
	r.t.Helper()
	var data []byte
	for at := int64(0); at < int64(x.Size); at += api.MaxIO {
		b, e := r.ReadAt(n, at, api.MaxIO)
		r.ok(fmt.Sprint("ReadAt ", n, " ", at), e)
		data = append(data, b...)
	}
	return data
}

// space: are so many blocks and inodes free?
func (r *rig) space(what string, blocks, nodes int) {
	r.t.Helper()
	b, n, e := r.Space()
	if b != blocks || n != nodes || e != api.OK {
		r.t.Error(what, "free are", b, n, e, "want", blocks, nodes)
	}
}

// free: how many blocks are.
func (r *rig) free() int {
	r.t.Helper()
	b, _, e := r.Space()
	r.ok("Space", e)
	return b
}

// paths: all of a tree below one.
func (r *rig) paths(from string) []string {
	var l []string
	for p := range r.Walk(from) {
		l = append(l, p)
	}
	return l
}

// listed: are these all paths below one?
func (r *rig) listed(from string, want ...string) {
	r.t.Helper()
	if l := r.paths(from); !slices.Equal(l, want) {
		r.t.Error("below", from, l, "want", want)
	}
}

// slots: a folder's names, as they stand; of what is none "".
func (r *rig) slots(path string) []string {
	r.t.Helper()
	_, x, e := r.Find(path)
	r.ok("Find "+path, e)
	l, e := r.Entries(x)
	r.ok("Entries "+path, e)
	var all []string
	for _, y := range l {
		all = append(all, y.Name)
	}
	return all
}

// image: all that may be seen of a tree: the bytes of its blocks, and how many wait.
func (r *rig) image() string {
	r.t.Helper()
	var s strings.Builder
	for b := range uint32(r.Layout().Blocks) {
		data, e := r.Block(b)
		r.ok("Block", e)
		s.Write(data)
	}
	fmt.Fprint(&s, r.Waiting())
	return s.String()
}

// refuse: a call answers an error, and changes nothing.
func (r *rig) refuse(what string, want api.Errno, call func() api.Errno) {
	r.t.Helper()
	was, batches := r.image(), r.s.Stats()
	if e := call(); e != want {
		r.t.Error(what, "answers", e, "want", want)
	}
	if r.image() != was || r.s.Stats() != batches {
		r.t.Error(what, "has changed something")
	}
}

// whole: is each block somebody's who is there, only one's, and marked if it is?
func (r *rig) whole(what string) {
	r.t.Helper()
	l := r.Layout()
	owner := map[uint32]uint32{}
	var have func(n, b uint32, deep int)
	have = func(n, b uint32, deep int) {
		if b == 0 {
			return
		}
		if _, ok := owner[b]; ok || int(b) < l.First || int(b) >= l.Blocks {
			r.t.Fatal(what, "block", b, "of", n, "is", owner[b])
		}
		owner[b] = n
		if deep == 0 {
			return
		}
		data, e := r.Block(b)
		r.ok("Block", e)
		left := false
		for i := range l.Size / 4 {
			have(n, bmap.Get(data, i), deep-1)
			left = left || bmap.Get(data, i) != 0
		}
		if !left {
			r.t.Error(what, "block", b, "of", n, "names nothing")
		}
	}
	for n := uint32(1); int(n) <= l.Nodes; n++ {
		x := r.node(n)
		for _, b := range x.Direct {
			have(n, b, 0)
		}
		have(n, x.Single, 1)
		have(n, x.Double, 2)
	}
	for b := range uint32(l.Blocks) {
		used, e := r.Used(b)
		if _, ok := owner[b]; e != api.OK || used != (ok || int(b) < l.First) {
			r.t.Error(what, "block", b, "is marked", used, e, "and", owner[b], "has it")
		}
	}
}

// dump: a tree as names and bytes, with what stands where in folders.
func (r *rig) dump() string {
	r.t.Helper()
	var s strings.Builder
	for p, x := range r.Walk("/") {
		fmt.Fprintf(&s, "%s: %d %d %d\n", p, x.Number, x.Node.Kind, x.Node.Links)
		if x.Node.Kind == inode.Folder {
			l, e := r.Entries(x.Node)
			r.ok("Entries", e)
			for _, y := range l {
				fmt.Fprintf(&s, " %q %d\n", y.Name, y.Node)
			}
			continue
		}
		data := r.all(x.Number, x.Node)
		fmt.Fprintf(&s, " %d %x\n", len(data), crc32.ChecksumIEEE(data))
	}
	b, n, e := r.Space()
	fmt.Fprintln(&s, b, n, e)
	return s.String()
}

// ink: n bytes, none of which is 0.
func ink(n, seed int) []byte {
	l := make([]byte, n)
	for i := range l {
		l[i] = byte((i*7+i/13+seed*31)%255 + 1)
	}
	return l
}

// laid: blocks of a store have other bytes, whatever the tree says.
func (r *rig) laid(items ...store.Item) {
	r.t.Helper()
	r.ok("Batch", r.s.Batch(items))
}

// forge: an inode is another one, as its bytes are, whatever the tree says; the tree is mounted anew.
func (r *rig) forge(n uint32, b []byte) {
	r.t.Helper()
	r.sync()
	block, at, ok := r.Layout().At(n)
	data, e := r.s.Get(uint32(block))
	if !ok || e != api.OK {
		r.t.Fatal(n, e)
	}
	copy(data[at:], b)
	r.laid(store.Item{Block: uint32(block), Data: data})
	y, e := tree.Mount(r.s, len(data))
	r.ok("Mount", e)
	r.Tree = y
}

// entry: an entry's bytes.
func entry(t *testing.T, n uint32, name string) []byte {
	t.Helper()
	b, e := dirent.Entry{Node: n, Name: name}.Encode()
	if e != api.OK {
		t.Fatal(e)
	}
	return b
}

// open: the array, the store and the tree are opened on the chips, as often as the power goes meanwhile.
func (r *rig) open() {
	r.t.Helper()
	for {
		r.a.Boot()
		e := r.once()
		if e == api.OK {
			return
		}
		if e != api.Crash {
			r.t.Fatal("open:", e)
		}
	}
}

// once: likewise, once.
func (r *rig) once() (e api.Errno) {
	if r.x, e = array.Open(r.a); e != api.OK {
		return e
	}
	if r.s, e = store.Mount(r.x); e != api.OK {
		return e
	}
	r.Tree, e = tree.Mount(r.s, r.a.Geo().Size)
	return e
}

// but: the tree on a copy of the chips, opened, on which something comes.
func (r *rig) but(events ...nand.Event) *rig {
	r.t.Helper()
	k := &rig{t: r.t, a: r.a.Copy(events...)}
	k.open()
	return k
}

// left: what a crash, or a failure, may leave: noughts, what looks erased, something else.
func left(n int) []byte {
	return [][]byte{nil, {255}, {1, 2, 3}}[n%3]
}
