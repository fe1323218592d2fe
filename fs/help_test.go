package fs_test

import (
	"bytes"
	"fmt"
	"hash/crc32"
	"os"
	"runtime/debug"
	"slices"
	"strings"
	"testing"

	"gabion/api"
	"gabion/fs"
	"gabion/fsck"
	"gabion/nand"
)

// Much is left behind below, and little of it at once: it needn't be collected often.
func TestMain(m *testing.M) {
	debug.SetGCPercent(400)
	os.Exit(m.Run())
}

// Shapes: one with few blocks, one with fewest inodes, one with more of both, the greatest pages, and one with room for packs and for a folder of most names.
var (
	small = api.Geo{Chips: 3, Blocks: 24, Pages: 8, Size: 256}
	least = api.Geo{Chips: 3, Blocks: 19, Pages: 9, Size: 256}
	some  = api.Geo{Chips: 5, Blocks: 32, Pages: 12, Size: 320}
	broad = api.Geo{Chips: 4, Blocks: 24, Pages: 8, Size: 1024}
	great = api.Geo{Chips: 4, Blocks: 64, Pages: 16, Size: 256}
)

// rig is a file system, and the chips on which it stands.
type rig struct {
	t *testing.T
	a *nand.Array
	*fs.FS
}

// chips: an array on which nothing stands.
func chips(t *testing.T, g api.Geo, events ...nand.Event) *nand.Array {
	t.Helper()
	a, e := nand.New(g, nil, events...)
	if e != api.OK {
		t.Fatal(e)
	}
	return a
}

// plant: a file system that has a root alone.
func plant(t *testing.T, g api.Geo) *rig {
	t.Helper()
	a := chips(t, g)
	f, e := fs.Format(a)
	if e != api.OK {
		t.Fatal("Format:", e)
	}
	return &rig{t: t, a: a, FS: f}
}

// garden: one with folders in one another, a file of some blocks that has two names, one of one block, one that is empty.
func garden(t *testing.T, g api.Geo) *rig {
	t.Helper()
	r := plant(t, g)
	for _, p := range []string{"/a", "/a/b", "/d"} {
		r.ok("Mkdir "+p, r.Mkdir(p))
	}
	r.file("/f", ink(2500, 1))
	r.file("/a/h", ink(100, 2))
	r.file("/e", nil)
	r.ok("Link", r.Link("/f", "/a/g"))
	return r
}

// again: the file system as it is found on the chips now, as if the power had gone; on a copy.
func (r *rig) again() *rig {
	r.t.Helper()
	a := r.a.Copy()
	a.Boot()
	f, e := fs.Mount(a)
	if e != api.OK {
		r.t.Fatal("Mount:", e)
	}
	return &rig{t: r.t, a: a, FS: f}
}

// ok: a call was answered without an error.
func (r *rig) ok(what string, e api.Errno) {
	r.t.Helper()
	if e != api.OK {
		r.t.Fatal(what, e)
	}
}

// fd: a descriptor of a file.
func (r *rig) fd(path string) int {
	r.t.Helper()
	fd, e := r.Open(path)
	r.ok("Open "+path, e)
	return fd
}

// shut: a descriptor isn't needed any longer.
func (r *rig) shut(fd int) {
	r.t.Helper()
	r.ok(fmt.Sprint("Close ", fd), r.Close(fd))
}

// file: there is one more, with bytes.
func (r *rig) file(path string, data []byte) {
	r.t.Helper()
	r.ok("Create "+path, r.Create(path))
	fd := r.fd(path)
	for l := range slices.Chunk(data, api.MaxIO) {
		r.ok("WriteNext", r.WriteNext(fd, l))
	}
	r.shut(fd)
}

// all: a file's bytes, by a descriptor.
func (r *rig) all(fd int) []byte {
	r.t.Helper()
	var data []byte
	for {
		b, e := r.Read(fd, int64(len(data)), api.MaxIO)
		r.ok(fmt.Sprint("Read ", fd), e)
		if data = append(data, b...); len(b) < api.MaxIO {
			return data
		}
	}
}

// holds: are these a file's bytes, and all of them?
func (r *rig) holds(path string, want []byte) {
	r.t.Helper()
	fd := r.fd(path)
	if is := r.all(fd); !bytes.Equal(is, want) {
		r.t.Error(path, "has", len(is), "bytes, want", len(want), "or others")
	}
	r.shut(fd)
	if i, e := r.Stat(path); e != api.OK || i.Kind != 1 || i.Size != int64(len(want)) {
		r.t.Error(path, i, e)
	}
}

// stat: is this told of what a path names?
func (r *rig) stat(path string, want fs.Info) {
	r.t.Helper()
	if i, e := r.Stat(path); i != want || e != api.OK {
		r.t.Error("Stat", path, i, e, "want", want)
	}
}

// listed: are these the names in a folder?
func (r *rig) listed(path string, want ...string) {
	r.t.Helper()
	if l, e := r.List(path); !slices.Equal(l, want) || e != api.OK {
		r.t.Error("List", path, l, e, "want", want)
	}
}

// walked: are these all paths below one?
func (r *rig) walked(path string, want ...string) {
	r.t.Helper()
	if l := r.Walk(path); !slices.Equal(l, want) {
		r.t.Error("Walk", path, l, "want", want)
	}
}

// space: how much is free.
func (r *rig) space() [2]int {
	r.t.Helper()
	b, n, e := r.Space()
	r.ok("Space", e)
	return [2]int{b, n}
}

// dump: all that is to be seen of a tree.
func (r *rig) dump() string {
	r.t.Helper()
	var s strings.Builder
	for p, x := range r.Tree().Walk("/") {
		i, e := r.Stat(p)
		r.ok("Stat "+p, e)
		fmt.Fprintf(&s, "%s: %d %d", p, i.Kind, i.Links)
		if i.Kind == 1 {
			var data []byte
			for at := int64(0); at < i.Size; at += api.MaxIO {
				b, e := r.Tree().ReadAt(x.Number, at, api.MaxIO)
				r.ok("ReadAt "+p, e)
				data = append(data, b...)
			}
			fmt.Fprintf(&s, " %d %x", i.Size, crc32.ChecksumIEEE(data))
		}
		s.WriteString("\n")
	}
	return s.String()
}

// image: likewise, with the bytes of all blocks, and how many of them wait.
func (r *rig) image() string {
	r.t.Helper()
	var s strings.Builder
	for b := range uint32(r.Tree().Layout().Blocks) {
		data, e := r.Tree().Block(b)
		r.ok("Block", e)
		s.Write(data)
	}
	fmt.Fprint(&s, r.Tree().Waiting(), r.Store().Stats())
	return s.String()
}

// refuse: a call answers an error, and changes nothing.
func (r *rig) refuse(what string, want api.Errno, call func() api.Errno) {
	r.t.Helper()
	was := r.image()
	if e := call(); e != want {
		r.t.Error(what, "answers", e, "want", want)
	}
	if r.image() != was {
		r.t.Error(what, "has changed something")
	}
}

// whole: is nothing wrong with the tree and with the store below it?
func (r *rig) whole(what string) {
	r.t.Helper()
	if l, _, e := fsck.Check(r.Tree()); len(l) != 0 || e != api.OK {
		r.t.Fatal(what, "the tree isn't right:", l, e)
	}
	if ok, e := r.Store().Check(); !ok || e != api.OK {
		r.t.Fatal(what, "the store isn't right:", ok, e)
	}
}

// ink: n bytes, none of which is 0.
func ink(n, seed int) []byte {
	l := make([]byte, n)
	for i := range l {
		l[i] = byte((i*7+i/13+seed*31)%255 + 1)
	}
	return l
}

// left: what a crash, or a failure, may leave: noughts, what looks erased, something else.
func left(n int) []byte {
	return [][]byte{nil, {255}, {1, 2, 3}}[n%3]
}

// just: the error alone.
func just[T any](_ T, e api.Errno) api.Errno { return e }
