package tree_test

import (
	"fmt"
	"maps"
	"slices"
	"strings"
	"testing"

	"gabion/api"
	"gabion/dirent"
	"gabion/inode"
	"gabion/names"
	"gabion/tree"
)

// P20.1: all paths below one, that first, a folder ahead of what is in it, names in order; of each what stands there.
func TestWalk(t *testing.T) {
	r := plant(t, some)
	for _, p := range []string{"/b", "/b/z", "/ab", "/a", "/a/c", "/a/c/d"} {
		r.folder(p)
	}
	for _, p := range []string{"/b/z/y", "/a b", "/a/ä", "/a/c/d/e", "/B", "/ä", "/az", "/a.b"} {
		r.file(p)
	}
	r.ok("Link", r.Link("/B", "/a/c/B"))
	all := []string{"/", "/B", "/a", "/a/c", "/a/c/B", "/a/c/d", "/a/c/d/e", "/a/ä", "/a b", "/a.b", "/ab", "/az", "/b", "/b/z", "/b/z/y", "/ä"}
	r.listed("/", all...)
	r.listed("/../.", all...)
	r.listed("/a", all[2:8]...)
	r.listed("//a/c/../", all[2:8]...)
	r.listed("/a/c/d", "/a/c/d", "/a/c/d/e")
	r.listed("/a/c/d/e", "/a/c/d/e")
	r.listed("/./b/z/y/", "/b/z/y")
	for _, p := range []string{"", "a", "/n", "/a/n", "/B/x", "/a/c/d/e/x", "/a/\x00", "/" + strings.Repeat("x", 25), strings.Repeat("/a", 13), "/A"} {
		r.listed(p)
	}
	for p, x := range r.Walk("/a") {
		n, y, e := r.Find(p)
		if e != api.OK || x != (tree.Seen{Number: n, Node: y}) || x.Node != r.node(x.Number) {
			t.Error(p, x, n, y, e)
		}
	}
	r.sync()
	r.again().listed("/", all...)
}

// Rule 8: a Walk may be gone through again, also in itself, and left at any place; it goes through what is there by then.
func TestWalkAgain(t *testing.T) {
	r := garden(t)
	walk := r.Walk("/")
	all := r.paths("/")
	for n := range len(all) + 2 {
		var l []string
		for p := range walk {
			if len(l) == n {
				break
			}
			l = append(l, p)
		}
		if !slices.Equal(l, all[:min(n, len(all))]) {
			t.Error("left behind", n, l)
		}
	}
	seen := 0
	for range walk {
		for p := range walk {
			if p == "/full" {
				break
			}
			seen++
		}
	}
	if seen != len(all)*4 {
		t.Error("within itself:", seen, len(all))
	}
	if was, waits := r.image(), r.Waiting(); len(slices.Collect(maps.Keys(maps.Collect(walk)))) != len(all) || r.image() != was || r.Waiting() != waits {
		t.Error("something was changed")
	}
	r.file("/a")
	if l := slices.Sorted(maps.Keys(maps.Collect(walk))); !slices.Contains(l, "/a") || len(l) != len(all)+1 {
		t.Error("what came isn't there", l)
	}
	none := r.Walk("/new")
	r.folder("/new")
	r.file("/new/x")
	if n := len(maps.Collect(none)); n != 2 {
		t.Error("of what came there are", n)
	}
}

// What is gone through may be changed meanwhile: it ends, and no panic comes.
func TestWalkMeanwhile(t *testing.T) {
	r := garden(t)
	n := 0
	for p, x := range r.Walk("/") {
		n++
		switch {
		case p == "/d":
			r.file("/d/new")
		case x.Node.Kind == inode.File:
			r.ok("Unlink "+p, r.Unlink(p))
		}
	}
	r.listed("/", "/", "/d", "/d/e", "/full")
	if n != 10 {
		t.Error(n, "paths")
	}
}

// P20.1: paths of at most MaxDepth names, from the root on, wherever it begins: what a folder that was renamed has deeper isn't gone through.
func TestWalkDepth(t *testing.T) {
	r := plant(t, some)
	deep := ""
	var want []string
	for i := range api.MaxDepth - 2 {
		deep += fmt.Sprint("/", strings.Repeat("x", i+10))
		r.folder(deep)
		want = append(want, deep)
	}
	r.folder("/a")
	r.folder("/a/b")
	r.folder("/a/b/c")
	r.file("/a/b/c/d")
	r.ok("Rename", r.Rename("/a", deep+"/a"))
	want = append(want, deep+"/a", deep+"/a/b")
	r.listed("/", append([]string{"/"}, want...)...)
	// The longest path here has more bytes than Split takes.
	if n := len(want[len(want)-1]); n > api.MaxPath {
		t.Error("it has", n)
	}
	r.listed(want[3], want[3:]...)
	r.listed(deep+"/a/b", deep+"/a/b")
	if _, _, e := r.Find(deep + "/a/b/c"); e != api.NameLen {
		t.Error("Find:", e)
	}
	r.ok("Rename", r.Rename(deep+"/a/b", "/b"))
	r.listed("/b", "/b", "/b/c", "/b/c/d")
}

// P20.1: also paths that have more bytes than one that is handed in.
func TestWalkLongPaths(t *testing.T) {
	r := plant(t, some)
	name := "/" + strings.Repeat("ü", 12)
	r.folder("/a")
	for i := range 4 {
		r.folder("/a" + strings.Repeat(name, i+1))
	}
	r.file("/a" + strings.Repeat(name, 5))
	for i := range 6 {
		r.folder(strings.Repeat(name, i+1))
	}
	r.ok("Rename", r.Rename("/a", strings.Repeat(name, 7)))
	if l := r.paths("/"); len(l) != 1+12 || l[12] != strings.Repeat(name, 12) || len(l[12]) != 300 {
		t.Error(len(l), l)
	}
	r.whole("all")
}

// What can't be read is left out; the rest is gone through.
func TestWalkOfWhatIsSpoilt(t *testing.T) {
	r := garden(t)
	r.forge(r.number("/h"), ink(64, 1))
	r.listed("/", "/", "/d", "/d/e", "/d/f", "/full", "/full/x", "/g", "/most")
	d := r.node(r.number("/d"))
	r.sync()
	r.laid(store1(d.Direct[0], append(entry(t, 9, "x"), ink(320-32, 2)...)))
	r.listed("/", "/", "/d", "/full", "/full/x", "/g", "/most")
	// A name of an inode that isn't there, one of one that is free.
	r.laid(store1(d.Direct[0], slices.Concat(entry(t, 1<<30, "x"), entry(t, 100, "y"), make([]byte, 320-64))))
	r.listed("/d", "/d", "/d/y")
	// A folder that is in itself: as deep as a path may be.
	r.laid(store1(d.Direct[0], slices.Concat(entry(t, r.number("/d"), "x"), make([]byte, 320-32))))
	if l := r.paths("/d"); len(l) != api.MaxDepth || l[11] != "/d"+strings.Repeat("/x", 11) {
		t.Error(l)
	}
}

// P20.1: a folder's entries, as they stand; of what is no folder none.
func TestEntries(t *testing.T) {
	r := garden(t)
	x := r.node(r.number("/d"))
	l, e := r.Entries(x)
	if want := []dirent.Entry{{Node: r.number("/d/e"), Name: "e"}, {Node: r.number("/d/f"), Name: "f"}}; e != api.OK || !slices.Equal(l, want) {
		t.Error(l, e, want)
	}
	l[0] = dirent.Entry{}
	if l, e := r.Entries(x); e != api.OK || l[0].Name != "e" {
		t.Error("it was changed:", l, e)
	}
	if l, e := r.Entries(r.node(r.number("/d/e"))); len(l) != 0 || e != api.OK {
		t.Error("of an empty one", l, e)
	}
	for _, x := range []inode.Inode{{}, r.node(r.number("/h")), {Kind: 7}} {
		if l, e := r.Entries(x); l != nil || e != api.NotDir {
			t.Error(x, l, e)
		}
	}
	r.ok("Unlink", r.Unlink("/d/f"))
	if l, e := r.Entries(r.node(r.number("/d"))); len(l) != 1 || e != api.OK {
		t.Error(l, e)
	}
	// Any inode may be handed in.
	most := uint32(r.Layout().Most())
	for _, x := range []struct {
		x    inode.Inode
		many int
		e    api.Errno
	}{
		{inode.Inode{Kind: inode.Folder, Size: 31}, 0, api.OK},
		{inode.Inode{Kind: inode.Folder, Size: 1000}, 31, api.OK},
		{inode.Inode{Kind: inode.Folder, Size: most}, int(most / 32), api.OK},
		{inode.Inode{Kind: inode.Folder, Size: most + 1}, 0, api.Form},
		{inode.Inode{Kind: inode.Folder, Size: 1<<32 - 1}, 0, api.Form},
		{inode.Inode{Kind: inode.Folder, Size: 32, Direct: [8]uint32{0}}, 1, api.OK},
		{inode.Inode{Kind: inode.Folder, Size: 32, Direct: [8]uint32{408}}, 0, api.Range},
		{inode.Inode{Kind: inode.Folder, Size: 32, Direct: [8]uint32{1<<32 - 1}}, 0, api.Range},
		{inode.Inode{Kind: inode.Folder, Size: 10 * 320, Single: 1 << 31}, 0, api.Range},
		{inode.Inode{Kind: inode.Folder, Size: 100 * 320, Double: 408}, 0, api.Range},
		{inode.Inode{Kind: inode.Folder, Size: 32, Direct: r.node(r.number("/g")).Direct}, 0, api.Form},
	} {
		if l, e := r.Entries(x.x); len(l) != x.many || e != x.e {
			t.Error(x.x, len(l), e)
		}
	}
}

// The example of the chapter.
func TestExample(t *testing.T) {
	r := plant(t, small)
	r.folder("/a")
	r.file("/a/f")
	r.ok("Rename", r.Rename("/a", "/b"))
	r.listed("/", "/", "/b", "/b/f")
	if l, _ := names.Split("/b/f"); names.Join(l...) != "/b/f" || r.number("/b/f") == 0 || r.number("/a") != 0 {
		t.Error("/b/f isn't there")
	}
}
