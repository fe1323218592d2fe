package tree_test

import (
	"fmt"
	"slices"
	"strings"
	"testing"

	"gabion/api"
	"gabion/inode"
)

// garden: a tree with all that calls may meet: /d a folder with /d/e, that is empty, and the file /d/f, that is /g, too; /h a file of one name; /full a folder, /most a file, that have most names; some of it waits.
func garden(t *testing.T) *rig {
	t.Helper()
	r := plant(t, some)
	r.folder("/d")
	r.folder("/d/e")
	n := r.file("/d/f")
	r.write(n, 0, ink(900, 1))
	r.ok("Link", r.Link("/d/f", "/g"))
	r.write(r.file("/h"), 100, ink(500, 2))
	r.sync()
	r.folder("/full")
	r.file("/full/x")
	r.file("/most")
	r.ok("Mend", r.Mend(map[uint32]int{r.number("/full"): api.MaxLinks, r.number("/most"): api.MaxLinks}, nil))
	return r
}

// wrong is a path that may not be, or that leads through what is no folder, and what is answered of it.
type wrong struct {
	path string
	e    api.Errno
}

// paths that lead nowhere, whatever is asked of them.
var nowhere = []wrong{
	{"", api.Inval},
	{"h", api.Inval},
	{"./h", api.Inval},
	{"\xff", api.Inval},
	{"/\xff", api.Inval},
	{"/a\xe4b", api.Inval},
	{"/\x00", api.Inval},
	{"/h\n", api.Inval},
	{"/\x7f", api.Inval},
	{"/" + strings.Repeat("x", 25), api.NameLen},
	{"/n/" + strings.Repeat("x", 25), api.NameLen},
	{"/" + strings.Repeat("x", 25) + "/..", api.NameLen},
	{strings.Repeat("/x", 13), api.NameLen},
	{strings.Repeat("/", 201), api.NameLen},
	{strings.Repeat("/long", 1000), api.NameLen},
	{"/n/x", api.NoEnt},
	{"/n/m/x", api.NoEnt},
	{"/d/n/x", api.NoEnt},
	{"/d/e/n/x", api.NoEnt},
	{"/h/x", api.NotDir},
	{"/h/x/y", api.NotDir},
	{"/d/f/x", api.NotDir},
	{"/d/e/../f/x/y", api.NotDir},
}

// missing: paths whose last name isn't there.
var missing = []wrong{{"/n", api.NoEnt}, {"/D", api.NoEnt}, {"/d/h", api.NoEnt}, {"/d/e/x", api.NoEnt}, {"/full/y/", api.NoEnt}}

// roots: paths that name the root.
var roots = []string{"/", "//", "/.", "/..", "/d/..", "/../d/e/../.."}

// P20.1, P20.2, P1: a path that is wrong is told by all calls, and nothing is changed.
func TestWrongPaths(t *testing.T) {
	r := garden(t)
	for _, x := range slices.Concat(nowhere, missing) {
		if n, y, e := r.Find(x.path); n != 0 || y != (inode.Inode{}) || e != x.e {
			t.Errorf("Find %q: %v %v %v", x.path, n, y, e)
		}
		r.listed(x.path)
		r.refuse(fmt.Sprintf("Link of %q", x.path), x.e, func() api.Errno { return r.Link(x.path, "/new") })
		r.refuse(fmt.Sprintf("Link of %q", x.path), x.e, func() api.Errno { return r.Link(x.path, "") })
		r.refuse(fmt.Sprintf("Unlink of %q", x.path), x.e, func() api.Errno { return r.Unlink(x.path, 1, 2, 3) })
		r.refuse(fmt.Sprintf("Rmdir of %q", x.path), x.e, func() api.Errno { return r.Rmdir(x.path) })
		for _, to := range []string{"/new", "", "/", "/h"} {
			r.refuse(fmt.Sprintf("Rename of %q to %q", x.path, to), x.e, func() api.Errno { return r.Rename(x.path, to) })
		}
	}
	for _, x := range nowhere {
		r.refuse(fmt.Sprintf("Create %q", x.path), x.e, func() api.Errno { return zero(t, r.Create, x.path) })
		r.refuse(fmt.Sprintf("Mkdir %q", x.path), x.e, func() api.Errno { return zero(t, r.Mkdir, x.path) })
		r.refuse(fmt.Sprintf("Link to %q", x.path), x.e, func() api.Errno { return r.Link("/h", x.path) })
		r.refuse(fmt.Sprintf("Link to %q", x.path), x.e, func() api.Errno { return r.Link("/most", x.path) })
		r.refuse(fmt.Sprintf("Rename of a file to %q", x.path), x.e, func() api.Errno { return r.Rename("/g", x.path) })
		r.refuse(fmt.Sprintf("Rename of a folder to %q", x.path), x.e, func() api.Errno { return r.Rename("/d/e", x.path) })
	}
}

// zero: a call that answers a number; with an error that is 0.
func zero(t *testing.T, call func(path string) (uint32, api.Errno), path string) api.Errno {
	t.Helper()
	n, e := call(path)
	if e != api.OK && n != 0 {
		t.Error(path, "answers", n, "with", e)
	}
	return e
}

// P20.1, P20.2: the root in each place where a path may name it.
func TestRoot(t *testing.T) {
	r := garden(t)
	for _, p := range roots {
		if n, x, e := r.Find(p); n != inode.Root || x.Kind != inode.Folder || e != api.OK {
			t.Error(p, n, x, e)
		}
		r.refuse("Create "+p, api.Exist, func() api.Errno { return zero(t, r.Create, p) })
		r.refuse("Mkdir "+p, api.Exist, func() api.Errno { return zero(t, r.Mkdir, p) })
		r.refuse("Link of "+p, api.IsDir, func() api.Errno { return r.Link(p, "/new") })
		r.refuse("Link to "+p, api.Exist, func() api.Errno { return r.Link("/h", p) })
		r.refuse("Unlink "+p, api.IsDir, func() api.Errno { return r.Unlink(p) })
		r.refuse("Unlink "+p, api.IsDir, func() api.Errno { return r.Unlink(p, inode.Root) })
		r.refuse("Rmdir "+p, api.State, func() api.Errno { return r.Rmdir(p) })
		for _, to := range []string{"/new", "/", "", "/n/x", "/h/x", "/d"} {
			r.refuse("Rename "+p+" to "+to, api.State, func() api.Errno { return r.Rename(p, to) })
		}
		for _, from := range []string{"/d", "/d/e", "/h", "/full"} {
			r.refuse("Rename "+from+" to "+p, api.State, func() api.Errno { return r.Rename(from, p) })
		}
		r.refuse("Rename to "+p, api.NoEnt, func() api.Errno { return r.Rename("/n", p) })
	}
	// The root of a tree that is empty, too.
	r = plant(t, small)
	r.refuse("Rmdir", api.State, func() api.Errno { return r.Rmdir("/") })
	r.refuse("Rename", api.State, func() api.Errno { return r.Rename("/", "/") })
}

// P20.1: what is made is there: a file of one name, a folder of two; the lowest free inode; a folder is one name more of the one that it is in.
func TestCreate(t *testing.T) {
	r := plant(t, small)
	if n := r.folder("/a"); n != 2 {
		t.Error("Mkdir:", n)
	}
	if n := r.file("/a/f"); n != 3 {
		t.Error("Create:", n)
	}
	if n := r.folder("/a/b"); n != 4 {
		t.Error("Mkdir:", n)
	}
	if n := r.file("/./c/../a//g/"); n != 5 {
		t.Error("Create:", n)
	}
	if x := r.node(3); x != (inode.Inode{Kind: inode.File, Links: 1}) {
		t.Error("a file:", x)
	}
	if x := r.node(4); x != (inode.Inode{Kind: inode.Folder, Links: 2}) {
		t.Error("a folder:", x)
	}
	r.links("/", 3)
	r.links("/a", 3)
	r.listed("/", "/", "/a", "/a/b", "/a/f", "/a/g")
	if x := r.node(2); x.Size != 3*32 || !slices.Equal(r.slots("/a"), []string{"f", "b", "g"}) {
		t.Error("/a:", x, r.slots("/a"))
	}
	for _, p := range []string{"/a", "/a/f", "/a/b", "/a/b/.", "/a/b/../g"} {
		r.refuse("Create "+p, api.Exist, func() api.Errno { return zero(t, r.Create, p) })
		r.refuse("Mkdir "+p, api.Exist, func() api.Errno { return zero(t, r.Mkdir, p) })
	}
	r.ok("Unlink", r.Unlink("/a/f"))
	if n := r.folder("/z"); n != 3 {
		t.Error("the lowest free inode:", n)
	}
	// The longest name, the deepest path, letters of more than a byte.
	long := "/" + strings.Repeat("ä", 12)
	r.file(long)
	deep := ""
	for range api.MaxDepth - 1 {
		deep += "/x"
		r.folder(deep)
	}
	r.file(deep + "/y")
	r.whole("all")
	r.sync()
	r.again().whole("mounted")
}

// P20.1, P20.2: a folder with most names; that is told behind Exist, ahead of NoSpc; a file in it isn't a name more of it.
func TestMostFolders(t *testing.T) {
	r := garden(t)
	r.refuse("Mkdir", api.MLink, func() api.Errno { return zero(t, r.Mkdir, "/full/y") })
	r.refuse("Mkdir", api.Exist, func() api.Errno { return zero(t, r.Mkdir, "/full/x") })
	r.refuse("Rename", api.MLink, func() api.Errno { return r.Rename("/d/e", "/full/y") })
	r.ok("Mend", r.Mend(map[uint32]int{r.number("/full"): api.MaxLinks - 1}, nil))
	r.folder("/full/y")
	r.links("/full", api.MaxLinks)
	r.file("/full/z")
	r.ok("Rename", r.Rename("/h", "/full/w"))
	r.links("/full", api.MaxLinks)
	r.refuse("Mkdir", api.MLink, func() api.Errno { return zero(t, r.Mkdir, "/full/v") })
	// One for another, and within itself: it has no more than it had.
	r.refuse("Rename", api.MLink, func() api.Errno { return r.Rename("/d/e", "/full/v") })
	r.ok("Rename", r.Rename("/full/y", "/full/v"))
	r.ok("Rename", r.Rename("/d/e", "/full/v"))
	r.links("/full", api.MaxLinks)
	r.links("/d", 2)
	r.ok("Rmdir", r.Rmdir("/full/v"))
	r.links("/full", api.MaxLinks-1)
	r.whole("all")
}

// P20.1: likewise with as many folders.
func TestMostFoldersOneByOne(t *testing.T) {
	r := plant(t, great)
	r.folders("", api.MaxLinks-2)
	r.links("/", api.MaxLinks)
	r.refuse("Mkdir", api.MLink, func() api.Errno { return zero(t, r.Mkdir, "/more") })
	r.file("/more")
	r.folder("/d7/x")
	r.refuse("Rename", api.MLink, func() api.Errno { return r.Rename("/d7/x", "/x") })
	r.ok("Rename", r.Rename("/d7/x", "/d8"))
	r.ok("Rmdir", r.Rmdir("/d9"))
	r.folder("/y")
	r.refuse("Mkdir", api.MLink, func() api.Errno { return zero(t, r.Mkdir, "/z") })
	r.whole("all")
	r.sync()
	r.again().links("/", api.MaxLinks)
}

// P20.1: a file has one more name, up to most.
func TestLink(t *testing.T) {
	r := plant(t, small)
	r.folder("/d")
	n := r.file("/f")
	r.write(n, 3, ink(300, 1))
	r.ok("Link", r.Link("/f", "/d/g"))
	r.ok("Link", r.Link("/d/g", "/d/h"))
	if r.number("/d/g") != n || r.number("/d/h") != n {
		t.Error("they aren't one")
	}
	r.links("/f", 3)
	r.links("/d", 2)
	r.write(n, 0, []byte{1, 2, 3})
	r.holds("/d/h", append([]byte{1, 2, 3}, ink(300, 1)...))
	for i := 3; i < api.MaxLinks; i++ {
		r.ok("Link", r.Link("/f", fmt.Sprint("/d/", i)))
	}
	r.links("/f", api.MaxLinks)
	r.refuse("Link", api.MLink, func() api.Errno { return r.Link("/f", "/x") })
	r.refuse("Link", api.MLink, func() api.Errno { return r.Link("/d/100", "/d/x") })
	r.refuse("Link", api.Exist, func() api.Errno { return r.Link("/f", "/d") })
	r.refuse("Link", api.Exist, func() api.Errno { return r.Link("/f", "/f") })
	r.ok("Unlink", r.Unlink("/d/77"))
	r.ok("Link", r.Link("/f", "/x"))
	r.ok("Rename", r.Rename("/x", "/y"))
	r.refuse("Link", api.MLink, func() api.Errno { return r.Link("/f", "/z") })
	r.whole("all")
}

// P20.2: what Link answers first: what is wrong with old, IsDir, what is wrong with path, Exist, MLink.
func TestLinkErrors(t *testing.T) {
	r := garden(t)
	for _, x := range []struct {
		old, path string
		e         api.Errno
	}{
		{"/d", "/new", api.IsDir},
		{"/d", "", api.IsDir},
		{"/d", "/n/x", api.IsDir},
		{"/d", "/h", api.IsDir},
		{"/d/e/", "/h/x", api.IsDir},
		{"/h", "", api.Inval},
		{"/h", "/n/x", api.NoEnt},
		{"/h", "/h/x", api.NotDir},
		{"/h", "/d/f", api.Exist},
		{"/h", "/d", api.Exist},
		{"/h", "/h", api.Exist},
		{"/most", "/most/x", api.NotDir},
		{"/most", "/n/x", api.NoEnt},
		{"/most", "/most", api.Exist},
		{"/most", "/d/e", api.Exist},
		{"/most", "/new", api.MLink},
		{"/most", "/d/e/new", api.MLink},
	} {
		r.refuse("Link "+x.old+" "+x.path, x.e, func() api.Errno { return r.Link(x.old, x.path) })
	}
}

// P20.1, P20.2: a file has a name less; with the last one it is given up, with its blocks, but if it is held.
func TestUnlink(t *testing.T) {
	r := garden(t)
	n, h := r.number("/g"), r.number("/h")
	blocks, nodes, _ := r.Space()
	for _, p := range []string{"/d", "/d/e", "/full"} {
		r.refuse("Unlink "+p, api.IsDir, func() api.Errno { return r.Unlink(p) })
		r.refuse("Unlink "+p, api.IsDir, func() api.Errno { return r.Unlink(p, r.number(p)) })
	}
	r.refuse("Unlink", api.State, func() api.Errno { return r.Unlink("/h", h) })
	r.refuse("Unlink", api.State, func() api.Errno { return r.Unlink("/h", 1, n, h, 1<<31) })
	held := []uint32{n, h, 77}
	r.ok("Unlink", r.Unlink("/g", held[:2]...))
	if !slices.Equal(held, []uint32{n, h, 77}) {
		t.Error("what is held was changed:", held)
	}
	r.space("a name less:", blocks, nodes)
	r.links("/d/f", 1)
	r.holds("/d/f", ink(900, 1))
	r.refuse("Unlink", api.State, func() api.Errno { return r.Unlink("/d/f", held...) })
	r.ok("Unlink", r.Unlink("/d/f", h, 0))
	r.space("a file less:", blocks+3, nodes+1)
	if x := r.node(n); x != (inode.Inode{}) {
		t.Error("it is still there:", x)
	}
	r.ok("Unlink", r.Unlink("/h"))
	// Of 100 + 500 bytes the first and the second block.
	r.space("two files less:", blocks+3+2, nodes+2)
	r.refuse("Unlink", api.NoEnt, func() api.Errno { return r.Unlink("/h") })
	r.listed("/", "/", "/d", "/d/e", "/full", "/full/x", "/most")
	r.whole("all")
	r.sync()
	r.again().listed("/", "/", "/d", "/d/e", "/full", "/full/x", "/most")
}

// P20.1, P20.2: an empty folder is given up.
func TestRmdir(t *testing.T) {
	r := garden(t)
	e := r.number("/d/e")
	blocks, nodes, _ := r.Space()
	for _, x := range []wrong{{"/h", api.NotDir}, {"/d/f", api.NotDir}, {"/most", api.NotDir}, {"/d", api.NotEmpt}, {"/full", api.NotEmpt}} {
		r.refuse("Rmdir "+x.path, x.e, func() api.Errno { return r.Rmdir(x.path) })
	}
	r.links("/d", 3)
	r.ok("Rmdir", r.Rmdir("/d/e"))
	r.links("/d", 2)
	r.space("a folder less:", blocks, nodes+1)
	if x := r.node(e); x != (inode.Inode{}) {
		t.Error("it is still there:", x)
	}
	r.ok("Unlink", r.Unlink("/d/f"))
	if x := r.node(r.number("/d")); x.Size != 0 || x.Direct[0] != 0 {
		t.Error("an empty folder has", x)
	}
	r.space("no name in it:", blocks+1, nodes+1)
	r.ok("Rmdir", r.Rmdir("/d"))
	r.refuse("Rmdir", api.NoEnt, func() api.Errno { return r.Rmdir("/d") })
	r.links("/", 3)
	r.whole("all")
}

// P20.1: an entry goes to the first place that is free; a folder's end is cut behind its last name, and so are its blocks.
func TestPlacesOfEntries(t *testing.T) {
	r := plant(t, small)
	r.folder("/d")
	n := r.number("/d")
	blocks := r.free()
	for i := range 10 {
		r.file(fmt.Sprint("/d/", i))
	}
	if x := r.node(n); x.Size != 10*32 || r.free() != blocks-2 {
		t.Error("ten names:", x, r.free())
	}
	r.ok("Unlink", r.Unlink("/d/3"))
	r.ok("Unlink", r.Unlink("/d/1"))
	r.ok("Unlink", r.Unlink("/d/8"))
	if s := r.slots("/d"); !slices.Equal(s, []string{"0", "", "2", "", "4", "5", "6", "7", "", "9"}) {
		t.Error(s)
	}
	r.ok("Unlink", r.Unlink("/d/9"))
	if s := r.slots("/d"); !slices.Equal(s, []string{"0", "", "2", "", "4", "5", "6", "7"}) || r.node(n).Size != 8*32 || r.free() != blocks-1 {
		t.Error(s, r.node(n), r.free())
	}
	r.file("/d/a")
	r.file("/d/b")
	r.file("/d/c")
	if s := r.slots("/d"); !slices.Equal(s, []string{"0", "a", "2", "b", "4", "5", "6", "7", "c"}) || r.free() != blocks-2 {
		t.Error(s, r.free())
	}
	// A name that goes within a folder leaves its place ahead of taking one.
	r.ok("Rename", r.Rename("/d/2", "/d/x"))
	r.ok("Rename", r.Rename("/d/c", "/d/7"))
	if s := r.slots("/d"); !slices.Equal(s, []string{"0", "a", "x", "b", "4", "5", "6", "7"}) || r.free() != blocks-1 {
		t.Error(s, r.free())
	}
	for _, name := range r.slots("/d") {
		r.ok("Unlink", r.Unlink("/d/"+name))
	}
	if x := r.node(n); x.Size != 0 || x.Direct[0] != 0 || r.free() != blocks {
		t.Error("no name:", x, r.free())
	}
	r.whole("all")
}

// P20.1: a file goes, within its folder, to another one, onto one that is given up, onto one of several names.
func TestRenameFile(t *testing.T) {
	r := garden(t)
	n, h := r.number("/g"), r.number("/h")
	blocks, nodes, _ := r.Space()
	r.ok("Rename", r.Rename("/h", "/i"))
	r.ok("Rename", r.Rename("/i", "/d/e/j"))
	if r.number("/d/e/j") != h || r.number("/h") != 0 || r.number("/i") != 0 {
		t.Error("it hasn't gone")
	}
	r.space("a folder has a name:", blocks-1, nodes)
	r.links("/d/e/j", 1)
	r.links("/d/e", 2)
	// Onto itself, and onto another name of the same inode: nothing.
	for _, x := range [][2]string{{"/g", "/g"}, {"/g", "/./g/"}, {"/g", "/d/f"}, {"/d/f", "/g"}} {
		r.refuse("Rename "+x[0]+" "+x[1], api.OK, func() api.Errno { return r.Rename(x[0], x[1], n) })
	}
	// Onto a name of a file that has more: that has one less, held or not.
	r.ok("Rename", r.Rename("/d/e/j", "/g", n, h))
	if r.number("/g") != h || r.number("/d/f") != n {
		t.Error("it hasn't gone")
	}
	r.links("/d/f", 1)
	r.space("a name less:", blocks, nodes)
	// Onto the last name: the file is given up, but if it is held. What goes may be held.
	r.refuse("Rename", api.State, func() api.Errno { return r.Rename("/g", "/d/f", n) })
	r.refuse("Rename", api.State, func() api.Errno { return r.Rename("/g", "/d/f", 5, 4, 3, 2, 1, 0, h, n) })
	r.ok("Rename", r.Rename("/g", "/d/f", h))
	r.space("a file less:", blocks+3, nodes+1)
	if r.number("/d/f") != h || r.node(n) != (inode.Inode{}) {
		t.Error("it hasn't gone")
	}
	r.holds("/d/f", append(make([]byte, 100), ink(500, 2)...))
	r.whole("all")
}

// P20.1: a folder goes with all that is in it; what it goes onto is an empty one, that is given up.
func TestRenameFolder(t *testing.T) {
	r := garden(t)
	d, e := r.number("/d"), r.number("/d/e")
	r.folder("/k")
	r.folder("/k/l")
	_, nodes, _ := r.Space()
	r.ok("Rename", r.Rename("/d", "/k/l/m"))
	r.listed("/k", "/k", "/k/l", "/k/l/m", "/k/l/m/e", "/k/l/m/f")
	r.links("/", 4)
	r.links("/k/l", 3)
	r.links("/k/l/m", 3)
	r.ok("Rename", r.Rename("/k/l/m", "/k/m"))
	r.links("/k/l", 2)
	r.links("/k", 4)
	// Onto an empty one.
	r.ok("Rename", r.Rename("/k/m", "/k/l"))
	r.links("/k", 3)
	if r.number("/k/l") != d || r.number("/k/m") != 0 {
		t.Error("it hasn't gone")
	}
	if _, n, _ := r.Space(); n != nodes+1 {
		t.Error("what it went onto isn't free:", n, nodes)
	}
	// Out of itself, onto itself, and onto the one that it is in.
	r.refuse("Rename", api.OK, func() api.Errno { return r.Rename("/k/l", "/k/l/") })
	r.refuse("Rename", api.NotEmpt, func() api.Errno { return r.Rename("/k/l/e", "/k/l") })
	r.refuse("Rename", api.NotEmpt, func() api.Errno { return r.Rename("/k/l/e", "/k") })
	r.ok("Rename", r.Rename("/k/l/e", "/e"))
	if r.number("/e") != e {
		t.Error("it hasn't gone")
	}
	r.links("/k/l", 2)
	r.holds("/k/l/f", ink(900, 1))
	// Of two names that begin alike none lies in the other.
	r.ok("Rename", r.Rename("/k", "/kk"))
	r.folder("/k")
	r.ok("Rename", r.Rename("/k", "/kk/k"))
	r.listed("/kk", "/kk", "/kk/k", "/kk/l", "/kk/l/f")
	r.whole("all")
	r.sync()
	r.again().listed("/kk", "/kk", "/kk/k", "/kk/l", "/kk/l/f")
}

// P20.2: what Rename answers first: of from, of to, Loop, nothing, NotDir and IsDir, NotEmpt, State.
func TestRenameErrors(t *testing.T) {
	r := garden(t)
	n, h := r.number("/d/f"), r.number("/h")
	for _, x := range []struct {
		from, to string
		e        api.Errno
	}{
		{"/", "", api.State},
		{"/n", "/", api.NoEnt},
		{"/h/x", "/", api.NotDir},
		{"/h", "/", api.State},
		{"/d", "/", api.State},
		{"/d", "", api.Inval},
		{"/d", "/d/n/x", api.NoEnt},
		{"/d", "/d/f/x", api.NotDir},
		{"/d", "/d/x", api.Loop},
		{"/d", "/d/e", api.Loop},
		{"/d", "/d/f", api.Loop},
		{"/d", "/d/e/x", api.Loop},
		{"/d", "/d/e/../e/./x", api.Loop},
		{"/d/e", "/d/e/x", api.Loop},
		{"/d", "/h", api.NotDir},
		{"/d/e", "/d/f", api.NotDir},
		{"/h", "/d/e", api.IsDir},
		{"/h", "/d", api.IsDir},
		{"/d/f", "/d", api.IsDir},
		{"/h", "/h/x", api.NotDir},
		{"/d", "/full", api.NotEmpt},
		{"/d/e", "/d", api.NotEmpt},
		{"/h", "/most", api.OK},
		{"/full", "/d/e", api.OK},
	} {
		if x.e == api.OK {
			r.ok("Rename", r.Rename(x.from, x.to, n, h))
			continue
		}
		r.refuse("Rename "+x.from+" "+x.to, x.e, func() api.Errno { return r.Rename(x.from, x.to, n, h) })
	}
	r.links("/d", 3)
	r.links("/", 3)
}

// P20.1, P20.2: a tree that is full of inodes, and one that is full of blocks: NoSpc, behind all else; what needs none is done.
func TestFull(t *testing.T) {
	r := plant(t, small)
	r.folder("/d")
	f := r.file("/f")
	for i := 3; i < r.Layout().Nodes; i++ {
		r.file(fmt.Sprint("/d/", i))
	}
	r.space("no inode:", 62, 0)
	r.refuse("Create", api.NoSpc, func() api.Errno { return zero(t, r.Create, "/x") })
	r.refuse("Mkdir", api.NoSpc, func() api.Errno { return zero(t, r.Mkdir, "/d/x") })
	r.refuse("Create", api.Exist, func() api.Errno { return zero(t, r.Create, "/d/7") })
	r.refuse("Create", api.NoEnt, func() api.Errno { return zero(t, r.Create, "/n/7") })
	r.ok("Mend", r.Mend(map[uint32]int{2: api.MaxLinks}, nil))
	r.refuse("Mkdir", api.MLink, func() api.Errno { return zero(t, r.Mkdir, "/d/x") })
	r.ok("Link", r.Link("/f", "/g"))
	r.ok("Rename", r.Rename("/g", "/d/9"))
	if n := r.file("/x"); n != 10 {
		t.Error("the free inode:", n)
	}
	r.whole("no inode:")

	// 62 blocks: 60 of the file with the one that names those behind the first 8, and one more; then none.
	r.ok("Unlink", r.Unlink("/x"))
	for i := range 60 {
		r.write(f, int64(i*256), ink(1, i))
	}
	r.space("a block:", 1, 1)
	r.refuse("WriteAt", api.NoSpc, func() api.Errno { return r.WriteAt(f, 72*256, []byte{1}) })
	r.refuse("WriteAt", api.NoSpc, func() api.Errno { return r.WriteAt(f, 60*256-10, ink(300, 1)) })
	r.write(f, 60*256-10, ink(266, 1))
	r.space("no block:", 0, 1)
	r.refuse("WriteAt", api.NoSpc, func() api.Errno { return r.WriteAt(f, 61*256, []byte{0}) })
	r.refuse("WriteAt", api.FBig, func() api.Errno { return r.WriteAt(f, r.Layout().Most(), []byte{0}) })
	r.refuse("WriteAt", api.Inval, func() api.Errno { return r.WriteAt(f, -1, []byte{0}) })
	r.refuse("WriteAt", api.OK, func() api.Errno { return r.WriteAt(f, 61*256, nil) })
	r.write(f, 0, ink(1024, 9))
	r.ok("Truncate", r.Truncate(f, 100000))
	r.write(f, 60*256, ink(256, 3))
	for len(r.slots("/")) < 8 {
		r.ok("Link", r.Link("/f", fmt.Sprint("/", len(r.slots("/")))))
	}
	r.refuse("Create", api.NoSpc, func() api.Errno { return zero(t, r.Create, "/x") })
	r.refuse("Mkdir", api.NoSpc, func() api.Errno { return zero(t, r.Mkdir, "/x") })
	r.refuse("Link", api.NoSpc, func() api.Errno { return r.Link("/f", "/x") })
	r.refuse("Link", api.Exist, func() api.Errno { return r.Link("/f", "/2") })
	r.ok("Mend", r.Mend(map[uint32]int{f: api.MaxLinks}, nil))
	r.refuse("Link", api.MLink, func() api.Errno { return r.Link("/f", "/x") })
	r.refuse("Rename", api.NoSpc, func() api.Errno { return r.Rename("/d/7", "/x") })
	r.refuse("Rename", api.NoSpc, func() api.Errno { return r.Rename("/d/7", "/x") })
	r.ok("Rename", r.Rename("/2", "/x"))
	r.ok("Rename", r.Rename("/d/7", "/x"))
	r.whole("no block:")
	r.sync()
	r.again().whole("mounted")
	r.ok("Unlink", r.Unlink("/5"))
	r.file("/5")
}

// P20.1: a tree that is full of entries: folders of many blocks, through Single, too.
func TestManyEntries(t *testing.T) {
	r := plant(t, small)
	m := newModel(r.Layout())
	do := func(o order) string {
		t.Helper()
		got, want := o.tree(r.Tree), o.model(m)
		if got != want {
			t.Fatal(o, "answers", got, "want", want)
		}
		return got
	}
	many := 0
	for i := 0; ; i++ {
		file := fmt.Sprint("/f", i/api.MaxLinks)
		o := order{word: "link", a: file, b: fmt.Sprint("/", i)}
		if i%api.MaxLinks == 0 {
			o = order{word: "create", a: file}
		}
		if is(do(o), api.NoSpc) {
			break
		}
		many++
	}
	r.same("full", m)
	r.whole("full")
	r.space("full", 0, 16)
	// Of 66 blocks one names others: in each of those 8 names.
	if many != 65*8 || r.node(1).Single == 0 {
		t.Error("so many names:", many, r.node(1))
	}
	r.sync()
	r.again().same("mounted", m)
	d := dice(5)
	for range many - 3 {
		l := m.paths()
		do(order{word: "unlink", a: l[1+d.next(len(l)-1)]})
	}
	r.same("fewer", m)
	r.whole("fewer")
}
