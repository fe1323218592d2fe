package fs_test

import (
	"fmt"
	"slices"
	"strings"
	"testing"

	"gabion/api"
	"gabion/fs"
)

// wrong: paths that are none, and what each call that splits them answers.
func wrong() map[string]api.Errno {
	return map[string]api.Errno{
		"":                             api.Inval,
		"a":                            api.Inval,
		"/a\x00":                       api.Inval,
		"/\xff":                        api.Inval,
		"/\x7f/..":                     api.Inval,
		"/" + strings.Repeat("x", 25):  api.NameLen,
		strings.Repeat("/a", 13):       api.NameLen,
		"/" + strings.Repeat("/", 200): api.NameLen,
		"/n/n":                         api.NoEnt,
		"/a/n/b":                       api.NoEnt,
		"/f/n":                         api.NotDir,
		"/a/h/n":                       api.NotDir,
		"/d/../f/../e/n":               api.NotDir,
	}
}

// P21.1: each call that takes a path answers what is wrong with it, ahead of all else.
func TestWrongPaths(t *testing.T) {
	r := garden(t, small)
	for path, want := range wrong() {
		for what, call := range map[string]func() api.Errno{
			"Create":       func() api.Errno { return r.Create(path) },
			"Mkdir":        func() api.Errno { return r.Mkdir(path) },
			"Link":         func() api.Errno { return r.Link(path, "") },
			"Link to":      func() api.Errno { return r.Link("/f", path) },
			"Unlink":       func() api.Errno { return r.Unlink(path) },
			"Rmdir":        func() api.Errno { return r.Rmdir(path) },
			"Rename":       func() api.Errno { return r.Rename(path, "/") },
			"Rename to":    func() api.Errno { return r.Rename("/f", path) },
			"Rename to it": func() api.Errno { return r.Rename("/a", path) },
			"Stat":         func() api.Errno { return just(r.Stat(path)) },
			"List":         func() api.Errno { return just(r.List(path)) },
			"Open":         func() api.Errno { return just(r.Open(path)) },
			"Glob":         func() api.Errno { return just(r.Glob(path, "*")) },
			"Pack":         func() api.Errno { return just(r.Pack(path)) },
			"Unpack":       func() api.Errno { return just(r.Unpack(path, pack())) },
		} {
			r.refuse(fmt.Sprintf("%s %q", what, path), want, call)
		}
		r.walked(path)
	}
}

// P21.1: each call with each of its errors; where two could be answered, the first.
func TestNamesErrors(t *testing.T) {
	r := garden(t, small)
	for _, c := range []struct {
		what string
		want api.Errno
		call func() api.Errno
	}{
		{"Create a folder's", api.Exist, func() api.Errno { return r.Create("/a") }},
		{"Create a file's", api.Exist, func() api.Errno { return r.Create("/a/h") }},
		{"Create the root", api.Exist, func() api.Errno { return r.Create("/") }},
		{"Create the root otherwise", api.Exist, func() api.Errno { return r.Create("/a/./..//.") }},
		{"Mkdir a folder's", api.Exist, func() api.Errno { return r.Mkdir("/a/b") }},
		{"Mkdir a file's", api.Exist, func() api.Errno { return r.Mkdir("/f") }},
		{"Mkdir the root", api.Exist, func() api.Errno { return r.Mkdir("/..") }},
		{"Link of none", api.NoEnt, func() api.Errno { return r.Link("/n", "/f") }},
		{"Link of a folder", api.IsDir, func() api.Errno { return r.Link("/a", "/f") }},
		{"Link of the root", api.IsDir, func() api.Errno { return r.Link("/", "nothing") }},
		{"Link to a file's", api.Exist, func() api.Errno { return r.Link("/f", "/e") }},
		{"Link to itself", api.Exist, func() api.Errno { return r.Link("/f", "/f") }},
		{"Link to the root", api.Exist, func() api.Errno { return r.Link("/f", "/") }},
		{"Unlink none", api.NoEnt, func() api.Errno { return r.Unlink("/n") }},
		{"Unlink a folder", api.IsDir, func() api.Errno { return r.Unlink("/d") }},
		{"Unlink the root", api.IsDir, func() api.Errno { return r.Unlink("/") }},
		{"Rmdir the root", api.State, func() api.Errno { return r.Rmdir("/a/..") }},
		{"Rmdir none", api.NoEnt, func() api.Errno { return r.Rmdir("/n") }},
		{"Rmdir a file", api.NotDir, func() api.Errno { return r.Rmdir("/f") }},
		{"Rmdir a full one", api.NotEmpt, func() api.Errno { return r.Rmdir("/a") }},
		{"Rename the root", api.State, func() api.Errno { return r.Rename("/", "/a/b/c/d") }},
		{"Rename none", api.NoEnt, func() api.Errno { return r.Rename("/n", "/") }},
		{"Rename to the root", api.State, func() api.Errno { return r.Rename("/a", "/") }},
		{"Rename into itself", api.Loop, func() api.Errno { return r.Rename("/a", "/a/b") }},
		{"Rename into what isn't there", api.Loop, func() api.Errno { return r.Rename("/a", "/a/n") }},
		{"Rename a folder to a file", api.NotDir, func() api.Errno { return r.Rename("/d", "/f") }},
		{"Rename a file to a folder", api.IsDir, func() api.Errno { return r.Rename("/f", "/a") }},
		{"Rename to a full folder", api.NotEmpt, func() api.Errno { return r.Rename("/d", "/a") }},
		{"Rename to itself", api.OK, func() api.Errno { return r.Rename("/f", "/f") }},
		{"Rename to its other name", api.OK, func() api.Errno { return r.Rename("/f", "/a/g") }},
		{"Stat none", api.NoEnt, func() api.Errno { return just(r.Stat("/n")) }},
		{"List none", api.NoEnt, func() api.Errno { return just(r.List("/n")) }},
		{"List a file", api.NotDir, func() api.Errno { return just(r.List("/f")) }},
		{"Open none", api.NoEnt, func() api.Errno { return just(r.Open("/n")) }},
		{"Open a folder", api.IsDir, func() api.Errno { return just(r.Open("/a")) }},
		{"Open the root", api.IsDir, func() api.Errno { return just(r.Open("/")) }},
		{"Glob none", api.NoEnt, func() api.Errno { return just(r.Glob("/n", "*")) }},
		{"Glob a file", api.NotDir, func() api.Errno { return just(r.Glob("/f", "*")) }},
		{"Pack none", api.NoEnt, func() api.Errno { return just(r.Pack("/n")) }},
		{"Pack a file", api.NotDir, func() api.Errno { return just(r.Pack("/f")) }},
		{"Unpack into none", api.NoEnt, func() api.Errno { return just(r.Unpack("/n", pack())) }},
		{"Unpack into a file", api.NotDir, func() api.Errno { return just(r.Unpack("/f", pack())) }},
	} {
		r.refuse(c.what, c.want, c.call)
	}
	if i, e := r.Stat("/n"); i != (fs.Info{}) || e != api.NoEnt {
		t.Error(i, e)
	}
	if l, e := r.List("/f"); l != nil || e != api.NotDir {
		t.Error(l, e)
	}
}

// P21.1: MLink: more names than may be, of a file and of a folder.
func TestMostLinks(t *testing.T) {
	r := plant(t, great)
	r.file("/f", nil)
	for i := range api.MaxLinks - 1 {
		r.ok("Link", r.Link("/f", fmt.Sprint("/f", i)))
	}
	r.refuse("Link", api.MLink, func() api.Errno { return r.Link("/f3", "/more") })
	r.refuse("Link", api.Exist, func() api.Errno { return r.Link("/f3", "/f7") })
	r.stat("/f100", fs.Info{Kind: 1, Links: 200})
	r.ok("Unlink", r.Unlink("/f3"))
	r.ok("Link", r.Link("/f4", "/more"))
	r.ok("Mkdir", r.Mkdir("/d"))
	for i := range api.MaxLinks - 2 {
		r.ok("Mkdir", r.Mkdir(fmt.Sprint("/d/", i)))
	}
	r.refuse("Mkdir", api.MLink, func() api.Errno { return r.Mkdir("/d/more") })
	r.stat("/d", fs.Info{Kind: 2, Links: 200})
	r.ok("Create", r.Create("/d/more"))
	r.ok("Rmdir", r.Rmdir("/d/0"))
	r.ok("Mkdir", r.Mkdir("/d/last"))
	r.whole("most names:")
}

// P21.1: NoSpc: no inode, or no block, is free; then all is as it was, and goes on when there is room.
func TestNoRoom(t *testing.T) {
	r := garden(t, least)
	many := 0
	for e := api.OK; e == api.OK; many++ {
		if e = r.Create(fmt.Sprint("/n", many)); e != api.OK && e != api.NoSpc {
			t.Fatal(many, e)
		}
	}
	if is := r.space(); is[1] != 0 {
		t.Error("inodes are free:", is)
	}
	r.refuse("Create", api.NoSpc, func() api.Errno { return r.Create("/more") })
	r.refuse("Mkdir", api.NoSpc, func() api.Errno { return r.Mkdir("/more") })
	r.refuse("Create", api.Exist, func() api.Errno { return r.Create("/n1") })
	fd := r.fd("/n0")
	e := api.OK
	for e == api.OK {
		e = r.Append(fd, ink(1000, 3))
	}
	if e != api.NoSpc || r.space()[0] >= 1000/least.Size+3 {
		t.Error(e, r.space())
	}
	r.refuse("Append", api.NoSpc, func() api.Errno { return r.Append(fd, ink(1000, 3)) })
	_, e = r.Seek(fd, 2000, fs.End)
	r.ok("Seek", e)
	r.refuse("WriteNext", api.NoSpc, func() api.Errno { return r.WriteNext(fd, ink(1000, 3)) })
	r.refuse("Write", api.NoSpc, func() api.Errno { return r.Write(r.fd("/n1"), 20000, ink(1024, 3)) })
	r.ok("Sync", r.Sync())
	r.whole("full:")
	r.ok("Truncate", r.Truncate(fd, 0))
	r.ok("Append", r.Append(fd, ink(1000, 3)))
	r.ok("Unlink", r.Unlink("/n3"))
	r.ok("Create", r.Create("/more"))
	r.ok("Sync", r.Sync())
	r.again().whole("not full:")
}

// P21.1: Stat and List of the root, of a file, of folders; names in order.
func TestStatAndList(t *testing.T) {
	r := garden(t, small)
	r.stat("/", fs.Info{Kind: 2, Links: 4})
	r.stat("/a/../.", fs.Info{Kind: 2, Links: 4})
	r.stat("/a", fs.Info{Kind: 2, Links: 3})
	r.stat("/a/b", fs.Info{Kind: 2, Links: 2})
	r.stat("/f", fs.Info{Kind: 1, Size: 2500, Links: 2})
	r.stat("/a/g", fs.Info{Kind: 1, Size: 2500, Links: 2})
	r.stat("/e", fs.Info{Kind: 1, Links: 1})
	for _, name := range []string{"b", "ä", "ab", "z", "B", "a b", "a.", "世", "\U00010348"} {
		r.ok("Create", r.Create("/d/"+name))
	}
	r.listed("/d", "B", "a b", "a.", "ab", "b", "z", "ä", "世", "\U00010348")
	r.listed("/", "a", "d", "e", "f")
	r.listed("/a", "b", "g", "h")
	r.listed("/a/b")
	r.stat("/d", fs.Info{Kind: 2, Links: 2})
	l, _ := r.List("/d")
	l[0] = "x"
	r.listed("//d/./", "B", "a b", "a.", "ab", "b", "z", "ä", "世", "\U00010348")
}

// P21.1: names come, go, and are others.
func TestNames(t *testing.T) {
	r := garden(t, small)
	r.ok("Link", r.Link("/a/g", "/d/k"))
	r.stat("/d/k", fs.Info{Kind: 1, Size: 2500, Links: 3})
	r.ok("Unlink", r.Unlink("/f"))
	r.stat("/d/k", fs.Info{Kind: 1, Size: 2500, Links: 2})
	r.ok("Rename", r.Rename("/a", "/d/a"))
	r.stat("/", fs.Info{Kind: 2, Links: 3})
	r.stat("/d", fs.Info{Kind: 2, Links: 3})
	r.walked("/", "/", "/d", "/d/a", "/d/a/b", "/d/a/g", "/d/a/h", "/d/k", "/e")
	free := r.space()
	r.ok("Rename", r.Rename("/d/a/h", "/e"))
	r.holds("/e", ink(100, 2))
	if is := r.space(); is != [2]int{free[0], free[1] + 1} {
		t.Error(is, free)
	}
	r.ok("Mkdir", r.Mkdir("/x"))
	r.ok("Rename", r.Rename("/d/a", "/x"))
	r.walked("/", "/", "/d", "/d/k", "/e", "/x", "/x/b", "/x/g")
	r.ok("Rmdir", r.Rmdir("/x/b"))
	r.ok("Unlink", r.Unlink("/x/g"))
	r.ok("Rmdir", r.Rmdir("/x"))
	r.holds("/d/k", ink(2500, 1))
	r.whole("others:")
	r.ok("Sync", r.Sync())
	r.again().walked("/", "/", "/d", "/d/k", "/e")
}

// P21.1: what is open isn't given up: State; other names of it may go, and behind Close the last one.
func TestHeld(t *testing.T) {
	r := garden(t, some)
	free := r.space()
	fd, two := r.fd("/f"), r.fd("/a/g")
	r.ok("Unlink", r.Unlink("/f"))
	r.refuse("Unlink", api.State, func() api.Errno { return r.Unlink("/a/g") })
	r.refuse("Rename", api.State, func() api.Errno { return r.Rename("/e", "/a/g") })
	r.refuse("Rename", api.IsDir, func() api.Errno { return r.Rename("/e", "/a/b") })
	r.ok("Rename", r.Rename("/a/g", "/g"))
	// It is read and written, by both.
	r.ok("Write", r.Write(fd, 0, ink(10, 5)))
	if is := r.all(two); !slices.Equal(is, append(ink(10, 5), ink(2500, 1)[10:]...)) {
		t.Error("its bytes are others")
	}
	r.shut(fd)
	r.refuse("Unlink", api.State, func() api.Errno { return r.Unlink("/g") })
	r.ok("Append", r.Append(two, ink(10, 6)))
	r.stat("/g", fs.Info{Kind: 1, Size: 2510, Links: 1})
	r.shut(two)
	// What isn't open any longer goes, with its 8 blocks and its inode.
	r.ok("Unlink", r.Unlink("/g"))
	if is := r.space(); is != [2]int{free[0] + 8, free[1] + 1} {
		t.Error(is, free)
	}
	fd = r.fd("/e")
	r.refuse("Rename", api.State, func() api.Errno { return r.Rename("/a/h", "/e") })
	r.refuse("Unlink", api.State, func() api.Errno { return r.Unlink("/e") })
	r.ok("Rename", r.Rename("/e", "/a/h"))
	r.ok("Write", r.Write(fd, 3, ink(3, 1)))
	r.holds("/a/h", append(make([]byte, 3), ink(3, 1)...))
	r.shut(fd)
	r.file("/over", nil)
	r.ok("Rename", r.Rename("/over", "/a/h"))
	r.holds("/a/h", nil)
	r.whole("held:")
	// All sixteen hold what they have open.
	for n := range api.MaxOpen {
		r.file(fmt.Sprint("/n", n), nil)
	}
	for n := range api.MaxOpen {
		r.fd(fmt.Sprint("/n", n))
	}
	for n := range api.MaxOpen {
		p := fmt.Sprint("/n", n)
		r.refuse("Unlink", api.State, func() api.Errno { return r.Unlink(p) })
	}
	for n := range api.MaxOpen {
		p := fmt.Sprint("/n", n)
		r.shut(n)
		r.ok("Unlink", r.Unlink(p))
	}
}

// P21.1: Walk: all paths below one, that first; nothing of one that isn't there.
func TestWalk(t *testing.T) {
	r := garden(t, small)
	all := []string{"/", "/a", "/a/b", "/a/g", "/a/h", "/d", "/e", "/f"}
	r.walked("/", all...)
	r.walked("/a/..//.", all...)
	r.walked("/a", all[1:5]...)
	r.walked("/a/b/", "/a/b")
	r.walked("/./f", "/f")
	r.walked("/n")
	r.walked("")
	l := r.Walk("/")
	l[0] = "x"
	r.walked("/", all...)
}

// P21.1: Glob: those below a folder, it aside, whose last name fits.
func TestGlob(t *testing.T) {
	r := garden(t, some)
	r.ok("Mkdir", r.Mkdir("/d/a"))
	for _, p := range []string{"/d/a/a.go", "/d/b.go", "/d/a/ä", "/d/*", "/d/a/d"} {
		r.ok("Create", r.Create(p))
	}
	for _, c := range []struct {
		path, pattern string
		want          []string
	}{
		{"/", "*", []string{"/a", "/a/b", "/a/g", "/a/h", "/d", "/d/*", "/d/a", "/d/a/a.go", "/d/a/d", "/d/a/ä", "/d/b.go", "/e", "/f"}},
		{"/a/b/../..", "?", []string{"/a", "/a/b", "/a/g", "/a/h", "/d", "/d/*", "/d/a", "/d/a/d", "/d/a/ä", "/e", "/f"}},
		{"/", "a", []string{"/a", "/d/a"}},
		{"/a", "a", nil},
		{"/d", "d", []string{"/d/a/d"}},
		{"/d", "*.go", []string{"/d/a/a.go", "/d/b.go"}},
		{"/d/a", "*.go", []string{"/d/a/a.go"}},
		{"/", "[a-e]", []string{"/a", "/a/b", "/d", "/d/a", "/d/a/d", "/e"}},
		{"/d", "[^a-z]", []string{"/d/*", "/d/a/ä"}},
		{"/d", "\\*", []string{"/d/*"}},
		{"/d", "ä", []string{"/d/a/ä"}},
		{"/", "", nil},
		{"/", "a/b", nil},
		{"/", "/*", nil},
		{"/", "a*go", []string{"/d/a/a.go"}},
		{"/a/b", "*", nil},
	} {
		l, e := r.Glob(c.path, c.pattern)
		if !slices.Equal(l, c.want) || e != api.OK {
			t.Error(c.path, c.pattern, l, e, "want", c.want)
		}
	}
	// A pattern that is none goes ahead of what is wrong with the path.
	for _, pattern := range []string{"[", "[]", "a[b", "\\", "\xff", "[^]", "a\\"} {
		for _, path := range []string{"/", "/a", "/a/b", "/f", "/n", "", "a", "/a/\x00", "/f/n"} {
			if l, e := r.Glob(path, pattern); l != nil || e != api.Form {
				t.Errorf("%q %q: %v, %d", path, pattern, l, e)
			}
		}
	}
	for path, want := range map[string]api.Errno{"/f": api.NotDir, "/d/b.go": api.NotDir, "/f/n": api.NotDir, "/n": api.NoEnt, "": api.Inval} {
		if l, e := r.Glob(path, "*"); l != nil || e != want {
			t.Error(path, l, e, "want", want)
		}
	}
}
