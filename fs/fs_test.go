package fs_test

import (
	"cmp"
	"slices"
	"testing"

	"gabion/api"
	"gabion/fs"
	"gabion/nand"
)

// Example 1: Create, Open, Write, Sync, a crash, Mount: the bytes are there.
func TestExample(t *testing.T) {
	a := chips(t, small)
	f, e := fs.Format(a)
	if e != api.OK {
		t.Fatal(e)
	}
	r := &rig{t: t, a: a, FS: f}
	r.ok("Create", r.Create("/f"))
	fd, e := r.Open("/f")
	r.ok("Open", e)
	r.ok("Write", r.Write(fd, 300, []byte("hello")))
	r.ok("Sync", r.Sync())
	r.a = a.Copy(nand.Event{Op: 1, Kind: nand.Crash})
	if _, e := fs.Mount(r.a); e != api.Crash {
		t.Error("without power:", e)
	}
	r = r.again()
	r.holds("/f", append(make([]byte, 300), "hello"...))
}

// P21.1: a new file system has a root alone, whatever the shape, also where another one stood.
func TestFormat(t *testing.T) {
	for _, g := range []api.Geo{small, least, some, broad, great} {
		r := plant(t, g)
		r.stat("/", fs.Info{Kind: 2, Links: 2})
		r.listed("/")
		r.walked("/", "/")
		l := r.Tree().Layout()
		if r.space() != [2]int{l.Blocks - l.First, l.Nodes - 1} {
			t.Error(g, r.space(), l)
		}
		if !r.Full() || r.Array() == nil || r.Array().Geo() != g || r.Store() == nil || r.Store().Blocks() != l.Blocks || l.Size != g.Size {
			t.Error(g, "it isn't made of what it should be")
		}
		r.whole("new:")
		r.again().walked("/", "/")
		r.file("/f", ink(900, 1))
		r.ok("Sync", r.Sync())
		f, e := fs.Format(r.a)
		r.ok("Format", e)
		n := &rig{t: t, a: r.a, FS: f}
		n.walked("/", "/")
		n.whole("once more:")
		n.again().walked("/", "/")
	}
}

// P21.1: what isn't there, isn't of a shape that has room, or isn't a file system's.
func TestFormatAndMountErrors(t *testing.T) {
	is := func(what string, f *fs.FS, e, want api.Errno) {
		t.Helper()
		if f != nil || e != want {
			t.Error(what, f, e, "want", want)
		}
	}
	f, e := fs.Format(nil)
	is("Format of nothing", f, e, api.Nil)
	f, e = fs.Mount(nil)
	is("Mount of nothing", f, e, api.Nil)
	f, e = fs.Format(chips(t, api.Geo{Chips: 3, Blocks: 16, Pages: 4, Size: 256}))
	is("Format without room", f, e, api.NoSpc)
	f, e = fs.Mount(chips(t, small))
	is("Mount of nothing that is one", f, e, api.Form)
	dead := chips(t, small)
	dead.Kill(0)
	dead.Kill(2)
	f, e = fs.Format(dead)
	is("Format of too many dead ones", f, e, api.Lost)
	r := garden(t, small)
	r.ok("Sync", r.Sync())
	dead = r.a.Copy()
	dead.Kill(0)
	dead.Kill(1)
	f, e = fs.Mount(dead)
	is("Mount of too many dead ones", f, e, api.Lost)
	// Only a part of it was made.
	for op := 1; op <= 105; op++ {
		a := chips(t, small, nand.Event{Op: op, Kind: nand.Crash, Left: left(op)})
		f, e := fs.Format(a)
		is("Format without power", f, e, api.Crash)
		f, e = fs.Mount(a)
		is("Mount without power", f, e, api.Crash)
		a.Boot()
		if f, e := fs.Mount(a); e != api.OK && (e != api.Form || f != nil) {
			t.Error(op, "Mount of a part:", f, e)
		}
		if _, e := fs.Format(a); e != api.OK {
			t.Error(op, "Format behind it:", e)
		}
	}
}

// P21.1: what was synced is there when it is mounted; descriptors aren't.
func TestMount(t *testing.T) {
	for _, g := range []api.Geo{small, some, broad} {
		r := garden(t, g)
		fd := r.fd("/f")
		r.ok("Sync", r.Sync())
		was, free := r.dump(), r.space()
		r = r.again()
		if r.dump() != was || r.space() != free {
			t.Error(g, "it is\n", r.dump(), "was\n", was)
		}
		if e := r.Close(fd); e != api.BadF {
			t.Error(g, "a descriptor is still open:", e)
		}
		r.whole("mounted:")
		r.ok("Mkdir", r.Mkdir("/new"))
		if r.again().dump() != was {
			t.Error(g, "something is there without a Sync")
		}
	}
}

// P21.1: no file system: Nil, or nothing; also one that wasn't made here.
func TestNil(t *testing.T) {
	good := garden(t, small)
	pack, e := good.Pack("/a")
	good.ok("Pack", e)
	for _, f := range []*fs.FS{nil, {}} {
		for what, e := range map[string]api.Errno{
			"Create": f.Create("/a"), "Mkdir": f.Mkdir("/a"), "Link": f.Link("/a", "/b"), "Unlink": f.Unlink("/a"), "Rmdir": f.Rmdir("/"), "Rename": f.Rename("/", "/"),
			"Close": f.Close(0), "Write": f.Write(0, 0, nil), "Truncate": f.Truncate(-1, -1), "WriteNext": f.WriteNext(0, nil), "Append": f.Append(16, nil),
			"Sync": f.Sync(), "Fsync": f.Fsync(0),
		} {
			if e != api.Nil {
				t.Error(what, e)
			}
		}
		if i, e := f.Stat("/"); i != (fs.Info{}) || e != api.Nil {
			t.Error("Stat", i, e)
		}
		if l, e := f.List(""); len(l) != 0 || e != api.Nil {
			t.Error("List", l, e)
		}
		if fd, e := f.Open("/a"); fd != 0 || e != api.Nil {
			t.Error("Open", fd, e)
		}
		if b, e := f.Read(0, 0, -1); len(b) != 0 || e != api.Nil {
			t.Error("Read", b, e)
		}
		if at, e := f.Seek(0, -1, 7); at != 0 || e != api.Nil {
			t.Error("Seek", at, e)
		}
		if b, e := f.ReadNext(0, 1); len(b) != 0 || e != api.Nil {
			t.Error("ReadNext", b, e)
		}
		if l := f.Walk("/"); len(l) != 0 {
			t.Error("Walk", l)
		}
		if l, e := f.Glob("/", "["); len(l) != 0 || e != api.Nil {
			t.Error("Glob", l, e)
		}
		if b, n, e := f.Space(); b != 0 || n != 0 || e != api.Nil {
			t.Error("Space", b, n, e)
		}
		if b, e := f.Pack("/"); len(b) != 0 || e != api.Nil {
			t.Error("Pack", b, e)
		}
		if n, e := f.Unpack("/", pack); n != 0 || e != api.Nil {
			t.Error("Unpack", n, e)
		}
		if n, e := f.Unpack("", nil); n != 0 || e != api.Nil {
			t.Error("Unpack of nothing", n, e)
		}
		if n, e := f.Scrub(); n != 0 || e != api.Nil {
			t.Error("Scrub", n, e)
		}
		if full, e := f.Tick(); full || e != api.Nil {
			t.Error("Tick", full, e)
		}
		if f.Full() || f.Array() != nil || f.Store() != nil || f.Tree() != nil {
			t.Error("it is made of something")
		}
	}
}

// P21.1: Space is the tree's; what is made takes of it, what goes gives it back.
func TestSpace(t *testing.T) {
	r := plant(t, small)
	was := r.space()
	r.ok("Mkdir", r.Mkdir("/a"))
	r.file("/a/f", ink(600, 1))
	if is := r.space(); is != [2]int{was[0] - 5, was[1] - 2} {
		t.Error(is, was)
	}
	b, n, e := r.Tree().Space()
	if is := r.space(); is != [2]int{b, n} || e != api.OK {
		t.Error(is, b, n, e)
	}
	r.ok("Unlink", r.Unlink("/a/f"))
	r.ok("Rmdir", r.Rmdir("/a"))
	if is := r.space(); is != was {
		t.Error(is, was)
	}
}

// P21.1: Fsync is a Sync, of what is open; Sync of nothing writes nothing.
func TestSync(t *testing.T) {
	r := garden(t, small)
	r.ok("Sync", r.Sync())
	stats := r.Store().Stats()
	fd := r.fd("/e")
	r.ok("Sync", r.Sync())
	if r.Store().Stats() != stats {
		t.Error("nothing was done, and something is written")
	}
	r.ok("Write", r.Write(fd, 0, ink(10, 3)))
	r.ok("Mkdir", r.Mkdir("/new"))
	if _, e := r.again().Stat("/new"); e != api.NoEnt {
		t.Error("without a Sync:", e)
	}
	for _, bad := range []int{-1, 1, 15, 16, 1 << 40} {
		r.refuse("Fsync", api.BadF, func() api.Errno { return r.Fsync(bad) })
	}
	r.ok("Fsync", r.Fsync(fd))
	k := r.again()
	k.holds("/e", ink(10, 3))
	k.stat("/new", fs.Info{Kind: 2, Links: 2})
	if r.Tree().Waiting() != 0 {
		t.Error("something waits:", r.Tree().Waiting())
	}
	r.shut(fd)
	if e := r.Fsync(fd); e != api.BadF {
		t.Error("it is closed:", e)
	}
}

// P21.1: Tick and Full are the array's: a member that dies is made anew, what is there stays.
func TestTick(t *testing.T) {
	r := garden(t, small)
	r.ok("Sync", r.Sync())
	was := r.dump()
	if full, e := r.Tick(); !full || e != api.OK {
		t.Error("all are there:", full, e)
	}
	r.a.Kill(1)
	r = r.again()
	if r.Full() || r.dump() != was {
		t.Error("with a dead member:", r.Full())
	}
	ticks := 0
	for full := false; !full; ticks++ {
		var e api.Errno
		full, e = r.Tick()
		r.ok("Tick", e)
		if full != r.Full() {
			t.Error("Full isn't what Tick told")
		}
	}
	if ticks != small.Virtual()-1 {
		t.Error(ticks, "ticks")
	}
	for chip := range 4 {
		k := &rig{t: t, a: r.a.Copy()}
		k.a.Kill(chip)
		k = k.again()
		if k.dump() != was {
			t.Error("chip", chip, "is dead, too:\n", k.dump(), "was\n", was)
		}
		if full, e := k.Tick(); chip != 1 && (full || e != api.State) {
			t.Error("no chip is in reserve any longer:", full, e)
		}
	}
}

// P21.1: Scrub: Sync, and what isn't right in a stripe is written anew: as many segments as the store clears.
func TestScrub(t *testing.T) {
	r := garden(t, small)
	stats := r.Store().Stats()
	if n, e := r.Scrub(); n != 0 || e != api.OK {
		t.Error("nothing is wrong:", n, e)
	}
	if r.Tree().Waiting() != 0 || r.Store().Stats().Batches != stats.Batches+1 {
		t.Error("it wasn't synced")
	}
	was := r.dump()
	if r.again().dump() != was {
		t.Error("what Scrub answered isn't safe")
	}
	// A page of a stripe is spoilt: the power goes where its block is programmed elsewhere.
	k := r.again()
	at, ok := k.Store().Where(0)
	if !ok {
		t.Fatal("block 0 is nowhere")
	}
	n := spoil(k, at.Seg, at.Row)
	if n == 0 {
		t.Fatal("nothing is spoilt")
	}
	if ok, e := k.Store().Check(); ok || e != api.OK {
		t.Error("a page is spoilt:", ok, e)
	}
	cleared := k.Store().Stats().Cleared
	n, e := k.Scrub()
	if n != 1 || e != api.OK || k.Store().Stats().Cleared != cleared+1 {
		t.Error("Scrub", n, e, k.Store().Stats())
	}
	k.whole("scrubbed:")
	if k.dump() != was {
		t.Error("it is\n", k.dump(), "was\n", was)
	}
	if n, e := k.Scrub(); n != 0 || e != api.OK {
		t.Error("once more:", n, e)
	}
}

// spoil: the page of member 0 in a row of a segment has other bytes: its block is erased, and all its pages are programmed again. How many were.
func spoil(r *rig, seg, row int) int {
	r.t.Helper()
	x := r.Array()
	var pages [][2][]byte
	for p := range x.Geo().Pages {
		data, oob, e := x.Read(0, seg, p)
		r.ok("Read", e)
		if slices.ContainsFunc(oob, func(c byte) bool { return c != 255 }) {
			pages = append(pages, [2][]byte{data, oob})
		}
	}
	all := make([][][2][]byte, x.Geo().Chips)
	for m := range all {
		for p := range pages {
			data, oob, e := x.Read(m, seg, p)
			r.ok("Read", e)
			all[m] = append(all[m], [2][]byte{data, oob})
		}
	}
	r.ok("Erase", x.Erase(seg))
	for m, l := range all {
		for p, y := range l {
			if m == 0 && p == row {
				y[0][7] ^= 1
			}
			r.ok("Program", x.Program(m, seg, p, y[0], y[1]))
		}
	}
	return len(pages)
}

// P21.1: an error of what is below comes through, from all calls that ask it.
func TestErrorsComeThrough(t *testing.T) {
	r := garden(t, small)
	r.ok("Sync", r.Sync())
	pack, e := r.Pack("/a")
	r.ok("Pack", e)
	calls := map[string]func(k *rig) api.Errno{
		"Create":   func(k *rig) api.Errno { return k.Create("/n") },
		"Mkdir":    func(k *rig) api.Errno { return k.Mkdir("/n") },
		"Link":     func(k *rig) api.Errno { return k.Link("/f", "/n") },
		"Unlink":   func(k *rig) api.Errno { return k.Unlink("/a/h") },
		"Rmdir":    func(k *rig) api.Errno { return k.Rmdir("/d") },
		"Rename":   func(k *rig) api.Errno { return k.Rename("/d", "/n") },
		"Stat":     func(k *rig) api.Errno { return just(k.Stat("/f")) },
		"List":     func(k *rig) api.Errno { return just(k.List("/a")) },
		"Glob":     func(k *rig) api.Errno { return just(k.Glob("/", "*")) },
		"Pack":     func(k *rig) api.Errno { return just(k.Pack("/")) },
		"Unpack":   func(k *rig) api.Errno { return just(k.Unpack("/d", pack)) },
		"Scrub":    func(k *rig) api.Errno { return just(k.Scrub()) },
		"Open":     func(k *rig) api.Errno { return just(k.Open("/a/h")) },
		"Read":     func(k *rig) api.Errno { return just(k.Read(0, 0, 1000)) },
		"ReadNext": func(k *rig) api.Errno { return just(k.ReadNext(0, 1000)) },
		"Space":    func(k *rig) api.Errno { _, _, e := k.Space(); return e },
		"Truncate": func(k *rig) api.Errno { return k.Truncate(0, 9) },
		"Write":    func(k *rig) api.Errno { return k.Write(0, 300, ink(1000, 5)) },
		"Append":   func(k *rig) api.Errno { return k.Append(0, ink(100, 5)) },
		"Seek":     func(k *rig) api.Errno { return just(k.Seek(0, 0, fs.End)) },
		"Fsync":    func(k *rig) api.Errno { return cmp.Or(k.Append(0, ink(100, 5)), k.Fsync(0)) },
		"Sync":     func(k *rig) api.Errno { return cmp.Or(k.Create("/n"), k.Sync()) },
	}
	for what, call := range calls {
		plain := r.again()
		plain.fd("/f")
		from := plain.a.Ops()
		plain.ok(what, call(plain))
		if plain.a.Ops() == from {
			t.Error(what, "asks nothing of the chips")
		}
		for op := from + 1; op <= plain.a.Ops(); op++ {
			k := &rig{t: t, a: r.a.Copy(nand.Event{Op: op, Kind: nand.Crash, Left: left(op)})}
			f, e := fs.Mount(k.a)
			r.ok("Mount", e)
			k.FS = f
			k.fd("/f")
			if e := call(k); e != api.Crash {
				t.Error(what, "at operation", op, "of", from, "to", plain.a.Ops(), "answers", e)
			}
		}
	}
}
