package tree_test

import (
	"bytes"
	"fmt"
	"math"
	"slices"
	"testing"

	"gabion/api"
	"gabion/inode"
	"gabion/nand"
	"gabion/store"
	"gabion/tree"
)

// P20.1: a new tree has a root alone, of two names; it was written.
func TestFormat(t *testing.T) {
	for _, g := range []api.Geo{small, least, some, broad, great} {
		r := plant(t, g)
		lay, e := inode.Lay(r.s.Blocks(), g.Size)
		if e != api.OK || r.Layout() != lay {
			t.Fatal(g, r.Layout(), lay, e)
		}
		for _, r := range []*rig{r, r.again()} {
			if x := r.node(1); x != (inode.Inode{Kind: inode.Folder, Links: 2}) {
				t.Error(g, "the root:", x)
			}
			r.listed("/", "/")
			r.space("a root alone:", lay.Blocks-lay.First, lay.Nodes-1)
			r.whole("a root alone:")
			if r.Waiting() != 0 {
				t.Error(g, r.Waiting(), "wait")
			}
		}
	}
}

// P20.1: on a store that holds a tree, or anything else, a new one holds nothing of it, also behind a crash.
func TestFormatAnew(t *testing.T) {
	for _, sync := range []bool{false, true} {
		r := plant(t, small)
		for i := range 9 {
			r.write(r.file(fmt.Sprint("/", i)), 0, ink(256, i))
		}
		r.folder("/d")
		if sync {
			r.sync()
		}
		lay := r.Layout()
		y, e := tree.Format(r.s, 256)
		r.ok("Format", e)
		r.Tree = y
		for _, r := range []*rig{r, r.again()} {
			r.listed("/", "/")
			r.space("a root alone:", lay.Blocks-lay.First, lay.Nodes-1)
			for n := uint32(2); int(n) <= lay.Nodes; n++ {
				if x := r.node(n); x != (inode.Inode{}) {
					t.Error(n, x)
				}
			}
			r.whole("a root alone:")
			r.file("/a")
			r.reads(r.number("/a"), 0, 10, nil)
		}
	}
	// On a store that was mounted, and has written nothing since.
	r := plant(t, small)
	r.write(r.file("/a"), 0, ink(256, 1))
	r.sync()
	r = r.again()
	z, e := tree.Format(r.s, 256)
	r.ok("Format", e)
	r.Tree = z
	r.whole("a root alone:")
	r.space("a root alone:", 66, 19)
	// Blocks that were written by the store alone, and given up again.
	r = bare(t, small)
	for b := range uint32(72) {
		r.laid(store.Item{Block: b, Data: ink(256, int(b))})
	}
	r.ok("Batch", r.s.Batch(nil, span(0, 72)...))
	y, e := tree.Format(r.s, 256)
	r.ok("Format", e)
	r.Tree = y
	r = r.again()
	r.whole("a root alone:")
	r.space("a root alone:", 66, 19)
}

// span: numbers from one on to below another.
func span(from, to uint32) []uint32 {
	var l []uint32
	for n := from; n < to; n++ {
		l = append(l, n)
	}
	return l
}

// P20.1, P1: what Format and Mount answer of what is no store, of a size that may not be, of a store without a tree.
func TestNoTree(t *testing.T) {
	g := small
	r := bare(t, g)
	was := r.s.Stats()
	for name, call := range map[string]func(s *store.Store, size int) (*tree.Tree, api.Errno){"Format": tree.Format, "Mount": tree.Mount} {
		for _, x := range []struct {
			s    *store.Store
			size int
			e    api.Errno
		}{
			{nil, 256, api.Nil},
			{nil, -1, api.Nil},
			{&store.Store{}, 256, api.Nil},
			{r.s, 0, api.Range},
			{r.s, -256, api.Range},
			{r.s, math.MinInt, api.Range},
			{r.s, math.MaxInt, api.Range},
			{r.s, 255, api.Range},
			{r.s, 192, api.Range},
			{r.s, 1088, api.Range},
			// Sizes that blocks may have, but these haven't.
			{r.s, 320, api.Range},
			{r.s, 1024, api.Range},
		} {
			if y, e := call(x.s, x.size); y != nil || e != x.e {
				t.Error(name, x.size, "answers", y, e, "want", x.e)
			}
		}
	}
	if used, _ := r.s.Space(); used != 0 || r.s.Stats() != was {
		t.Error("something was written:", used, r.s.Stats(), was)
	}
	mount := func(what string) {
		t.Helper()
		if y, e := tree.Mount(r.s, 256); y != nil || e != api.Form {
			t.Error("Mount of", what, "answers", y, e)
		}
	}
	mount("nothing")
	root := func(x inode.Inode) []byte { return append(x.Encode(), make([]byte, 192)...) }
	r.laid(store.Item{Block: 0, Data: root(inode.Inode{Kind: inode.File, Links: 2})})
	mount("a root that is a file")
	r.laid(store.Item{Block: 0, Data: root(inode.Inode{Kind: 3, Links: 2})})
	mount("a root of another kind")
	r.laid(store.Item{Block: 0, Data: ink(256, 1)})
	mount("any bytes")
	r.laid(store.Item{Block: 0, Data: root(inode.Inode{Kind: inode.Folder, Links: 2})})
	if y, e := tree.Mount(r.s, 256); y == nil || e != api.OK {
		t.Error("Mount of a root that is a folder:", e)
	}
	for _, size := range []int{320, 1024} {
		if y, e := tree.Mount(r.s, size); y != nil || e != api.Range {
			t.Error("Mount as one of blocks of", size, "bytes answers", y, e)
		}
	}
}

// P1: a tree that is none: all calls answer Nil, or nothing.
func TestNil(t *testing.T) {
	for _, y := range []*tree.Tree{nil, {}} {
		is := []any{}
		add := func(l ...any) { is = append(is, l...) }
		n, x, e := y.Find("/")
		add(n, x, e)
		n, e = y.Create("/a")
		add(n, x, e)
		n, e = y.Mkdir("/a")
		add(n, x, e)
		for _, e := range []api.Errno{y.Link("/a", "/b"), y.Unlink("/a"), y.Rmdir("/a"), y.Rename("/a", "/b"), y.WriteAt(1, -1, nil), y.Truncate(1, -1), y.Sync(), y.Mend(nil, nil), y.Mend(map[uint32]int{0: 0}, nil)} {
			add(uint32(0), x, e)
		}
		x, e = y.Node(1)
		add(uint32(0), x, e)
		for i := 0; i < len(is); i += 3 {
			if is[i] != uint32(0) || is[i+1] != (inode.Inode{}) || is[i+2] != api.Nil {
				t.Error(i/3, is[i:i+3])
			}
		}
		if b, e := y.ReadAt(1, -1, 0); b != nil || e != api.Nil {
			t.Error("ReadAt", b, e)
		}
		if b, e := y.Block(0); b != nil || e != api.Nil {
			t.Error("Block", b, e)
		}
		if l, e := y.Entries(inode.Inode{Kind: inode.Folder}); l != nil || e != api.Nil {
			t.Error("Entries", l, e)
		}
		if used, e := y.Used(0); used || e != api.Nil {
			t.Error("Used", used, e)
		}
		if b, n, e := y.Space(); b != 0 || n != 0 || e != api.Nil {
			t.Error("Space", b, n, e)
		}
		if y.Layout() != (inode.Layout{}) || y.Waiting() != 0 {
			t.Error(y.Layout(), y.Waiting())
		}
		walk := y.Walk("/")
		if walk == nil {
			t.Fatal("Walk is nil")
		}
		for p := range walk {
			t.Error("Walk", p)
		}
	}
}

// P20.1: what is changed waits, block by block, till Sync writes all of it as one batch.
func TestWaiting(t *testing.T) {
	r := plant(t, small)
	steps := []struct {
		by   func() api.Errno
		want int
	}{
		{func() api.Errno { _, e := r.Create("/f"); return e }, 3},              // the first block of inodes, that of bits, the root's
		{func() api.Errno { _, e := r.Create("/g"); return e }, 3},              // likewise
		{func() api.Errno { return r.WriteAt(2, 5, []byte{1}) }, 4},             // one of the file's
		{func() api.Errno { return r.WriteAt(2, 9, []byte{1}) }, 4},             // the same
		{func() api.Errno { return r.WriteAt(2, 256, ink(1024, 1)) }, 8},        // four more
		{func() api.Errno { return r.WriteAt(2, 256*8, ink(1, 1)) }, 10},        // one more, and Single
		{func() api.Errno { return r.Truncate(2, 256*5) }, 8},                   // these are given up
		{func() api.Errno { _, e := r.Mkdir("/d"); return e }, 8},               // nothing new
		{func() api.Errno { _, e := r.Create("/d/e"); return e }, 10},           // the second block of inodes, the folder's
		{func() api.Errno { return r.Rename("/d/e", "/g") }, 9},                 // that is given up
		{func() api.Errno { return r.Unlink("/f") }, 4},                         // the file's are
		{func() api.Errno { _, _, e := r.Find("/d"); return e }, 4},             // nothing
		{func() api.Errno { return r.Mend(nil, map[uint32]bool{70: true}) }, 4}, // the bits wait
	}
	was := r.s.Stats().Batches
	for i, x := range steps {
		r.ok(fmt.Sprint("step ", i), x.by())
		if r.Waiting() != x.want || r.s.Stats().Batches != was {
			t.Error("step", i, r.Waiting(), "wait, want", x.want, r.s.Stats())
		}
	}
	r.sync()
	if r.Waiting() != 0 || r.s.Stats().Batches != was+1 {
		t.Error("Sync:", r.Waiting(), r.s.Stats(), was)
	}
	// With nothing that waits there is nothing to write.
	stats, ops := r.s.Stats(), r.a.Ops()
	r.sync()
	if r.s.Stats() != stats || r.a.Ops() != ops {
		t.Error("Sync of nothing:", r.s.Stats(), stats)
	}
	// What doesn't change bytes doesn't wait.
	r.ok("Truncate", r.Truncate(r.number("/g"), 0))
	r.ok("Mend", r.Mend(map[uint32]int{1: 3}, map[uint32]bool{6: true, 70: true}))
	if r.Waiting() != 0 {
		t.Error(r.Waiting(), "wait")
	}
}

// P20.1, P20.3: what was given up doesn't stay in the store.
func TestSyncGivesUp(t *testing.T) {
	r := plant(t, small)
	r.write(r.file("/f"), 0, ink(1000, 1))
	r.write(r.file("/g"), 256*20, ink(1000, 1))
	r.sync()
	used, _ := r.s.Space()
	r.ok("Unlink", r.Unlink("/f"))
	r.ok("Truncate", r.Truncate(r.number("/g"), 0))
	for b := uint32(7); b < 16; b++ {
		if is, e := r.Used(b); is || e != api.OK {
			t.Error("block", b, "is in use")
		}
		if data, e := r.Block(b); e != api.OK || !bytes.Equal(data, make([]byte, 256)) {
			t.Error("block", b, "holds something", e)
		}
		if data, e := r.s.Get(b); e != api.OK || bytes.Equal(data, make([]byte, 256)) {
			t.Error("block", b, "isn't there any longer", e)
		}
	}
	r.sync()
	if is, _ := r.s.Space(); is != used-4-5 {
		t.Error("the store has", is, "of", used)
	}
	// A block that was given up, and is another's now, isn't.
	r.write(r.file("/h"), 0, ink(256, 3))
	r.sync()
	r.ok("Unlink", r.Unlink("/h"))
	r.write(r.file("/i"), 0, ink(256, 4))
	r.sync()
	r.holds("/i", ink(256, 4))
	r.again().holds("/i", ink(256, 4))
}

// P20.3: a block that was given up may be there again behind a crash: of a file that has it then that is not to be seen, also if noughts were written to it.
func TestNothingComesBack(t *testing.T) {
	r := plant(t, small)
	r.write(r.file("/f"), 0, ink(256, 1))
	r.sync()
	r.ok("Unlink", r.Unlink("/f"))
	r.sync()
	if data, e := r.again().s.Get(7); e != api.OK || !bytes.Equal(data, ink(256, 1)) {
		t.Fatal("it isn't there again:", e)
	}
	n := r.file("/g")
	r.sync()
	r.write(n, 0, make([]byte, 256))
	if x := r.node(n); x.Direct[0] != 7 || r.Waiting() != 3 {
		t.Fatal(x, r.Waiting())
	}
	r.sync()
	r.again().holds("/g", make([]byte, 256))
	// Likewise where only a part of it is written.
	r.ok("Unlink", r.Unlink("/g"))
	r.write(r.file("/h"), 100, []byte{0})
	r.sync()
	r.again().holds("/h", make([]byte, 101))
}

// P20.1: as much waits as comes in a batch; then what waited is written as one, ahead of the operation, which waits.
func TestTooMuchWaits(t *testing.T) {
	r := plant(t, small)
	n := r.file("/f")
	r.sync()
	at := int64(0)
	write := func(blocks int) {
		t.Helper()
		r.write(n, at, ink(256*blocks, 1))
		at += int64(256 * blocks)
	}
	for range 7 {
		write(1)
	}
	r.sync()
	// The inode's block and the bits' wait with those of the file, and Single from the second one on.
	was := r.s.Stats().Batches
	write(1)
	for range 28 {
		write(1)
	}
	if r.Waiting() != api.MaxBatch || r.s.Stats().Batches != was {
		t.Fatal(r.Waiting(), "wait", r.s.Stats())
	}
	// What changes none but those that wait makes it no more. One more is too much: the root's.
	r.write(n, at-256, []byte{0})
	if r.Waiting() != api.MaxBatch || r.s.Stats().Batches != was {
		t.Fatal(r.Waiting(), "wait", r.s.Stats())
	}
	r.file("/g")
	if r.Waiting() != 2 || r.s.Stats().Batches != was+1 {
		t.Fatal(r.Waiting(), "wait", r.s.Stats())
	}
	y := r.again()
	y.listed("/", "/", "/f")
	if x := y.node(n); int64(x.Size) != at {
		t.Error("what waited isn't there:", x)
	}
	if b, e := y.ReadAt(n, at-256, 2); e != api.OK || !slices.Equal(b, []byte{0, ink(2, 1)[1]}) {
		t.Error("what waited isn't there:", b, e)
	}
	y.whole("as it was")

	// What gives up blocks that wait makes it less, whatever it changes beside them.
	r.file("/k")
	r.sync()
	r.ok("Truncate", r.Truncate(n, 0))
	r.sync()
	for i := range int64(api.MaxBatch - 3) {
		r.write(n, i*256, ink(256, 1))
	}
	if r.Waiting() != api.MaxBatch {
		t.Fatal(r.Waiting(), "wait")
	}
	was = r.s.Stats().Batches
	r.refuse("WriteAt", api.FBig, func() api.Errno { return r.WriteAt(n, 1<<40, []byte{1}) })
	r.ok("Rename", r.Rename("/f", "/g"))
	if r.Waiting() != 2 || r.s.Stats().Batches != was+1 {
		t.Fatal(r.Waiting(), "wait", r.s.Stats())
	}
	r.sync()
	r.ok("Truncate", r.Truncate(n, 0))
	r.sync()
	for i := range int64(api.MaxBatch - 3) {
		r.write(n, i*256, ink(256, 1))
	}
	was = r.s.Stats().Batches
	r.ok("Unlink", r.Unlink("/g"))
	if r.Waiting() != 3 || r.s.Stats().Batches != was {
		t.Fatal(r.Waiting(), "wait", r.s.Stats())
	}
}

// P20.1: all that one operation changes comes in one batch, however much it is.
func TestGreatestOperations(t *testing.T) {
	r := plant(t, great)
	n := r.file("/f")
	for at := int64(0); at < 700*256; at += api.MaxIO {
		r.write(n, at, ink(api.MaxIO, 1))
	}
	r.sync()
	free := r.free()
	was := r.s.Stats().Batches
	r.ok("Truncate", r.Truncate(n, 256*100+5))
	if r.s.Stats().Batches != was || r.Waiting() > 8 {
		t.Error(r.Waiting(), "wait", r.s.Stats())
	}
	r.whole("cut")
	if r.free() < free+600 {
		t.Error("free are", r.free(), "and were", free)
	}
	r.again().whole("as it was")
	r.ok("Unlink", r.Unlink("/f"))
	r.sync()
	if r.s.Stats().Batches != was+1 {
		t.Error(r.s.Stats())
	}
	r.space("a root alone:", r.Layout().Blocks-r.Layout().First, r.Layout().Nodes-1)
	r.again().whole("all given up")
}

// P20.2, P20.3: the power goes: what comes behind answers the store's error, and what was synced is there.
func TestStoreFails(t *testing.T) {
	r := plant(t, small)
	r.file("/f")
	r.sync()
	was := r.dump()
	k := r.but()
	k.folder("/d")
	from, will := k.a.Ops()+1, k.dump()
	for op := from; ; op++ {
		k := r.but(nand.Event{Op: op, Kind: nand.Crash, Left: left(op)})
		k.folder("/d")
		waiting := k.Waiting()
		e := k.Sync()
		if e == api.OK {
			break
		}
		for range 2 {
			if e != api.Crash || k.Waiting() != waiting {
				t.Fatal("Sync:", e, k.Waiting())
			}
			e = k.Sync()
		}
		if _, e := k.Block(71); e != api.Crash {
			t.Error("Block:", e)
		}
		if _, _, e := k.Space(); e != api.Crash {
			t.Error("Space:", e)
		}
		if _, e := k.Create("/d/e/x"); e != api.Crash && e != api.NoEnt {
			t.Error("Create:", e)
		}
		if y, e := tree.Mount(k.s, 256); y != nil || e != api.Crash {
			t.Error("Mount:", y, e)
		}
		if y, e := tree.Format(k.s, 256); y != nil || e != api.Crash {
			t.Error("Format:", y, e)
		}
		if is := k.again().dump(); is != was && is != will {
			t.Error("it is\n", is)
		}
	}
}

// P20.2: what waits is too much, and can't be written: the operation answers the store's error, and isn't done.
func TestStoreFailsMeanwhile(t *testing.T) {
	r := plant(t, small)
	n := r.file("/f")
	r.sync()
	// So many blocks fit.
	fill := func(k *rig) int64 {
		size := int64(0)
		for k.Waiting() < api.MaxBatch {
			k.write(n, size, ink(256, 1))
			size += 256
		}
		return size
	}
	k := r.but()
	size := fill(k)
	from := k.a.Ops() + 1
	k.write(n, size, ink(1, 1))
	if k.Waiting() == api.MaxBatch {
		t.Fatal("nothing was written")
	}
	for op := from; op <= k.a.Ops(); op++ {
		k := r.but(nand.Event{Op: op, Kind: nand.Crash, Left: left(op)})
		if fill(k) != size {
			t.Fatal("another size")
		}
		if e := k.WriteAt(n, size, ink(1, 1)); e != api.Crash {
			t.Fatal("WriteAt:", e)
		}
		if x := k.node(n); int64(x.Size) != size || k.Waiting() != api.MaxBatch {
			t.Error("it was done:", x, size, k.Waiting())
		}
		k = r.but(nand.Event{Op: op, Kind: nand.Crash})
		fill(k)
		if n, e := k.Create("/new"); n != 0 || e != api.Crash || k.Waiting() != api.MaxBatch {
			t.Error("Create:", n, e, k.Waiting())
		}
		if x := k.again().node(n); x.Size != 0 && int64(x.Size) != size {
			t.Error("a part of it was written:", x)
		}
	}
}
