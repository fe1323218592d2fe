package tree_test

import (
	"bytes"
	"fmt"
	"math"
	"slices"
	"testing"

	"gabion/api"
	"gabion/inode"
)

// reads: are these the bytes at a place?
func (r *rig) reads(n uint32, at, size int64, want []byte) {
	r.t.Helper()
	if b, e := r.ReadAt(n, at, size); e != api.OK || !bytes.Equal(b, want) {
		r.t.Error("ReadAt", n, at, size, "answers", b, e, "want", want)
	}
}

// P20.1: bytes of a file: at its beginning, at a block's end, over it, at the file's end and behind it.
func TestReadAt(t *testing.T) {
	for _, g := range []api.Geo{small, some, broad} {
		r := plant(t, g)
		n := r.file("/f")
		each := int64(g.Size)
		r.reads(n, 0, 0, nil)
		r.reads(n, 0, api.MaxIO, nil)
		r.reads(n, 5, 7, nil)
		all := ink(3*g.Size+17, 1)
		for at := 0; at < len(all); at += api.MaxIO {
			r.write(n, int64(at), all[at:min(at+api.MaxIO, len(all))])
		}
		for round := range 2 {
			for _, at := range []int64{0, 1, each - 1, each, each + 1, 2*each - 3, 3 * each, 3*each + 16} {
				for _, size := range []int64{0, 1, 2, each - 1, each, each + 1, api.MaxIO} {
					if size <= api.MaxIO {
						r.reads(n, at, size, all[at:min(at+size, int64(len(all)))])
					}
				}
			}
			for _, at := range []int64{3*each + 17, 3*each + 18, 9 * each, r.Layout().Most(), r.Layout().Most() + 1, 1 << 31, 1<<31 + 1, 1 << 40, math.MaxInt64} {
				r.reads(n, at, 0, nil)
				r.reads(n, at, 1, nil)
				r.reads(n, at, api.MaxIO, nil)
			}
			if round == 0 {
				r.sync()
				r = r.again()
			}
		}
	}
}

// P20.1, P20.2: what ReadAt, WriteAt and Truncate answer first: Inval, Range, FBig, NoSpc.
func TestFileErrors(t *testing.T) {
	r := garden(t)
	n := r.number("/h")
	most := r.Layout().Most()
	nodes := uint32(r.Layout().Nodes)
	read := func(n uint32, at, size int64) api.Errno {
		b, e := r.ReadAt(n, at, size)
		if len(b) > 0 {
			t.Error("ReadAt answers bytes with", e)
		}
		return e
	}
	none := []uint32{0, nodes + 1, nodes + 64, 1 << 31, math.MaxUint32}
	for _, n := range append(none, n, 1) {
		for _, x := range [][2]int64{{-1, 0}, {-1, 1}, {math.MinInt64, 5}, {0, -1}, {0, math.MinInt64}, {0, api.MaxIO + 1}, {0, math.MaxInt64}, {math.MaxInt64, math.MaxInt64}} {
			r.refuse(fmt.Sprint("ReadAt ", n, x), api.Inval, func() api.Errno { return read(n, x[0], x[1]) })
		}
		for _, at := range []int64{-1, math.MinInt64} {
			for _, b := range [][]byte{nil, {}, {1}, make([]byte, api.MaxIO+1)} {
				r.refuse(fmt.Sprint("WriteAt ", n, at), api.Inval, func() api.Errno { return r.WriteAt(n, at, b) })
			}
		}
		for _, at := range []int64{0, most, most + 1, math.MaxInt64} {
			r.refuse(fmt.Sprint("WriteAt ", n, at), api.Inval, func() api.Errno { return r.WriteAt(n, at, make([]byte, api.MaxIO+1)) })
		}
		for _, size := range []int64{-1, math.MinInt64} {
			r.refuse(fmt.Sprint("Truncate ", n, size), api.Inval, func() api.Errno { return r.Truncate(n, size) })
		}
	}
	for _, n := range none {
		for _, at := range []int64{0, most + 1, math.MaxInt64} {
			r.refuse(fmt.Sprint("ReadAt ", n), api.Range, func() api.Errno { return read(n, at, 1) })
			r.refuse(fmt.Sprint("WriteAt ", n), api.Range, func() api.Errno { return r.WriteAt(n, at, nil) })
			r.refuse(fmt.Sprint("WriteAt ", n), api.Range, func() api.Errno { return r.WriteAt(n, at, []byte{1}) })
			r.refuse(fmt.Sprint("Truncate ", n), api.Range, func() api.Errno { return r.Truncate(n, at) })
		}
	}
	for _, x := range []struct {
		at   int64
		many int
	}{{most, 1}, {most - 1, 2}, {most - api.MaxIO + 1, api.MaxIO}, {most + 1, 0}, {most + 1, 1}, {1 << 31, 1}, {math.MaxInt64, 0}, {math.MaxInt64, api.MaxIO}} {
		r.refuse(fmt.Sprint("WriteAt ", x), api.FBig, func() api.Errno { return r.WriteAt(n, x.at, make([]byte, x.many)) })
	}
	for _, size := range []int64{most + 1, 1 << 31, 1 << 32, 1<<32 + 5, math.MaxInt64} {
		r.refuse(fmt.Sprint("Truncate ", size), api.FBig, func() api.Errno { return r.Truncate(n, size) })
	}
	r.refuse("WriteAt of nothing", api.OK, func() api.Errno { return r.WriteAt(n, most, nil) })
	r.refuse("WriteAt of nothing", api.OK, func() api.Errno { return r.WriteAt(n, 5000, []byte{}) })
	r.refuse("Truncate to what it has", api.OK, func() api.Errno { return r.Truncate(n, 600) })
	r.refuse("WriteAt of what is there", api.OK, func() api.Errno { return r.WriteAt(n, 100, ink(500, 2)) })
}

// What is a folder has no bytes of a file, nor has what is free. (The chapter names no error of theirs.)
func TestNoFile(t *testing.T) {
	r := garden(t)
	free := uint32(r.Layout().Nodes)
	for n, want := range map[uint32]api.Errno{1: api.IsDir, r.number("/d/e"): api.IsDir, free: api.NoEnt} {
		r.refuse("ReadAt", want, func() api.Errno { _, e := r.ReadAt(n, 0, 64); return e })
		r.refuse("WriteAt", want, func() api.Errno { return r.WriteAt(n, 0, []byte{1}) })
		r.refuse("Truncate", want, func() api.Errno { return r.Truncate(n, 5) })
	}
}

// P20.1: bytes stand where they were written: at each kind of place, in one piece and in others; around them nothing is changed, ahead of them are noughts.
func TestWriteAt(t *testing.T) {
	for _, g := range []api.Geo{small, some, broad} {
		each := int64(g.Size)
		k := each / 4
		for _, start := range []int64{0, each, 7*each - 5, 8 * each, (8+k)*each - 700, (8 + k) * each, (8+2*k)*each - 1} {
			r := plant(t, g)
			m := newModel(r.Layout())
			n := r.file("/f")
			m.create("/f", false)
			for i, d := range []int64{0, 1, each - 1, each, each + 1, 2*each - 1, 3, 0} {
				for _, size := range []int{0, 1, 2, g.Size - 1, g.Size, g.Size + 1, api.MaxIO - 1, api.MaxIO} {
					if size > api.MaxIO {
						continue
					}
					b := ink(size, i+size)
					was := slices.Clone(b)
					r.write(n, start+d, b)
					m.write(int(n), start+d, was)
					if !slices.Equal(b, was) {
						t.Fatal("what was handed in is changed")
					}
					// It isn't kept, either.
					for i := range b {
						b[i] = 0
					}
				}
				r.same(fmt.Sprint(g.Size, " ", start, " ", d), m)
			}
			r.whole(fmt.Sprint(g.Size, " ", start))
			r.sync()
			r.again().same("mounted", m)
		}
	}
}

// P20.1: the last byte that a file may have; the one behind it.
func TestLastByte(t *testing.T) {
	for _, g := range []api.Geo{small, broad} {
		r := plant(t, g)
		n := r.file("/f")
		most := r.Layout().Most()
		blocks := r.free()
		r.refuse("WriteAt", api.FBig, func() api.Errno { return r.WriteAt(n, most, []byte{7}) })
		r.write(n, most-1, []byte{7})
		if x := r.node(n); int64(x.Size) != most || r.free() != blocks-3 {
			t.Error("the last byte:", x, r.free(), blocks)
		}
		r.reads(n, most-3, api.MaxIO, []byte{0, 0, 7})
		r.reads(n, most, 1, nil)
		r.reads(n, most/2, 4, make([]byte, 4))
		r.write(n, most-api.MaxIO, ink(api.MaxIO, 1))
		r.reads(n, most-api.MaxIO, api.MaxIO, ink(api.MaxIO, 1))
		r.refuse("WriteAt", api.FBig, func() api.Errno { return r.WriteAt(n, most-api.MaxIO+1, ink(api.MaxIO, 1)) })
		r.refuse("Truncate", api.OK, func() api.Errno { return r.Truncate(n, most) })
		r.refuse("Truncate", api.FBig, func() api.Errno { return r.Truncate(n, most+1) })
		r.whole("all")
		r.sync()
		r = r.again()
		r.reads(n, most-2, 2, ink(api.MaxIO, 1)[api.MaxIO-2:])
		r.ok("Truncate", r.Truncate(n, most-1))
		r.reads(n, most-2, 2, ink(api.MaxIO, 1)[api.MaxIO-2:api.MaxIO-1])
		r.ok("Truncate", r.Truncate(n, most))
		r.reads(n, most-1, 1, []byte{0})
		r.ok("Unlink", r.Unlink("/f"))
		if r.free() != blocks+1 { // the root's block, too
			t.Error("free are", r.free())
		}
	}
}

// P20.1: a block of which no byte was written is none; a new one is the lowest free one, the one that names it ahead of it.
func TestBlocks(t *testing.T) {
	r := plant(t, small)
	r.folder("/d")
	n := r.file("/f")
	if x := r.node(1); x.Direct != [8]uint32{6} {
		t.Error("the root's blocks:", x)
	}
	r.space("none:", 65, 17)
	r.write(n, 256*3+5, []byte{0})
	if x := r.node(n); x.Direct != [8]uint32{3: 7} || x.Size != 256*3+6 {
		t.Error("the fourth block:", x)
	}
	r.write(n, 256*7+255, []byte{1, 2})
	if x := r.node(n); x.Direct != [8]uint32{3: 7, 7: 8} || x.Single != 9 {
		t.Error("through Single:", x)
	}
	r.space("four of them:", 61, 17)
	r.write(n, 256*(8+64+64*5+6), []byte{1})
	if x := r.node(n); x.Double != 11 {
		t.Error("through Double:", x)
	}
	r.space("seven of them:", 58, 17)
	r.write(n, 256*(8+64+64*5+7), []byte{1})
	r.space("one more:", 57, 17)
	r.write(n, 256*(8+64+64*6+7), []byte{1})
	r.space("two more:", 55, 17)
	r.write(n, 256*(8+64), []byte{1})
	r.space("two more:", 53, 17)
	r.write(n, 256+20, ink(100, 1))
	if x := r.node(n); x.Direct != [8]uint32{1: 19, 3: 7, 7: 8} {
		t.Error("the second block:", x)
	}
	r.reads(n, 0, 256+20, make([]byte, 256+20))
	r.reads(n, 256*9, api.MaxIO, make([]byte, api.MaxIO))
	r.whole("all")
	// What is free between others is taken first.
	r.file("/d/x")
	r.ok("Unlink", r.Unlink("/d/x"))
	r.ok("Truncate", r.Truncate(n, 256*7))
	r.space("the first seven:", 63, 17)
	r.write(n, 0, []byte{1})
	r.write(n, 256*2, []byte{1})
	if x := r.node(n); x.Direct != [8]uint32{0: 8, 1: 19, 2: 9, 3: 7} || x.Single != 0 || x.Double != 0 {
		t.Error("what was free:", x)
	}
	r.whole("all")
}

// P20.1: a file is cut, at each kind of place: what is behind is given up, with the blocks that name others; new bytes are 0.
func TestTruncate(t *testing.T) {
	for _, g := range []api.Geo{small, some} {
		each := int64(g.Size)
		k := each / 4
		places := []int64{0, 1, each - 1, each, each + 1, 7 * each, 8*each - 1, 8 * each, 8*each + 1, 9 * each, (8+k)*each - 1, (8 + k) * each, (8+k)*each + 1, (8+k+1)*each + 9, (8 + 2*k) * each, (8+2*k)*each + 1, (8+3*k)*each + 5, 900 * each}
		for _, size := range places {
			r := plant(t, g)
			m := newModel(r.Layout())
			n := r.file("/f")
			m.create("/f", false)
			for i, at := range places[:len(places)-1] {
				r.write(n, max(at-3, 0), ink(9, i))
				m.write(int(n), max(at-3, 0), ink(9, i))
			}
			if size%2 == 0 {
				r.sync()
			}
			for _, to := range []int64{size, size + 5, size + each, 1000 * each, size, 0, size} {
				r.ok("Truncate", r.Truncate(n, to))
				m.truncate(int(n), to)
				r.same(fmt.Sprint(g.Size, " cut to ", size, " ", to), m)
				r.whole(fmt.Sprint(g.Size, " cut to ", size, " ", to))
			}
			r.sync()
			r.again().same("mounted", m)
		}
	}
}

// P20.1: a file that is cut within a block, and then longer again, by Truncate or by WriteAt, has noughts there.
func TestNoughtsBehindTheEnd(t *testing.T) {
	r := plant(t, small)
	n := r.file("/f")
	r.write(n, 0, ink(1000, 1))
	r.ok("Truncate", r.Truncate(n, 300))
	r.ok("Truncate", r.Truncate(n, 600))
	r.holds("/f", slices.Concat(ink(1000, 1)[:300], make([]byte, 300)))
	r.ok("Truncate", r.Truncate(n, 100))
	r.write(n, 250, []byte{9})
	r.holds("/f", slices.Concat(ink(1000, 1)[:100], make([]byte, 150), []byte{9}))
	r.ok("Truncate", r.Truncate(n, 0))
	r.write(n, 3, []byte{9})
	r.holds("/f", []byte{0, 0, 0, 9})
	r.space("one block of each:", 64, 18)
}

// P20.1: a block that names others is given up when it names none any longer, also where bytes of the file may still come.
func TestNumbersThatNameNothing(t *testing.T) {
	r := plant(t, small)
	n := r.file("/f")
	r.write(n, 256*40, []byte{1})
	r.write(n, 256*(8+64+64+30), []byte{1})
	r.write(n, 256*(8+64+2), []byte{1})
	r.space("seven:", 66-1-2-5, 18)
	r.ok("Truncate", r.Truncate(n, 256*(8+64+64+20)))
	r.space("the second half of Double:", 66-1-2-3, 18)
	r.ok("Truncate", r.Truncate(n, 256*(8+64+1)))
	r.space("Double:", 66-1-2, 18)
	if x := r.node(n); x.Double != 0 || x.Single == 0 {
		t.Error(x)
	}
	r.ok("Truncate", r.Truncate(n, 256*40))
	r.space("Single:", 66-1, 18)
	if x := r.node(n); x != (inode.Inode{Kind: inode.File, Links: 1, Size: 256 * 40}) {
		t.Error(x)
	}
}
