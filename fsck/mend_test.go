package fsck_test

import (
	"fmt"
	"math"
	"slices"
	"testing"

	"gabion/api"
	"gabion/array"
	"gabion/dirent"
	"gabion/fsck"
	"gabion/inode"
	"gabion/store"
	"gabion/tree"
)

// dice are numbers, the same in each run.
type dice uint32

func (d *dice) next(n int) int {
	*d = *d*1664525 + 1013904223
	return int(uint32(*d)>>8) % n
}

// again: the tree as it is found on the chips now, as if the power had gone; on a copy.
func (r *rig) again() *rig {
	r.t.Helper()
	c := r.a.Copy()
	x, e := array.Open(c)
	r.ok("Open", e)
	s, e := store.Mount(x)
	r.ok("Mount", e)
	y, e := tree.Mount(s, r.Layout().Size)
	r.ok("Mount", e)
	return &rig{t: r.t, a: c, s: s, Tree: y}
}

// P22.3: counts and marks that are wrong, as many as there are: behind Mend nothing is, and nothing else is changed; also when it is written.
func TestMendByChance(t *testing.T) {
	for seed := range 40 {
		d := dice(seed)
		r := garden(t, []api.Geo{small, some, broad}[seed%3])
		whole := r.image()
		wrong := map[string]bool{}
		for range 1 + d.next(30) {
			if d.next(3) == 0 {
				n := uint32(1 + d.next(7))
				x, _ := r.Node(n)
				links := uint16([]int{0, 1, 2, 3, 65535, d.next(300)}[d.next(6)])
				if links != x.Links && !wrong[fmt.Sprint("n", n)] {
					wrong[fmt.Sprint("n", n)] = true
					r.node(n, func(x *inode.Inode) { x.Links = links })
				}
				continue
			}
			b := uint32(d.next(r.Layout().Blocks))
			if !wrong[fmt.Sprint("b", b)] {
				wrong[fmt.Sprint("b", b)] = true
				used, e := r.Used(b)
				r.ok("Used", e)
				r.mark(b, !used)
			}
		}
		l, p, e := fsck.Check(r.Tree)
		if len(l) != len(wrong) || !slices.Equal(p, paths()) || e != api.OK {
			t.Error(seed, l, p, e, "want", len(wrong))
		}
		if want, _ := told(r); !slices.Equal(l, want) {
			t.Error(seed, l, "want", want)
		}
		r.mends("by chance", len(wrong))
		r.mends("once more", 0)
		r.sync()
		if is := r.image(); is[:r.Layout().Blocks*r.Layout().Size] != whole[:r.Layout().Blocks*r.Layout().Size] {
			t.Error(seed, "it isn't as it was")
		}
		r.again().shows("written:", paths())
	}
}

// P22.3: troubles among which are others, or inodes without a name: what is put right is; what isn't stays.
func TestMendLeavesOthers(t *testing.T) {
	r := garden(t, small)
	r.bytes(e, ink(64, 1))
	r.links(b, 1)
	r.mends("beside what can't be read", 1, unread(e))
	r.entry(root, 4, nobody, "n")
	r.mark(r.block(20), true)
	r.mends("beside a name of nothing", 1, unread(e), kind(nobody))
	r.node(g, func(x *inode.Inode) { x.Direct[1] = r.block(20) })
	r.node(g, func(x *inode.Inode) { x.Direct[2] = r.block(2); x.Direct[3] = 1 })
	r.mends("beside others' blocks", 1, unread(e), kind(nobody), twice(g, r.block(2)), outside(g, 1))
	// One that goes, with blocks that it has alone: they are free, and it is.
	r = garden(t, small)
	blocks, nodes, _ := r.Space()
	r.entry(root, 0, 0, "")
	r.entry(root, 1, 0, "")
	r.wrong("all of a:", append([]fsck.Trouble{count(root), orphan(a), orphan(b), orphan(f)}, r.lostAll(1, 13)...)...)
	r.mends("all of a", 16)
	if is, n, e := r.Space(); is != blocks+12 || n != nodes+3 || e != api.OK {
		t.Error(is, n, e, "was", blocks, nodes)
	}
	r.file("/n", a, 300)
	r.sync()
	r.again().shows("it goes on:", []string{"/", "/d", "/d/g", "/e", "/n"})
}

// any: any bytes that stand in a block, or what looks like an inode, entries, numbers.
func (r *rig) any(d *dice) {
	r.t.Helper()
	l := r.Layout()
	number := func() uint32 {
		return uint32([]int{0, 0, d.next(l.Blocks), d.next(l.Blocks), l.First + d.next(20), l.First - 1, l.Blocks, math.MaxUint32}[d.next(8)])
	}
	switch d.next(6) {
	case 0:
		data := make([]byte, l.Size)
		for i := range data {
			data[i] = byte(d.next(256))
		}
		r.lay(uint32(d.next(l.Blocks)), 0, data[:1+d.next(l.Size)])
	case 1, 2:
		x := inode.Inode{Kind: uint8(1 + d.next(2)), Links: uint16(d.next(5)), Size: uint32([]int{0, 32 * d.next(20), d.next(5000), 1 << 20, math.MaxUint32}[d.next(5)])}
		for i := range d.next(9) {
			x.Direct[i] = number()
		}
		x.Single, x.Double = number(), number()
		r.bytes(uint32(1+d.next(l.Nodes)), x.Encode())
	case 3:
		n := uint32(1 + d.next(12))
		if x, e := r.Node(n); e == api.OK && x.Kind != 0 && d.next(3) > 0 {
			x.Kind = 2
			x.Size = uint32(32 * d.next(20))
			r.bytes(n, x.Encode())
		}
	case 4:
		var data []byte
		for range 1 + d.next(6) {
			b, e := dirent.Entry{Node: uint32(1 + d.next(15)), Name: string(rune('a' + d.next(8)))}.Encode()
			r.ok("Encode", e)
			if d.next(9) == 0 {
				b = make([]byte, 32)
			}
			data = append(data, b...)
		}
		r.lay(uint32(l.First+d.next(16)), 0, data)
	case 5:
		b := uint32(l.First + d.next(25))
		for range 1 + d.next(5) {
			r.number(b, d.next(l.Size/4), number())
		}
	}
}

// P22.1, P6: any bytes in blocks: Check tells what the chapter's words say of them; Mend ends, and what it says it put right was there.
func TestAnyBytes(t *testing.T) {
	for part := range 4 {
		t.Run(fmt.Sprint(part), func(t *testing.T) {
			t.Parallel()
			for seed := range 100 {
				d := dice(part*1000 + seed)
				r := garden(t, []api.Geo{small, some, broad}[seed%3])
				for range 12 {
					r.any(&d)
					l, p, e := fsck.Check(r.Tree)
					want, at := told(r)
					if !slices.Equal(l, want) || !slices.Equal(p, at) || e != api.OK {
						t.Fatal(part, seed, l, p, e, "want", want, at)
					}
				}
				l, _, _ := fsck.Check(r.Tree)
				many, orphans := 0, 0
				for _, x := range l {
					if x.Kind == 3 || x.Kind == 4 || x.Kind == 7 || x.Kind == 8 {
						many++
					}
					if x.Kind == 4 {
						orphans++
					}
				}
				if n, e := fsck.Mend(r.Tree); n != many || e != api.OK {
					t.Fatal(part, seed, n, e, "want", many)
				}
				r.sync()
				left, _, e := fsck.Check(r.Tree)
				r.ok("Check", e)
				for _, x := range left {
					if orphans == 0 && !slices.Contains(l, x) || orphans == 0 && (x.Kind == 3 || x.Kind > 6) {
						t.Fatal(part, seed, x, "is new, or left of", l)
					}
				}
			}
		})
	}
}

// P22.1, P6: all blocks are any bytes: Check and Mend end, and tell what the chapter's words say.
func TestAllBytes(t *testing.T) {
	for seed := range 30 {
		d := dice(seed)
		r := garden(t, []api.Geo{small, some, broad}[seed%3])
		for b := range uint32(r.Layout().Blocks) {
			data := make([]byte, r.Layout().Size)
			for i := range data {
				data[i] = byte(d.next(256) & d.next(256) & d.next(256) * (d.next(2 + seed)))
			}
			if b == 0 && seed%2 == 0 {
				copy(data, inode.Inode{Kind: inode.Folder, Links: 2, Size: 5000, Direct: [8]uint32{r.block(0)}, Single: r.block(1), Double: r.block(2)}.Encode())
			}
			r.lay(b, 0, data)
		}
		l, p, e := fsck.Check(r.Tree)
		want, at := told(r)
		if !slices.Equal(l, want) || !slices.Equal(p, at) || e != api.OK {
			t.Fatal(seed, l, p, e, "want", want, at)
		}
		if n, e := fsck.Mend(r.Tree); n == 0 || e != api.OK {
			t.Error(seed, n, e)
		}
	}
}
