package fsck_test

import (
	"cmp"
	"encoding/binary"
	"slices"
	"sort"

	"gabion/api"
	"gabion/dirent"
	"gabion/fsck"
	"gabion/inode"
)

// oracle is what the chapter's words say of some blocks, in passes of its own.
type oracle struct {
	lay    inode.Layout
	blocks [][]byte
	order  []uint32       // inodes as they are met from the root on, each once
	names  map[uint32]int // how many names each has
	subs   map[uint32]int // how many folders each folder names
	paths  []string
	wrong  map[fsck.Trouble]bool
}

// told: what is wrong with the blocks of a store, and all paths.
func told(r *rig) ([]fsck.Trouble, []string) {
	r.t.Helper()
	o := &oracle{lay: r.Layout(), names: map[uint32]int{}, subs: map[uint32]int{}, wrong: map[fsck.Trouble]bool{}}
	for b := range uint32(o.lay.Blocks) {
		data, e := r.s.Get(b)
		r.ok("Get", e)
		o.blocks = append(o.blocks, data)
	}
	o.walk()
	owners := o.claim()
	o.count()
	for b := range o.lay.Blocks {
		at := b / 8
		used := o.blocks[o.lay.Bits+at/o.lay.Size][at%o.lay.Size]>>(b%8)&1 == 1
		owner, owned := owners[uint32(b)]
		if b < o.lay.First {
			owned = true
		}
		if owned && !used {
			o.wrong[unused(owner, uint32(b))] = true
		}
		if used && !owned {
			o.wrong[lost(uint32(b))] = true
		}
	}
	var l []fsck.Trouble
	for x := range o.wrong {
		l = append(l, x)
	}
	slices.SortFunc(l, func(x, y fsck.Trouble) int {
		return cmp.Or(x.Kind-y.Kind, cmp.Compare(x.Node, y.Node), cmp.Compare(x.Block, y.Block))
	})
	sort.Strings(o.paths)
	return l, o.paths
}

// node: an inode; false: it isn't there, or is none.
func (o *oracle) node(n uint32) (inode.Inode, bool) {
	if n < 1 || int64(n) > int64(o.lay.Nodes) {
		return inode.Inode{}, false
	}
	at := int(n-1) * 64
	x, e := inode.Decode(o.blocks[at/o.lay.Size][at%o.lay.Size:][:64])
	return x, e == api.OK
}

// numbers: those of a block of numbers.
func (o *oracle) numbers(b uint32) []uint32 {
	var l []uint32
	for at := 0; at+4 <= o.lay.Size; at += 4 {
		l = append(l, binary.LittleEndian.Uint32(o.blocks[b][at:]))
	}
	return l
}

// entries: a folder's; false: they can't be read.
func (o *oracle) entries(x inode.Inode) ([]dirent.Entry, bool) {
	if int64(x.Size) > o.lay.Most() {
		return nil, false
	}
	var data []byte
	k := o.lay.Size / 4
	for i := 0; i*o.lay.Size < int(x.Size); i++ {
		way := []int{i}
		b := x.Single
		switch {
		case i < 8:
			b, way = x.Direct[i], nil
		case i < 8+k:
			way = []int{i - 8}
		default:
			b, way = x.Double, []int{(i - 8 - k) / k, (i - 8 - k) % k}
		}
		for _, w := range way {
			if b == 0 {
				break
			}
			if int64(b) >= int64(o.lay.Blocks) {
				return nil, false
			}
			b = o.numbers(b)[w]
		}
		switch {
		case b == 0:
			data = append(data, make([]byte, o.lay.Size)...)
		case int64(b) >= int64(o.lay.Blocks):
			return nil, false
		default:
			data = append(data, o.blocks[b]...)
		}
	}
	l, e := dirent.List(data[:x.Size])
	return l, e == api.OK
}

// walk: all names from the root on.
func (o *oracle) walk() {
	type name struct {
		path string
		in   uint32
		n    uint32
	}
	stack := []name{{"/", 0, 1}}
	for len(stack) > 0 {
		top := stack[len(stack)-1]
		stack = stack[:len(stack)-1]
		o.paths = append(o.paths, top.path)
		o.names[top.n]++
		x, ok := o.node(top.n)
		if ok && x.Kind == 2 {
			o.subs[top.in]++
		}
		switch {
		case !ok:
			o.wrong[unread(top.n)] = true
			continue
		case x.Kind == 0:
			o.wrong[kind(top.n)] = true
			continue
		case slices.Contains(o.order, top.n):
			if x.Kind == 2 {
				o.wrong[twice(top.n, 0)] = true
			}
			continue
		}
		o.order = append(o.order, top.n)
		if x.Kind == 1 {
			continue
		}
		l, ok := o.entries(x)
		if !ok {
			o.wrong[unread(top.n)] = true
		}
		l = slices.DeleteFunc(l, func(y dirent.Entry) bool { return y.Node == 0 })
		sort.SliceStable(l, func(i, j int) bool { return l[i].Name < l[j].Name })
		slices.Reverse(l)
		for _, y := range l {
			p := top.path + "/" + y.Name
			if top.path == "/" {
				p = "/" + y.Name
			}
			stack = append(stack, name{p, top.n, y.Node})
		}
	}
}

// claim: who has which block.
func (o *oracle) claim() map[uint32]uint32 {
	owners := map[uint32]uint32{}
	for _, n := range o.order {
		x, _ := o.node(n)
		type number struct {
			b    uint32
			deep int
		}
		l := []number{{x.Double, 2}, {x.Single, 1}}
		for i := range x.Direct {
			l = append(l, number{x.Direct[7-i], 0})
		}
		for len(l) > 0 {
			top := l[len(l)-1]
			l = l[:len(l)-1]
			if top.b == 0 {
				continue
			}
			if int64(top.b) < int64(o.lay.First) || int64(top.b) >= int64(o.lay.Blocks) {
				o.wrong[outside(n, top.b)] = true
				continue
			}
			if _, ok := owners[top.b]; ok {
				o.wrong[twice(n, top.b)] = true
				continue
			}
			owners[top.b] = n
			if top.deep > 0 {
				named := o.numbers(top.b)
				slices.Reverse(named)
				for _, b := range named {
					l = append(l, number{b, top.deep - 1})
				}
			}
		}
	}
	return owners
}

// count: all inodes' names.
func (o *oracle) count() {
	for n := uint32(1); int(n) <= o.lay.Nodes; n++ {
		x, ok := o.node(n)
		many := o.names[n]
		if x.Kind == 2 {
			many += 1 + o.subs[n]
		}
		switch {
		case !ok:
			o.wrong[unread(n)] = true
		case x.Kind != 0 && o.names[n] == 0:
			o.wrong[orphan(n)] = true
		case x.Kind != 0 && int(x.Links) != many:
			o.wrong[count(n)] = true
		}
	}
}
