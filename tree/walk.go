package tree

import (
	"iter"
	"slices"

	"gabion/api"
	"gabion/dirent"
	"gabion/inode"
	"gabion/names"
)

// Seen is what stands at a path: its inode's number, and that.
type Seen struct {
	Number uint32
	Node   inode.Inode
}

// Walk goes through all paths below one, that first, a folder ahead of what is in it, names in order. What can't be read is left out.
func (t *Tree) Walk(path string) iter.Seq2[string, Seen] {
	return func(yield func(string, Seen) bool) {
		n, x, e := t.Find(path)
		if e != api.OK {
			return
		}
		l, _ := names.Split(path)
		for path, seen := range t.below(l, Seen{Number: n, Node: x}) {
			if !yield(path, seen) {
				return
			}
		}
	}
}

// below goes through what stands at a path, and all that stands below it.
func (t *Tree) below(l []string, s Seen) iter.Seq2[string, Seen] {
	return func(yield func(string, Seen) bool) {
		if !yield(names.Join(l...), s) || len(l) == api.MaxDepth {
			return
		}
		for name, child := range t.within(s.Number) {
			for path, seen := range t.below(append(slices.Clone(l), name), child) {
				if !yield(path, seen) {
					return
				}
			}
		}
	}
}

// within goes through the names in a folder, in order; where it is none, through nothing.
func (t *Tree) within(folder uint32) iter.Seq2[string, Seen] {
	return func(yield func(string, Seen) bool) {
		// Asked for only now: what is gone through may be changed meanwhile.
		x, e := t.Node(folder)
		if e != api.OK {
			return
		}
		l, e := t.Entries(x)
		if e != api.OK {
			return
		}
		for _, name := range dirent.Names(l) {
			n := l[dirent.Find(l, name)].Node
			if x, e := t.Node(n); e == api.OK && !yield(name, Seen{Number: n, Node: x}) {
				return
			}
		}
	}
}
