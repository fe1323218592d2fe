package inode

import "gabion/api"

const (
	// mostBlocks is how many blocks a layout has at most.
	mostBlocks = 1 << 20
	// mostBytes is how many bytes a file has at most, however great blocks are.
	mostBytes = 1 << 31
	// leastNodes is how many inodes there are at least.
	leastNodes = 16
	// share is how many blocks there are to each inode.
	share = 4
	// leastFiles is how many blocks are left for files at least.
	leastFiles = 8
	// number is how many bytes a block's number has in a block that names others.
	number = 4
)

// Layout is where things stand in logical blocks: how many inodes there are; from which block on stand the bits of blocks in use, from which one on files' blocks; how many blocks there are; a block's bytes.
type Layout struct {
	Nodes  int
	Bits   int
	First  int
	Blocks int
	Size   int
}

// Lay: the layout of so many blocks of a size.
func Lay(blocks, size int) (Layout, api.Errno) {
	if blocks < 1 || blocks > mostBlocks || size < api.MinSize || size > api.MaxSize || size%Size != 0 {
		return Layout{}, api.Range
	}
	many := size / Size
	bits := holders(max(leastNodes, blocks/share), many)
	first := bits + holders(blocks, 8*size)
	if first+leastFiles > blocks {
		return Layout{}, api.NoSpc
	}
	return Layout{Nodes: bits * many, Bits: bits, First: first, Blocks: blocks, Size: size}, api.OK
}

// holders: how many blocks hold so many things, each of them many.
func holders(things, many int) int { return (things + many - 1) / many }

// At: the block that has an inode, and where in it; false: there is none of this number (from 1 on).
func (l Layout) At(n uint32) (block, at int, ok bool) {
	many := l.Size / Size
	// A layout that Lay doesn't answer may have blocks that hold no inode.
	if n < 1 || int64(n) > int64(l.Nodes) || many < 1 {
		return 0, 0, false
	}
	i := int(n - 1)
	return i / many, i % many * Size, true
}

// Bit: the block that has a block's bit, the byte in it, and the bit of that.
func (l Layout) Bit(b uint32) (block, at int, bit uint) {
	// A layout that Lay doesn't answer may have blocks without a byte.
	if l.Size < 1 {
		return 0, 0, 0
	}
	i := int(b / 8)
	return l.Bits + i/l.Size, i % l.Size, uint(b % 8)
}

// Most: how many bytes a file can have at most.
func (l Layout) Most() int64 {
	k := int64(l.Size) / number
	return min((Direct+k+k*k)*int64(l.Size), mostBytes)
}
