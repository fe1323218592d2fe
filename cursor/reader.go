package cursor

import (
	"bytes"

	"gabion/api"
)

// Reader takes numbers and bytes, one behind the other.
type Reader struct {
	left []byte
	in   *reading
}

// reading is one call of Read. Its readers name it when they give up: where one call is made within another, neither may take the other's end for its own.
type reading struct {
	short bool // more was taken than there is
	over  bool // the call answers, or is left
}

// runOut is what a reader gives up with.
type runOut struct {
	in *reading // nil: the reader wasn't made by Read
}

// Read: bytes are read by a function; if it asks for more than there are it is left there, and that is told.
func Read(b []byte, by func(r *Reader)) (e api.Errno) {
	if by == nil {
		return api.Nil
	}
	here := &reading{}
	defer func() {
		here.over = true
		x := recover()
		if out, ok := x.(runOut); ok && here.endedBy(out) {
			e = api.Form
		} else if x != nil {
			panic(x)
		}
	}()
	// The reader may outlive this call, the bytes that were handed in may not be kept.
	by(&Reader{left: bytes.Clone(b), in: here})
	if here.short { // the function caught the reader's panic itself
		return api.Form
	}
	return api.OK
}

// endedBy: a reader that has no reading of its own, or no longer, ends the one in which it is asked.
func (g *reading) endedBy(out runOut) bool {
	return out.in == nil || out.in == g || out.in.over
}

// U8, U16, U32, U64: the next number.
func (r *Reader) U8() uint8 { return uint8(r.number(1)) }

func (r *Reader) U16() uint16 { return uint16(r.number(2)) }

func (r *Reader) U32() uint32 { return uint32(r.number(4)) }

func (r *Reader) U64() uint64 { return r.number(8) }

// Raw: the next n bytes.
func (r *Reader) Raw(n int) []byte { return bytes.Clone(r.take(n)) }

// Text: the next text.
func (r *Reader) Text() string { return string(r.take(int(r.U8()))) }

// Left: how many bytes are left. Zero: are they all 0?
func (r *Reader) Left() int {
	if r == nil {
		return 0
	}
	return len(r.left)
}

func (r *Reader) Zero() bool {
	if r == nil {
		return true
	}
	for _, x := range r.left {
		if x != 0 {
			return false
		}
	}
	return true
}

// number: the next number of a size, its lowest byte first.
func (r *Reader) number(size int) uint64 {
	n := uint64(0)
	for i, x := range r.take(size) {
		n |= uint64(x) << (8 * i)
	}
	return n
}

// take: the next n bytes, still the reader's own.
func (r *Reader) take(n int) []byte {
	if n < 0 || n > r.Left() {
		r.giveUp()
	}
	if r == nil {
		return nil
	}
	b := r.left[:n]
	r.left = r.left[n:]
	return b
}

// giveUp ends the reading.
func (r *Reader) giveUp() {
	if r == nil || r.in == nil {
		panic(runOut{})
	}
	r.in.short = true
	panic(runOut{in: r.in})
}
