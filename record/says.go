package record

import (
	"math"

	"gabion/api"
)

// What a header says, by its kind.
type TablePage struct {
	Seq         uint32
	Index, Many int
}

// What a header says, by its kind.
type MemberPage struct {
	Seq uint32
}

// What a header says, by its kind.
type PointPage struct {
	Seq         uint32
	Index, Many int
}

// What a header says, by its kind.
type DataPage struct {
	Epoch, Batch uint32
	Index, Many  int
	Block        uint32
}

// What a header says, by its kind.
type ParityPage struct {
	Epoch, Batch uint32
	Row, Segment int
}

// What a header says, by its kind.
type FillPage struct {
	Epoch, Batch uint32
}

// Tell: what a header says, as one of these types; nil: its kind is none.
func Tell(h Header) any {
	switch h.Kind {
	case Table:
		return TablePage{Seq: h.Epoch, Index: int(h.Index), Many: int(h.Count)}
	case Member:
		return MemberPage{Seq: h.Epoch}
	case Point:
		return PointPage{Seq: h.Epoch, Index: int(h.Index), Many: int(h.Count)}
	case Data:
		return DataPage{Epoch: h.Epoch, Batch: h.Batch, Index: int(h.Index), Many: int(h.Count), Block: h.Block}
	case Parity:
		return ParityPage{Epoch: h.Epoch, Batch: h.Batch, Row: int(h.Index), Segment: int(h.Count)}
	case Fill:
		return FillPage{Epoch: h.Epoch, Batch: h.Batch}
	}
	return nil
}

// Said: the header that says it; false: it is none of these types, or a number doesn't fit.
func Said(x any) (Header, bool) { return said(x) }

// AsData: what a header says, if it is of a logical block; else false.
func AsData(x any) (DataPage, bool) { return asData(x) }

// MustData: what a header says, that is of a logical block. (It panics, if it isn't.)
func MustData(x any) DataPage { return mustData(x) }

// Epoch: the number that a header says: its epoch, or that of its table, set or point.
func Epoch(x any) (uint32, api.Errno) {
	h, ok := said(x)
	if !ok {
		return 0, api.Form
	}
	return h.Epoch, api.OK
}

// A value that comes in to a call is asked for its type by these alone.

func said(x any) (Header, bool) {
	switch x := x.(type) {
	case TablePage:
		return Header{Kind: Table, Epoch: x.Seq}.with(x.Index, x.Many)
	case MemberPage:
		return Header{Kind: Member, Epoch: x.Seq}.with(0, 1)
	case PointPage:
		return Header{Kind: Point, Epoch: x.Seq}.with(x.Index, x.Many)
	case DataPage:
		return Header{Kind: Data, Epoch: x.Epoch, Batch: x.Batch, Block: x.Block}.with(x.Index, x.Many)
	case ParityPage:
		return Header{Kind: Parity, Epoch: x.Epoch, Batch: x.Batch}.with(x.Row, x.Segment)
	case FillPage:
		return Header{Kind: Fill, Epoch: x.Epoch, Batch: x.Batch}, true
	}
	return Header{}, false
}

func asData(x any) (DataPage, bool) {
	p, ok := x.(DataPage)
	return p, ok
}

func mustData(x any) DataPage { return x.(DataPage) }

// with: a header with these numbers; false: one doesn't fit.
func (h Header) with(index, count int) (Header, bool) {
	if index < 0 || index > math.MaxUint16 || count < 0 || count > math.MaxUint16 {
		return Header{}, false
	}
	h.Index, h.Count = uint16(index), uint16(count)
	return h, true
}
