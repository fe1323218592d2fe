package remap

import (
	"slices"

	"gabion/api"
	"gabion/cursor"
	"gabion/record"
)

// Page is a page's bytes, and those beside it.
type Page struct {
	Data, Oob []byte
}

// Encode: a table's bytes.
func (t Table) Encode(g api.Geo) ([]byte, api.Errno) {
	if e := t.Check(g); e != api.OK {
		return nil, e
	}
	w := &cursor.Writer{}
	w.U32(t.Seq)
	for _, l := range [2][]int{t.Place, t.Spare} {
		w.U8(uint8(len(l))).U8(blocks(l)...)
	}
	return w.U8(blocks(t.Tables[:])...).Bytes(), api.OK
}

// blocks: a list of blocks, a byte each.
func blocks(l []int) []uint8 {
	var out []uint8
	for _, b := range l {
		out = append(out, uint8(b))
	}
	return out
}

// Decode: the table that bytes are, with noughts behind.
func Decode(b []byte, g api.Geo) (Table, api.Errno) {
	var t Table
	zero := false
	e := cursor.Read(b, func(r *cursor.Reader) {
		t.Seq = r.U32()
		t.Place = take(r, int(r.U8()))
		t.Spare = take(r, int(r.U8()))
		t.Tables = [2]int(take(r, len(t.Tables)))
		zero = r.Zero()
	})
	if e == api.OK && !zero {
		e = api.Form
	}
	if e == api.OK {
		e = t.Check(g)
	}
	if e != api.OK {
		return Table{}, e
	}
	return t, api.OK
}

// take: the next n blocks.
func take(r *cursor.Reader, n int) []int {
	var l []int
	for _, b := range r.Raw(n) {
		l = append(l, int(b))
	}
	return l
}

// Pages: a table as pages.
func (t Table) Pages(g api.Geo) ([]Page, api.Errno) {
	b, e := t.Encode(g)
	if e != api.OK {
		return nil, e
	}
	many := (len(b) + g.Size - 1) / g.Size
	var l []Page
	for part := range slices.Chunk(b, g.Size) {
		data := (&cursor.Writer{}).Raw(part).Pad(g.Size).Bytes()
		h := record.Header{Kind: record.Table, Epoch: t.Seq, Index: uint16(len(l)), Count: uint16(many)}
		l = append(l, Page{Data: data, Oob: record.Seal(h, data, nil)})
	}
	return l, api.OK
}

// Join: the table that pages are, the first of them first; those behind its last are nothing.
func Join(l []Page, g api.Geo) (Table, api.Errno) {
	head, ok := said(l, 0)
	if !ok {
		return Table{}, api.Form
	}
	var b []byte
	for i := range max(head.Many, 1) {
		p, ok := said(l, i)
		if !ok || p != (record.TablePage{Seq: head.Seq, Index: i, Many: head.Many}) {
			return Table{}, api.Form
		}
		b = append(b, l[i].Data...)
	}
	t, e := Decode(b, g)
	if e != api.OK {
		return Table{}, e
	}
	if t.Seq != head.Seq {
		return Table{}, api.Form
	}
	return t, api.OK
}

// said: what stands beside the i-th page; false: there is none, or it isn't sealed as one of a table.
func said(l []Page, i int) (record.TablePage, bool) {
	if i >= len(l) {
		return record.TablePage{}, false
	}
	h, ok := record.Open(l[i].Data, l[i].Oob)
	if !ok {
		return record.TablePage{}, false
	}
	p, ok := record.Tell(h).(record.TablePage)
	return p, ok
}
