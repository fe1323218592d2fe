package member

import (
	"gabion/api"
	"gabion/cursor"
	"gabion/record"
)

// Page: a set as a page, and what stands beside it.
func (s Set) Page(g api.Geo) (data, oob []byte, e api.Errno) {
	if e := s.Check(g); e != api.OK {
		return nil, nil, e
	}
	w := &cursor.Writer{}
	w.U32(s.Seq).U8(uint8(len(s.Chips)))
	for _, chip := range s.Chips {
		w.U8(uint8(chip))
	}
	w.U8(uint8(s.Spare), uint8(s.Dead), uint8(s.Done))
	w.U16(uint16(g.Blocks), uint16(g.Pages), uint16(g.Size))
	data = w.Pad(g.Size).Bytes()
	return data, record.Seal(record.Header{Kind: record.Member, Epoch: s.Seq, Count: 1}, data, nil), api.OK
}

// Parse: the set of a page.
func Parse(g api.Geo, data, oob []byte) (Set, api.Errno) {
	h, ok := record.Open(data, oob)
	if !ok || h.Kind != record.Member {
		return Set{}, api.Sum
	}
	s, of, ok := take(data)
	if !ok || of != g || s.Seq != h.Epoch {
		return Set{}, api.Form
	}
	if e := s.Check(g); e != api.OK {
		return Set{}, e
	}
	return s, api.OK
}

// take: the set that bytes are, and its shape; false: they run out, or aren't noughts behind.
func take(data []byte) (s Set, of api.Geo, ok bool) {
	e := cursor.Read(data, func(r *cursor.Reader) {
		s.Seq = r.U32()
		of.Chips = int(r.U8())
		for range of.Chips {
			s.Chips = append(s.Chips, int(r.U8()))
		}
		s.Spare, s.Dead, s.Done = int(r.U8()), int(r.U8()), int(r.U8())
		of.Blocks, of.Pages, of.Size = int(r.U16()), int(r.U16()), int(r.U16())
		ok = r.Zero()
	})
	return s, of, ok && e == api.OK
}
