package store

import (
	"gabion/api"
	"gabion/geom"
	"gabion/record"
	"gabion/stage"
	"gabion/stripe"
	"gabion/wear"
)

// Get: a block's bytes; of one that was never written noughts.
func (s *Store) Get(b uint32) ([]byte, api.Errno) {
	if e := s.ready(); e != api.OK {
		return nil, e
	}
	if !s.has(b) {
		return nil, api.Range
	}
	data, e := s.read(b)
	return data, s.keep(e)
}

// read: a block's bytes, where it is. IO: what stands there isn't this block.
func (s *Store) read(b uint32) ([]byte, api.Errno) {
	p, ok, e := s.find(b)
	if e != api.OK {
		return nil, e
	}
	if !ok {
		return make([]byte, s.geo.Size), api.OK
	}
	if d, ok := record.AsData(record.Tell(p.Head)); !ok || d.Block != b {
		return nil, api.IO
	}
	return p.Data, api.OK
}

// find: the page that stands where a block is; false: it is nowhere.
func (s *Store) find(b uint32) (stripe.Page, bool, api.Errno) {
	if x, ok := s.staged[b]; ok {
		p, e := stage.Get(s.dev, x.which, x.n)
		return p, true, e
	}
	at, ok := geom.At(s.geo, s.places[b])
	if !ok {
		return stripe.Page{}, false, api.OK
	}
	p, e := stripe.Read(s.dev, at)
	return p, true, e
}

// items: blocks, each with its bytes.
func (s *Store) items(blocks ...uint32) ([]Item, api.Errno) {
	var l []Item
	for _, b := range blocks {
		data, e := s.read(b)
		if e != api.OK {
			return nil, e
		}
		l = append(l, Item{Block: b, Data: data})
	}
	return l, api.OK
}

// drop: a block is nowhere from now on.
func (s *Store) drop(b uint32) {
	delete(s.staged, b)
	if at, ok := geom.At(s.geo, s.places[b]); ok {
		s.segs[at.Seg-geom.First].Live--
		s.places[b] = 0
	}
}

// hold: a block is staged from now on.
func (s *Store) hold(b uint32, x spot) {
	s.drop(b)
	s.staged[b] = x
}

// lay: a block is at a place from now on.
func (s *Store) lay(b uint32, at geom.Place) {
	s.drop(b)
	s.places[b] = geom.Number(s.geo, at)
	s.segs[at.Seg-geom.First].Live++
}

// within: the blocks that stand in a segment, rising, each with its row.
func (s *Store) within(seg int) (blocks []uint32, rows []int) {
	for b, n := range s.places {
		if at, ok := geom.At(s.geo, n); ok && at.Seg == geom.First+seg {
			blocks, rows = append(blocks, uint32(b)), append(rows, at.Row)
		}
	}
	return blocks, rows
}

// stripes writes pages as stripes, the last one filled up; their places.
func (s *Store) stripes(epoch, batch uint32, l ...stripe.Page) ([]geom.Place, api.Errno) {
	w := geom.Width(s.geo)
	var places []geom.Place
	for from := 0; from < len(l); from += w {
		if e := s.advance(); e != api.OK {
			return nil, e
		}
		part := append([]stripe.Page{}, l[from:min(from+w, len(l))]...)
		at := geom.Place{Seg: geom.First + s.open, Row: s.row}
		for range part {
			places = append(places, at)
			at.Slot++
		}
		for len(part) < w {
			part = append(part, stripe.Fill(s.geo, epoch, batch))
		}
		if e := stripe.Write(s.dev, at.Seg, at.Row, part...); e != api.OK {
			return nil, e
		}
		s.row++
	}
	return places, api.OK
}

// advance: the open segment has a next row: if it hasn't, the next segment is erased and opened. NoSpc: none is free.
func (s *Store) advance() api.Errno {
	if s.open != none && s.row < s.geo.Pages {
		return api.OK
	}
	n := wear.Next(s.segs)
	if n < 0 {
		return api.NoSpc
	}
	if e := s.dev.Erase(geom.First + n); e != api.OK {
		return e
	}
	s.shut()
	s.segs[n].Kind = wear.Open
	s.segs[n].Erases++
	s.open, s.row = n, 0
	return api.OK
}

// shut: the segment that was open is closed.
func (s *Store) shut() {
	if s.open != none {
		s.segs[s.open].Kind = wear.Closed
		s.open = none
	}
}
