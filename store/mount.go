package store

import (
	"gabion/api"
	"gabion/geom"
	"gabion/point"
	"gabion/record"
	"gabion/stage"
	"gabion/stripe"
	"gabion/wear"
)

// mark is which page of which batch one is.
type mark struct {
	batch uint32
	index int
}

// trace is a batch's page as it is found: which block it is, one of how many pages; where.
type trace struct {
	block uint32
	many  int
	waits bool // it is staged
	spot  spot
	place geom.Place
}

// Mount: a store as it was left: the last point, and all batches behind it that are whole.
func Mount(d point.Dev) (*Store, api.Errno) {
	if d == nil {
		return nil, api.Nil
	}
	p, ok, most, e := point.Last(d)
	if e != api.OK {
		return nil, e
	}
	s, e := empty(d)
	if e != api.OK || !ok || !s.take(p) {
		return nil, api.Form
	}
	s.met = most
	found := map[mark]trace{}
	if e := s.search(found); e != api.OK {
		return nil, e
	}
	for s.redo(found) {
	}
	if e := s.resume(); e != api.OK {
		return nil, e
	}
	return s, api.OK
}

// take: blocks are where a point says; false: it is none of such a store.
func (s *Store) take(p point.Point) bool {
	if len(p.Map) != len(s.places) || len(p.Erases) != len(s.segs) {
		return false
	}
	for i, n := range p.Erases {
		s.segs[i].Erases = n
	}
	for b, n := range p.Map {
		at, ok := geom.At(s.geo, n)
		switch {
		case n == 0:
		case !ok || at.Seg < geom.First:
			return false
		default:
			s.lay(uint32(b), at)
			s.segs[at.Seg-geom.First].Kind = wear.Closed
		}
	}
	s.epoch = p.Seq
	return true
}

// search: the pages of this epoch's batches, wherever they stand.
func (s *Store) search(found map[mark]trace) api.Errno {
	for n := range s.segs {
		if e := s.searchRows(n, found); e != api.OK {
			return e
		}
	}
	for which := range 2 {
		l, e := stage.All(s.dev, which)
		if e != api.OK {
			return e
		}
		for n, p := range l {
			s.meet(found, p, trace{waits: true, spot: spot{which: which, n: n}})
		}
	}
	return api.OK
}

// searchRows: those of a segment, up to the first row that isn't whole. One that holds any isn't free.
func (s *Store) searchRows(n int, found map[mark]trace) api.Errno {
	seg := geom.First + n
	for row := range geom.Rows(s.geo, seg) {
		l, is, e := stripe.Row(s.dev, seg, row)
		if e != api.OK || is != stripe.Whole {
			return e
		}
		for slot, p := range l {
			if s.meet(found, p, trace{place: geom.Place{Seg: seg, Row: row, Slot: slot}}) {
				s.segs[n].Kind = wear.Closed
			}
		}
	}
	return api.OK
}

// meet: a page is met; one of a batch of this epoch is found. Is it of this epoch?
func (s *Store) meet(found map[mark]trace, p stripe.Page, x trace) bool {
	d, ok := record.AsData(record.Tell(p.Head))
	// Batches of a point that can't be read any longer must not be taken for those of the new one.
	if ok && d.Batch > 0 {
		s.met = max(s.met, d.Epoch)
	}
	if p.Head.Epoch != s.epoch {
		return false
	}
	if ok && s.has(d.Block) {
		x.block, x.many = d.Block, d.Many
		found[mark{batch: d.Batch, index: d.Index}] = x
	}
	return true
}

// redo: the next batch is done once more; false: not all pages of it are there.
func (s *Store) redo(found map[mark]trace) bool {
	batch := s.batch + 1
	l := whole(found, batch)
	for _, x := range l {
		if x.waits {
			s.hold(x.block, x.spot)
			continue
		}
		s.lay(x.block, x.place)
	}
	if len(l) == 0 {
		return false
	}
	s.batch = batch
	return true
}

// whole: all pages of a batch, in order; none: one isn't there.
func whole(found map[mark]trace, batch uint32) []trace {
	var l []trace
	many := found[mark{batch: batch}].many
	for i := range many {
		x, ok := found[mark{batch: batch, index: i}]
		if !ok || x.many != many {
			return nil
		}
		l = append(l, x)
	}
	return l
}

// resume: a new point, with which all goes on.
func (s *Store) resume() api.Errno {
	// A point that was cut off by its last page is whole if another member dies. It must be gone ahead of what it names.
	if len(s.staged) > 0 {
		if e := s.dev.Erase(geom.Points + 1 - int(s.epoch%2)); e != api.OK {
			return e
		}
	}
	return s.renew()
}
