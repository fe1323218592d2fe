package store

import (
	"gabion/api"
	"gabion/geom"
	"gabion/point"
	"gabion/record"
	"gabion/stripe"
	"gabion/wear"
)

// Point: what is staged goes elsewhere, and a new point is written.
func (s *Store) Point() api.Errno {
	if e := s.ready(); e != api.OK {
		return e
	}
	e := s.room(0)
	if e == api.OK {
		e = s.renew()
	}
	return s.keep(e)
}

// Trim: what waits for nothing is made free: a new point, so that segments of which no page counts are; how many segments are free.
func (s *Store) Trim() (int, api.Errno) {
	if e := s.Point(); e != api.OK {
		return 0, e
	}
	return wear.Count(s.segs, wear.Free), api.OK
}

// room: so many blocks can be written, with what is staged, and a segment can still be cleared behind them. NoSpc: too many had to be.
func (s *Store) room(blocks int) api.Errno {
	for moves := 0; s.rows() < s.wanted(blocks); moves++ {
		if moves == Moves {
			return api.NoSpc
		}
		if e := s.gain(); e != api.OK {
			return e
		}
	}
	return api.OK
}

// wanted: how many rows there must be for so many blocks.
func (s *Store) wanted(blocks int) int {
	w := geom.Width(s.geo)
	return (blocks+len(s.staged)+w-1)/w + 1 + 2*s.geo.Pages + 2
}

// gain: segments become free: those in which nothing counts, else one that is cleared. NoSpc: none can be.
func (s *Store) gain() api.Errno {
	if len(wear.Dead(s.segs)) > 0 {
		return s.renew()
	}
	n := wear.Victim(s.segs)
	if n < 0 {
		return api.NoSpc
	}
	return s.clear(n)
}

// clear: what counts in a segment goes elsewhere, so that it is free.
func (s *Store) clear(n int) api.Errno {
	// What goes out of the open one must not come into it again.
	if n == s.open {
		s.shut()
	}
	l, _ := s.within(n)
	if e := s.renew(l...); e != api.OK {
		return e
	}
	s.stats.Cleared++
	s.stats.Moved += len(l)
	return api.OK
}

// renew: a new point: what is staged, and other blocks behind it, are written as stripes, then where all blocks are.
func (s *Store) renew(more ...uint32) api.Errno {
	seq, e := s.number()
	if e != api.OK {
		return e
	}
	l, e := s.items(append(s.Staged(), more...)...)
	if e != api.OK {
		return e
	}
	var moved []stripe.Page
	for _, x := range l {
		moved = append(moved, stripe.Page{Head: record.Header{Kind: record.Data, Epoch: seq, Block: x.Block}, Data: x.Data})
	}
	places, e := s.stripes(seq, 0, moved...)
	if e != api.OK {
		return e
	}
	s.settle(moved, places)
	var erases []uint32
	for _, x := range s.segs {
		erases = append(erases, x.Erases)
	}
	if e := point.Write(s.dev, point.Point{Seq: seq, Batch: s.batch, Map: s.places, Erases: erases}); e != api.OK {
		return e
	}
	s.epoch, s.met, s.batch, s.put = seq, seq, 0, 0
	s.stats.Points++
	for _, n := range wear.Dead(s.segs) {
		s.segs[n].Kind = wear.Free
	}
	return s.dev.Erase(geom.Stages + s.which())
}

// number: that of a new point: above all that was met, odd and even in turn. Range: there is none.
func (s *Store) number() (uint32, api.Errno) {
	n := s.met + 1
	if n%2 == s.epoch%2 {
		n++
	}
	if n <= s.met {
		return 0, api.Range
	}
	return n, api.OK
}
