package store

import (
	"slices"

	"gabion/api"
	"gabion/geom"
	"gabion/record"
	"gabion/stage"
	"gabion/stripe"
)

// Batch: blocks get other bytes, and others are given up, all at once; when it answers they are safe.
func (s *Store) Batch(l []Item, drops ...uint32) api.Errno {
	if e := s.ready(); e != api.OK {
		return e
	}
	if !s.may(l, drops) {
		return api.Range
	}
	if e := s.room(len(l)); e != api.OK {
		return s.keep(e)
	}
	if len(l) > 0 {
		if e := s.write(l); e != api.OK {
			return s.keep(e)
		}
	}
	for _, b := range drops {
		s.drop(b)
	}
	return api.OK
}

// may: are these blocks that there are, each once, each with as many bytes as a page has, and none of them is given up?
func (s *Store) may(l []Item, drops []uint32) bool {
	if len(l) > api.MaxBatch {
		return false
	}
	for i, x := range l {
		if !s.has(x.Block) || len(x.Data) != s.geo.Size || among(l[:i], x.Block) {
			return false
		}
	}
	return !slices.ContainsFunc(drops, func(b uint32) bool { return !s.has(b) || among(l, b) })
}

// among: is a block one of these?
func among(l []Item, b uint32) bool {
	return slices.ContainsFunc(l, func(x Item) bool { return x.Block == b })
}

// write: a batch: what waits, and its blocks behind, as stripes, as far as they fill them; the rest is staged.
func (s *Store) write(l []Item) api.Errno {
	old, striped := s.plan(l)
	all, e := s.items(old...)
	if e != api.OK {
		return e
	}
	batch := s.batch + 1
	var pages []stripe.Page
	for _, x := range append(all, l...) {
		h := record.Header{Kind: record.Data, Epoch: s.epoch, Batch: batch, Index: uint16(len(pages)), Count: uint16(len(old) + len(l)), Block: x.Block}
		pages = append(pages, stripe.Page{Head: h, Data: x.Data})
	}
	places, e := s.stripes(s.epoch, batch, pages[:striped]...)
	if e != api.OK {
		return e
	}
	for i, p := range pages[striped:] {
		if e := stage.Put(s.dev, s.which(), s.put+i, p); e != api.OK {
			return e
		}
	}
	s.settle(pages, places)
	s.batch = batch
	s.stats.Batches++
	return api.OK
}

// plan: which of the blocks that wait are written with a batch, and how many of its pages as stripes, from the first on: the others are staged.
func (s *Store) plan(l []Item) (old []uint32, striped int) {
	for _, b := range s.Staged() {
		if !among(l, b) {
			old = append(old, b)
		}
	}
	w, many := geom.Width(s.geo), len(old)+len(l)
	wait := many % w
	if many < w {
		wait = len(l)
	}
	switch {
	case s.put+wait > s.Most():
		return old, many
	case many < w:
		return nil, 0
	}
	return old, many - wait
}

// settle: blocks are where their pages were written: the first ones at places, the others staged.
func (s *Store) settle(l []stripe.Page, places []geom.Place) {
	for i, p := range l {
		if i < len(places) {
			s.lay(p.Head.Block, places[i])
			continue
		}
		s.hold(p.Head.Block, spot{which: s.which(), n: s.put})
		s.put++
	}
}

// which: the block for what is staged: that of a point with an odd number isn't that of one with an even number.
func (s *Store) which() int { return int(s.epoch % 2) }
