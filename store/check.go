package store

import (
	"slices"

	"gabion/api"
	"gabion/geom"
	"gabion/stripe"
	"gabion/wear"
)

// Check: is all that counts there, and right: each block can be read, each stripe of a segment that is held is even, and the counts are what the map says?
func (s *Store) Check() (bool, api.Errno) {
	if e := s.ready(); e != api.OK {
		return false, e
	}
	if !s.counted() {
		return false, api.OK
	}
	for b := range s.places {
		switch _, e := s.read(uint32(b)); e {
		case api.OK:
		case api.IO:
			return false, api.OK
		default:
			return false, s.keep(e)
		}
	}
	for n := range s.segs {
		if even, e := s.even(n); e != api.OK || !even {
			return false, s.keep(e)
		}
	}
	return true, api.OK
}

// counted: are all segments' counts what the map says, and those of free ones 0?
func (s *Store) counted() bool {
	lives := make([]int, len(s.segs))
	for _, n := range s.places {
		if at, ok := geom.At(s.geo, n); ok {
			lives[at.Seg-geom.First]++
		}
	}
	for n, x := range s.segs {
		if x.Live != lives[n] || x.Kind == wear.Free && x.Live != 0 {
			return false
		}
	}
	return true
}

// even: is each stripe of a segment in which a page counts whole and even?
func (s *Store) even(n int) (bool, api.Errno) {
	_, rows := s.within(n)
	slices.Sort(rows)
	for _, row := range slices.Compact(rows) {
		if even, e := stripe.Even(s.dev, geom.First+n, row); e != api.OK || !even {
			return false, e
		}
	}
	return true, api.OK
}

// Scrub: each segment in which a page counts is looked at; one with a stripe that isn't whole, or isn't even, is cleared. How many were.
func (s *Store) Scrub() (int, api.Errno) {
	if e := s.ready(); e != api.OK {
		return 0, e
	}
	many := 0
	for n := range s.segs {
		cleared, e := s.scrub(n)
		if e != api.OK {
			return 0, s.keep(e)
		}
		if cleared {
			many++
		}
	}
	return many, api.OK
}

// scrub: a segment is cleared if one of its stripes isn't right; was it?
func (s *Store) scrub(n int) (bool, api.Errno) {
	even, e := s.even(n)
	if e != api.OK || even {
		return false, e
	}
	if e := s.room(0); e != api.OK {
		return false, e
	}
	// It may have been cleared to make room.
	if even, e = s.even(n); e == api.OK && !even {
		e = s.clear(n)
	}
	return e == api.OK, e
}
