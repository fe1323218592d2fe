package stripe

import (
	"bytes"
	"slices"

	"gabion/api"
	"gabion/geom"
	"gabion/parity"
	"gabion/record"
)

// none is no member.
const none = -1

// found is what stands on a member: a page, and its header, if it is sealed.
type found struct {
	parity.Page
	head   record.Header
	sealed bool
}

// open: a page as it is found, with its header.
func open(p parity.Page) found {
	h, ok := record.Open(p.Data, p.Oob)
	return found{Page: p, head: h, sealed: ok}
}

// page: what is found, as an answer. A Dev may hand out what it keeps: an answer has bytes of its own.
func (x found) page() Page { return Page{Head: x.head, Data: bytes.Clone(x.Data)} }

// line is a stripe as it is found: what stands on each member, and which one is missing.
type line struct {
	geo      api.Geo
	seg, row int
	on       []found
	missing  int
}

// Read: one page of a stripe: as it stands, or, if that isn't right, out of all others.
func Read(d Dev, p geom.Place) (Page, api.Errno) {
	g, e := shape(d, p)
	if e != api.OK {
		return Page{}, e
	}
	m := geom.Member(g, p)
	x, e := look(d, m, p.Seg, p.Row)
	switch {
	case e != api.OK && e != api.Dead:
		return Page{}, e
	case x.sealed:
		return x.page(), api.OK
	}
	s := line{geo: g, seg: p.Seg, row: p.Row, missing: m}
	if e := s.gather(d); e != api.OK {
		return Page{}, e
	}
	if !s.complete() {
		return Page{}, api.IO
	}
	return s.on[m].page(), api.OK
}

// Row: what a stripe is, by all members that aren't dead; of a whole one its pages of data.
func Row(d Dev, seg, row int) ([]Page, int, api.Errno) {
	s, e := take(d, seg, row)
	switch {
	case e != api.OK:
		return nil, 0, e
	case s.blank():
		return nil, Blank, api.OK
	case !s.complete():
		return nil, Torn, api.OK
	}
	return s.pages(), Whole, api.OK
}

// Even: are all pages of a whole stripe, with its parity, nothing together?
func Even(d Dev, seg, row int) (bool, api.Errno) {
	s, e := take(d, seg, row)
	if e != api.OK {
		return false, e
	}
	return s.complete() && s.even(), api.OK
}

// take: a stripe as all members have it, but one that is dead.
func take(d Dev, seg, row int) (*line, api.Errno) {
	g, e := shape(d, geom.Place{Seg: seg, Row: row})
	if e != api.OK {
		return nil, e
	}
	s := &line{geo: g, seg: seg, row: row, missing: none}
	if e := s.gather(d); e != api.OK {
		return nil, e
	}
	return s, api.OK
}

// look: what stands on a member.
func look(d Dev, m, seg, row int) (found, api.Errno) {
	data, oob, e := d.Read(m, seg, row)
	if e != api.OK {
		return found{}, e
	}
	return open(parity.Page{Data: data, Oob: oob}), api.OK
}

// gather looks at all members but the one that is missing; if none is, the first that is dead is missing then. Lost: another one is dead, too.
func (s *line) gather(d Dev) api.Errno {
	s.on = make([]found, s.geo.Chips)
	for m := range s.on {
		if m == s.missing {
			continue
		}
		x, e := look(d, m, s.seg, s.row)
		switch {
		case e == api.OK:
			s.on[m] = x
		case e != api.Dead:
			return e
		case s.missing != none:
			return api.Lost
		default:
			s.missing = m
		}
	}
	return api.OK
}

// every: is it so of what stands on each member that isn't missing?
func (s *line) every(is func(x found) bool) bool {
	for m, x := range s.on {
		if m != s.missing && !is(x) {
			return false
		}
	}
	return true
}

// blank: is nothing there at all?
func (s *line) blank() bool {
	return s.every(func(x found) bool { return record.Blank(x.Data, x.Oob) })
}

// complete makes the page of data that is missing out of all others; false: one of them isn't right, or what comes out isn't.
func (s *line) complete() bool {
	if !s.every(func(x found) bool { return x.sealed }) {
		return false
	}
	with := geom.Parity(s.geo, s.seg, s.row)
	if s.missing == none || s.missing == with {
		return true
	}
	var others []parity.Page
	for m, x := range s.on {
		if m != s.missing && m != with {
			others = append(others, x.Page)
		}
	}
	p, e := parity.Missing(s.on[with].Page, others...)
	if e != api.OK {
		return false
	}
	s.on[s.missing] = open(p)
	return true
}

// pages: its pages of data, of one that is whole.
func (s *line) pages() []Page {
	var l []Page
	for slot := range geom.Width(s.geo) {
		m := geom.Member(s.geo, geom.Place{Seg: s.seg, Row: s.row, Slot: slot})
		l = append(l, s.on[m].page())
	}
	return l
}

// even: are the bytes of all pages of one that is whole nothing together, as far as its parity is there?
func (s *line) even() bool {
	if s.missing == geom.Parity(s.geo, s.seg, s.row) {
		return true
	}
	var parts [][]byte
	for _, x := range s.on {
		parts = append(parts, x.Data)
	}
	return !slices.ContainsFunc(parity.Xor(parts...), func(b byte) bool { return b != 0 })
}
