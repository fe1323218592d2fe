package point

import (
	"slices"

	"gabion/api"
	"gabion/cursor"
	"gabion/geom"
	"gabion/record"
	"gabion/stripe"
)

// Write: a point, in the one of two segments that its number tells.
func Write(d Dev, p Point) api.Errno {
	if d == nil {
		return api.Nil
	}
	g := d.Geo()
	if e := g.Check(); e != api.OK {
		return e
	}
	l := pages(g, p)
	if len(l) > geom.Pages(g) {
		return api.NoSpc
	}
	seg := geom.Points + int(p.Seq%2)
	if e := d.Erase(seg); e != api.OK {
		return e
	}
	row := 0
	for part := range slices.Chunk(l, geom.Width(g)) {
		if e := stripe.Write(d, seg, row, full(g, p, part)...); e != api.OK {
			return e
		}
		row++
	}
	return api.OK
}

// pages: a point's bytes as pages, noughts behind the last of them.
func pages(g api.Geo, p Point) []stripe.Page {
	b := p.Encode()
	many := (len(b) + g.Size - 1) / g.Size
	b = (&cursor.Writer{}).Raw(b).Pad(many * g.Size).Bytes()
	var l []stripe.Page
	for data := range slices.Chunk(b, g.Size) {
		h := record.Header{Kind: record.Point, Epoch: p.Seq, Index: uint16(len(l)), Count: uint16(many)}
		l = append(l, stripe.Page{Head: h, Data: data})
	}
	return l
}

// full: pages as a whole stripe.
func full(g api.Geo, p Point, l []stripe.Page) []stripe.Page {
	l = slices.Clip(l)
	for len(l) < geom.Width(g) {
		l = append(l, stripe.Fill(g, p.Seq, 0))
	}
	return l
}

// Read: the point of one of two segments (0 or 1); false: there is none that is whole. And the greatest number that is met there, also if there is none.
func Read(d stripe.Dev, which int) (p Point, ok bool, most uint32, e api.Errno) {
	if d == nil {
		return Point{}, false, 0, api.Nil
	}
	if which != 0 && which != 1 {
		return Point{}, false, 0, api.Range
	}
	l, e := rows(d, geom.Points+which)
	if e != api.OK {
		return Point{}, false, 0, e
	}
	for _, x := range l {
		most = max(most, x.Head.Epoch)
	}
	p, ok = join(l, most)
	return p, ok, most, api.OK
}

// rows: all pages of a segment's rows, up to the first that isn't whole.
func rows(d stripe.Dev, seg int) ([]stripe.Page, api.Errno) {
	g := d.Geo()
	if e := g.Check(); e != api.OK {
		return nil, e
	}
	var l []stripe.Page
	for row := range geom.Rows(g, seg) {
		some, kind, e := stripe.Row(d, seg, row)
		if e != api.OK {
			return nil, e
		}
		if kind != stripe.Whole {
			break
		}
		l = append(l, some...)
	}
	return l, api.OK
}

// join: the point that pages are, if none of them has a greater number.
func join(l []stripe.Page, most uint32) (Point, bool) {
	var b []byte
	for i, x := range parts(l) {
		h := x.Head
		if h.Kind != record.Point || int(h.Index) != i || h.Count != l[0].Head.Count {
			return Point{}, false
		}
		b = append(b, x.Data...)
	}
	p, e := Decode(b)
	if e != api.OK || p.Seq != most {
		return Point{}, false
	}
	return p, true
}

// parts: as many pages as the first one tells; none, if there aren't so many.
func parts(l []stripe.Page) []stripe.Page {
	if len(l) == 0 || len(l) < int(l[0].Head.Count) {
		return nil
	}
	return l[:l[0].Head.Count]
}

// Last: the greater point of both segments; false: there is none. And the greatest number that is met, also if there is none.
func Last(d stripe.Dev) (p Point, ok bool, most uint32, e api.Errno) {
	for which := range 2 {
		one, found, top, e := Read(d, which)
		if e != api.OK {
			return Point{}, false, 0, e
		}
		if found && (!ok || one.Seq > p.Seq) {
			p, ok = one, true
		}
		most = max(most, top)
	}
	return p, ok, most, api.OK
}
