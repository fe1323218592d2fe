package parity_test

import (
	"bytes"
	"slices"
	"testing"

	"gabion/api"
	"gabion/geom"
	"gabion/parity"
	"gabion/record"
)

// stripe: a stripe's pages, each at its member, and what each slot holds.
func stripe(t *testing.T, g api.Geo, seg, row int) (on, data []parity.Page) {
	t.Helper()
	on = make([]parity.Page, g.Chips)
	for slot := range geom.Width(g) {
		p := geom.Place{Seg: seg, Row: row, Slot: slot}
		n := geom.Number(g, p)
		bytes := sample(g.Size, n)
		h := record.Header{Kind: record.Data, Epoch: 7, Batch: 3, Index: uint16(slot), Count: uint16(geom.Width(g)), Block: n}
		data = append(data, parity.Page{Data: bytes, Oob: record.Seal(h, bytes, nil)})
		on[geom.Member(g, p)] = data[slot]
	}
	h := record.Header{Kind: record.Parity, Epoch: 7, Batch: 3, Index: uint16(row), Count: uint16(seg)}
	on[geom.Parity(g, seg, row)] = parity.Of(h, data...)
	for m, p := range on {
		if len(p.Data) != g.Size {
			t.Fatal(g, seg, row, "nothing is on member", m)
		}
	}
	return on, data
}

// again: a member's page, out of all others alone.
func again(t *testing.T, g api.Geo, seg, row, dead int, on []parity.Page) parity.Page {
	t.Helper()
	slot, ok := geom.Slot(g, seg, row, dead)
	if !ok {
		var data []parity.Page
		for s := range geom.Width(g) {
			data = append(data, on[geom.Member(g, geom.Place{Seg: seg, Row: row, Slot: s})])
		}
		h := record.Header{Kind: record.Parity, Epoch: 7, Batch: 3, Index: uint16(row), Count: uint16(seg)}
		return parity.Of(h, data...)
	}
	with := geom.Parity(g, seg, row)
	others := slices.Clone(on)
	others = slices.Delete(others, max(with, dead), max(with, dead)+1)
	others = slices.Delete(others, min(with, dead), min(with, dead)+1)
	p, e := parity.Missing(on[with], others...)
	if e != api.OK {
		t.Fatal(g, seg, row, "slot", slot, "of", dead, e)
	}
	return p
}

// P4, P9.2: whichever member is dead, each stripe's page on it is made again out of the others; and when all were, whichever is dead then.
func TestAnyMemberDead(t *testing.T) {
	for _, g := range []api.Geo{
		{Chips: api.MinChips, Blocks: api.MinBlocks, Pages: api.MinPages, Size: api.MinSize},
		{Chips: 4, Blocks: 17, Pages: 5, Size: 320},
		{Chips: 7, Blocks: 16, Pages: 4, Size: 256},
	} {
		for seg := range g.Virtual() {
			for row := range geom.Rows(g, seg) {
				was, data := stripe(t, g, seg, row)
				on := slices.Clone(was)
				for round := range 2 {
					for dead := range g.Chips {
						on[dead] = parity.Page{}
						on[dead] = again(t, g, seg, row, dead, on)
						if !same(on[dead], was[dead]) {
							t.Fatal(g, seg, row, "member", dead, "in round", round)
						}
					}
				}
				for slot, p := range data {
					if !same(on[geom.Member(g, geom.Place{Seg: seg, Row: row, Slot: slot})], p) {
						t.Fatal(g, seg, row, "slot", slot)
					}
				}
				all := parity.Xor(on[0].Data, parity.Of(record.Header{}, on[1:]...).Data)
				if !bytes.Equal(all, make([]byte, g.Size)) {
					t.Fatal(g, seg, row, "isn't nothing together")
				}
			}
		}
	}
}

// P4: so it is of the greatest shape, in each of its rows' turns.
func TestAnyOfMostMembersDead(t *testing.T) {
	g := api.Geo{Chips: api.MaxChips, Blocks: api.MaxBlocks, Pages: api.MaxPages, Size: api.MaxSize}
	for row := range 16 {
		seg := g.Virtual() - 1
		on, _ := stripe(t, g, seg, row)
		for dead := range g.Chips {
			left := slices.Clone(on)
			left[dead] = parity.Page{}
			if p := again(t, g, seg, row, dead, left); !same(p, on[dead]) {
				t.Fatal(row, "member", dead)
			}
		}
	}
}
