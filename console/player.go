package console

import (
	"gabion/api"
	"gabion/fs"
	"gabion/nand"
	"gabion/sum"
)

// Player does orders, one behind the other.
type Player struct {
	geo   api.Geo
	bad   [][2]int     // of what the next format makes, as comes
	comes []nand.Event // at which operation
	chips *nand.Array
	files *fs.FS
}

// Do: what an order answers.
func (p *Player) Do(o Order) string {
	if p == nil {
		return wrong(api.Nil)
	}
	if e := o.check(); e != api.OK {
		return wrong(e)
	}
	switch o.Word {
	case "geo", "bad", "fail", "crash", "die", "format":
		return done(p.ready(o))
	case "mount", "boot", "copy", "kill", "ops", "dump":
		if p.chips == nil {
			return wrong(api.State)
		}
		return p.onChips(o)
	}
	switch {
	case p.files == nil:
		return wrong(api.State)
	case len(o.Texts) > 0:
		return p.byName(o)
	case len(o.Nums) > 0:
		return p.byNumber(o)
	}
	return p.onAll(o.Word)
}

// ready does an order that makes chips, or says what they will be.
func (p *Player) ready(o Order) api.Errno {
	switch o.Word {
	case "geo":
		return p.shape(o.Nums)
	case "bad":
		p.bad = append(p.bad, [2]int{cut(o.Nums[0]), cut(o.Nums[1])})
	case "fail":
		p.comes = append(p.comes, nand.Event{Op: cut(o.Nums[0]), Kind: nand.Fail, Left: low(o.Nums[1:])})
	case "crash":
		p.comes = append(p.comes, nand.Event{Op: cut(o.Nums[0]), Kind: nand.Crash, Left: low(o.Nums[1:])})
	case "die":
		p.comes = append(p.comes, nand.Event{Op: cut(o.Nums[0]), Kind: nand.Die, Chip: cut(o.Nums[1])})
	case "format":
		return p.format()
	}
	return api.OK
}

// shape: the chips will have this shape, if it may be.
func (p *Player) shape(nums []int64) api.Errno {
	g := api.Geo{Chips: cut(nums[0]), Blocks: cut(nums[1]), Pages: cut(nums[2]), Size: cut(nums[3])}
	e := g.Check()
	if e == api.OK {
		p.geo = g
	}
	return e
}

// format: new chips, and a file system on them.
func (p *Player) format() api.Errno {
	a, e := nand.New(p.geo, p.bad, p.comes...)
	p.bad, p.comes = nil, nil
	if e != api.OK {
		return e
	}
	p.chips = a
	p.files, e = fs.Format(a)
	return e
}

// onChips does an order that is about the chips that are there.
func (p *Player) onChips(o Order) string {
	switch o.Word {
	case "mount":
		return done(p.mount())
	case "boot":
		p.chips.Boot()
	case "copy":
		p.chips, p.files = p.chips.Copy(), nil
	case "kill":
		p.chips.Kill(cut(o.Nums[0]))
	case "ops":
		return told(api.OK, "ops", int64(p.chips.Ops()))
	case "dump":
		return image(p.chips)
	}
	return done(api.OK)
}

// mount: the file system that stands on the chips. The one that was there has no right to them any longer, also if there is none.
func (p *Player) mount() (e api.Errno) {
	p.files, e = fs.Mount(p.chips)
	return e
}

// image: what is told of chips as bytes.
func image(a *nand.Array) string {
	b := a.Dump()
	c, e := nand.Load(b)
	same := e == api.OK && nand.Same(a, c)
	return told(api.OK, "image", int64(len(b)), int64(sum.Of(b)), flag(same))
}
