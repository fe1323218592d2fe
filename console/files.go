package console

import (
	"gabion/api"
	"gabion/fsck"
)

// maxTicks is how many steps one order has at most.
const maxTicks = 200

// byName does an order that names something in the file system.
func (p *Player) byName(o Order) string {
	path := o.Texts[0]
	switch o.Word {
	case "create":
		return done(p.files.Create(path))
	case "mkdir":
		return done(p.files.Mkdir(path))
	case "unlink":
		return done(p.files.Unlink(path))
	case "rmdir":
		return done(p.files.Rmdir(path))
	case "link":
		return done(p.files.Link(path, o.Texts[1]))
	case "rename":
		return done(p.files.Rename(path, o.Texts[1]))
	case "open":
		fd, e := p.files.Open(path)
		return told(e, "fd", int64(fd))
	case "stat":
		i, e := p.files.Stat(path)
		return told(e, "stat", int64(i.Kind), i.Size, int64(i.Links))
	case "list":
		l, e := p.files.List(path)
		return listed(e, o.Word, l)
	case "glob":
		l, e := p.files.Glob(path, o.Texts[1])
		return listed(e, o.Word, l)
	}
	return listed(api.OK, o.Word, p.files.Walk(path))
}

// byNumber does an order that is about an open file, or a tick.
func (p *Player) byNumber(o Order) string {
	fd, behind := cut(o.Nums[0]), o.Nums[1:]
	switch o.Word {
	case "close":
		return done(p.files.Close(fd))
	case "fsync":
		return done(p.files.Fsync(fd))
	case "truncate":
		return done(p.files.Truncate(fd, behind[0]))
	case "write":
		return done(p.files.Write(fd, behind[0], low(behind[1:])))
	case "fill":
		return done(p.files.Write(fd, behind[0], filled(low(behind[1:]))))
	case "append":
		return done(p.files.Append(fd, low(behind)))
	case "read":
		data, e := p.files.Read(fd, behind[0], behind[1])
		return summed(e, data)
	case "next":
		data, e := p.files.ReadNext(fd, behind[0])
		return summed(e, data)
	case "seek":
		at, e := p.files.Seek(fd, behind[0], cut(behind[1]))
		return told(e, "at", at)
	}
	return p.tick(cut(o.Nums[0]))
}

// onAll does an order that is about the whole file system.
func (p *Player) onAll(word string) string {
	switch word {
	case "sync":
		return done(p.files.Sync())
	case "full":
		return told(api.OK, "full", flag(p.files.Full()))
	case "space":
		blocks, nodes, e := p.files.Space()
		return told(e, "space", int64(blocks), int64(nodes))
	case "scrub":
		n, e := p.files.Scrub()
		return told(e, "scrubbed", int64(n))
	case "mend":
		n, e := fsck.Mend(p.files.Tree())
		return told(e, "mended", int64(n))
	}
	return p.check()
}

// check: what is wrong with the tree.
func (p *Player) check() string {
	l, paths, e := fsck.Check(p.files.Tree())
	nums := []int64{int64(len(l)), int64(len(paths))}
	for _, x := range l {
		nums = append(nums, int64(x.Kind), int64(x.Node), int64(x.Block))
	}
	return told(e, "check", nums...)
}

// tick: so many steps of making a dead member anew, up to an error.
func (p *Player) tick(n int) string {
	var full bool
	var e api.Errno
	for range max(1, min(n, maxTicks)) {
		full, e = p.files.Tick()
		if e != api.OK {
			break
		}
	}
	return told(e, "full", flag(full))
}
