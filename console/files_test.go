package console_test

import (
	"bytes"
	"fmt"
	"slices"
	"strings"
	"testing"

	"gabion/api"
	"gabion/console"
	"gabion/fs"
	"gabion/nand"
)

// P23.1: orders with a path are layer 21's.
func TestNames(t *testing.T) {
	fresh(t,
		"mkdir /a = ok", "mkdir /a = error 17", "mkdir / = error 17", "mkdir /x/y = error 2", "mkdir a = error 22",
		"create /a/f = ok", "create /a/f = error 17", "create /a/f/g = error 20", "create /x/y = error 2",
		"create /abcdefghijklmnopqrstuvwxy = error 36", "create /abcdefghijklmnopqrstuvwx = ok", "unlink /abcdefghijklmnopqrstuvwx = ok",
		"link /a/f /g = ok", "link /a /h = error 21", "link /x /h = error 2", "link /g /a/f = error 17", "link /g /g/g = error 20",
		"stat /g = stat 1 0 2", "stat /a/f = stat 1 0 2", "stat /a = stat 2 0 2", "stat / = stat 2 0 3", "stat /x = error 2", "stat /g/x = error 20",
		"rename /a /b = ok", "rename /a /b = error 2", "rename / /b = error 61", "rename /b /b/c = error 40", "rename /b /g = error 20", "rename /g /b = error 21", "rename /g /b/f = ok",
		"list / = list 2 b g", "list /b = list 1 f", "list /g = error 20", "list /x = error 2",
		"rmdir /b = error 39", "rmdir /g = error 20", "rmdir / = error 61", "rmdir /x = error 2",
		"unlink /g = ok", "unlink /g = error 2", "unlink /b = error 21", "unlink / = error 21", "stat /b/f = stat 1 0 1",
		"open /b/f = fd 0", "unlink /b/f = error 61", "close 0 = ok", "unlink /b/f = ok", "rmdir /b = ok", "list / = list 0", "check = check 0 1",
	)
	// Words that look like numbers, or aren't letters, are texts.
	fresh(t, "mkdir 5 = error 22", "mkdir /5 = ok", "rename /5 /-1 = ok", "create /-1/\xff = error 22", "create /é = ok", "list / = list 2 -1 é", "glob / ? = glob 1 /é")
}

// P23.1: lists tell how many, and each, in order.
func TestLists(t *testing.T) {
	p := fresh(t, "list / = list 0", "walk / = walk 1 /", "glob / * = glob 0",
		"mkdir /d = ok", "mkdir /d/e = ok", "create /d/e/x.c = ok", "create /d/b.c = ok", "create /a.c = ok", "create /d/B.go = ok",
		"list / = list 2 a.c d", "list /d = list 3 B.go b.c e", "list /d/e = list 1 x.c",
		"walk / = walk 7 / /a.c /d /d/B.go /d/b.c /d/e /d/e/x.c", "walk /d/e = walk 2 /d/e /d/e/x.c", "walk /d/./e/.. = walk 5 /d /d/B.go /d/b.c /d/e /d/e/x.c", "walk /a.c = walk 1 /a.c", "walk /none = walk 0", "walk /a.c/x = walk 0", "walk nothing = walk 0",
		"glob / * = glob 6 /a.c /d /d/B.go /d/b.c /d/e /d/e/x.c", "glob / *.c = glob 3 /a.c /d/b.c /d/e/x.c", "glob /d [a-c]* = glob 1 /d/b.c", "glob /d/e ? = glob 0", "glob /a.c * = error 20", "glob /none * = error 2", "glob /none [ = error 62", "glob / [] = error 62",
	)
	// Many of them, of as many letters as may be.
	p = &console.Player{}
	play(t, p, "geo 4 64 16 256 = ok", "format = ok")
	var names, paths []string
	for i := range 150 {
		s := fmt.Sprintf("%03d%s", i, strings.Repeat("n", 21))
		play(t, p, "create /"+s+" = ok")
		names, paths = append(names, s), append(paths, "/"+s)
	}
	play(t, p, "list / = list 150 "+strings.Join(names, " "), "walk / = walk 151 / "+strings.Join(paths, " "), "glob / 1* = glob 50 "+strings.Join(paths[100:], " "), "check = check 0 151")
}

// P23.1: open answers the lowest free descriptor; what isn't open is BadF.
func TestDescriptors(t *testing.T) {
	p := fresh(t, "create /f = ok", "create /g = ok", "mkdir /d = ok", "open /d = error 21", "open / = error 21", "open /x = error 2")
	for i := range 16 {
		play(t, p, fmt.Sprint("open /f = fd ", i))
	}
	play(t, p, "open /g = error 24", "close 5 = ok", "close 5 = error 9", "close 11 = ok", "open /g = fd 5", "open /g = fd 11", "open /g = error 24")
	for _, fd := range []int64{-1, 16, 99, 1 << 32, 1<<32 + 5, -1 << 40, 1 << 40} {
		play(t, p, line("close", fd)+" = error 9", line("fsync", fd)+" = error 9", line("truncate", fd, 1)+" = error 9", line("write", fd, 0, 1)+" = error 9", line("fill", fd, 0, 1, 1)+" = error 9", line("append", fd, 1)+" = error 9", line("append", fd)+" = error 9", line("read", fd, 0, 1)+" = error 9", line("next", fd, 1)+" = error 9", line("seek", fd, 0, 0)+" = error 9")
	}
	play(t, p, "fsync 5 = ok", "mount = ok", "fsync 5 = error 9", "read 5 0 1 = error 9", "list / = list 3 d f g")
	play(t, p, "open /f = fd 0", "close 0 = ok", "close 0 = error 9", "next 0 1 = error 9")
}

// P23.1: fsync and sync make all safe that was done; nothing else does.
func TestSafe(t *testing.T) {
	p := fresh(t, "create /f = ok", "open /f = fd 0", "append 0 1 2 = ok", "mount = ok", "list / = list 0")
	play(t, p, "create /f = ok", "open /f = fd 0", "append 0 1 2 = ok", "fsync 0 = ok", "append 0 3 = ok", "mkdir /d = ok", "mount = ok", "list / = list 1 f", "stat /f = stat 1 2 1")
	play(t, p, "mkdir /d = ok", "sync = ok", "rmdir /d = ok", "copy = ok", "mount = ok", "list / = list 2 d f")
}

// reads: a file's bytes, by a descriptor.
func reads(t *testing.T, p *console.Player, fd int64, want []byte) {
	t.Helper()
	for at := 0; at <= len(want); at += 1000 {
		play(t, p, line("read", fd, int64(at), 1000)+" = "+told(want[at:min(at+1000, len(want))]))
	}
}

// P23.1: write and append take the numbers' lowest 8 bits; read and next tell how many bytes, and their sum.
func TestBytes(t *testing.T) {
	p := fresh(t, "create /f = ok", "open /f = fd 0", "open /f = fd 1")
	play(t, p, "read 0 0 10 = bytes 0 0", "next 0 10 = bytes 0 0", "write 0 0 = ok", "append 0 = ok", "stat /f = stat 1 0 1")
	play(t, p, "write 0 0 49 50 51 52 53 54 55 56 57 = ok", "read 0 0 9 = bytes 9 3808858755", "read 0 0 1024 = bytes 9 3808858755")
	reads(t, p, 0, []byte("123456789"))
	// Below 0, and above 255.
	play(t, p, "write 0 0 -1 256 257 -256 -255 -128 1099511627776 1099511627775 -1099511627776 = ok")
	reads(t, p, 0, []byte{255, 0, 1, 0, 1, 128, 0, 255, 0})
	play(t, p, "write 1 7 5 6 7 = ok", "append 0 300 -300 = ok")
	reads(t, p, 0, []byte{255, 0, 1, 0, 1, 128, 0, 5, 6, 7, 44, 212})
	// As many as a line may have.
	var many []int64
	for i := range int64(39) {
		many = append(many, i*3)
	}
	want := []byte{255, 0, 1, 0, 1, 128, 0, 5, 6, 7, 44, 212}
	for _, n := range many {
		want = append(want, byte(n))
	}
	play(t, p, line("append", append([]int64{0}, many...)...)+" = ok")
	reads(t, p, 1, want)
	play(t, p, line("write", append([]int64{1, 2}, many[:38]...)...)+" = ok")
	for i := range 38 {
		want[2+i] = byte(i * 3)
	}
	reads(t, p, 1, want)
	play(t, p, "write 0 -1 1 = error 22", "write 0 -1 = error 22", "write 0 1099511627776 1 = error 27", "write 0 100 9 = ok", "read 0 -1 1 = error 22", "read 0 0 -1 = error 22", "read 0 0 1025 = error 22", "read 0 1099511627776 5 = bytes 0 0", "next 0 -1 = error 22", "next 0 1025 = error 22")
	want = append(want, make([]byte, 101-len(want))...)
	want[100] = 9
	reads(t, p, 0, want)
	for n := range int64(11) {
		play(t, p, line("read", 0, 95, n)+" = "+told(want[95:min(95+n, 101)]), line("read", 0, n*10, 10)+" = "+told(want[n*10:min(n*10+10, 101)]))
	}
	play(t, p, "truncate 0 3 = ok", "stat /f = stat 1 3 1", "truncate 1 5 = ok", "truncate 0 -1 = error 22", "truncate 0 1099511627776 = error 27")
	reads(t, p, 0, []byte{255, 0, 0, 0, 0})
	play(t, p, "truncate 0 0 = ok", "read 0 0 5 = bytes 0 0", "stat /f = stat 1 0 1")
}

// P23.1: fill writes the bytes behind N, 4 N times, till more than 1024 are there.
func TestFill(t *testing.T) {
	p := fresh(t, "create /f = ok", "open /f = fd 0")
	fills := func(want []byte, nums ...int64) {
		t.Helper()
		play(t, p, "truncate 0 0 = ok", line("fill", append([]int64{0, 0}, nums...)...)+" = ok", fmt.Sprint("stat /f = stat 1 ", len(want), " 1"))
		reads(t, p, 0, want)
	}
	fills(nil)
	fills(nil, 5)
	fills(nil, 0)
	fills(nil, 0, 1, 2, 3)
	fills(nil, 256, 1, 2, 3)
	fills(nil, -256, 1)
	fills([]byte{7, 7, 7, 7}, 1, 7)
	fills([]byte{7, 7, 7, 7}, 257, 7)
	fills([]byte{7, 7, 7, 7}, -255, 7)
	fills([]byte{7, 7, 7, 7}, 1<<39+1, 7)
	fills(bytes.Repeat([]byte{7, 255}, 12), 3, -249, -1)
	fills(bytes.Repeat([]byte{1}, 1020), 255, 1)
	fills(bytes.Repeat([]byte{1}, 1020), -1, 1)
	fills(bytes.Repeat([]byte{1, 2}, 512), 128, 1, 2)
	fills(bytes.Repeat([]byte{1, 2, 3, 4}, 256), 64, 1, 2, 3, 4)
	fills(bytes.Repeat([]byte{0}, 1024), 32, 0, 0, 0, 0, 0, 0, 0, 0)
	var most []int64
	for i := range int64(37) {
		most = append(most, i)
	}
	var all []byte
	for i := range 37 {
		all = append(all, byte(i))
	}
	fills(bytes.Repeat(all, 24), append([]int64{6}, most...)...)
	// More than may be written at once.
	for _, nums := range [][]int64{{129, 1, 2}, {255, 1, 2}, {-1, 1, 2}, {65, 1, 2, 3, 4}, {86, 1, 2, 3}, append([]int64{7}, most...), append([]int64{255}, most...)} {
		play(t, p, "truncate 0 0 = ok", line("fill", append([]int64{0, 0}, nums...)...)+" = error 22", "stat /f = stat 1 0 1")
	}
	play(t, p, "fill 0 -1 1 1 = error 22", "fill 0 -1 0 1 = error 22", "fill 0 1099511627776 0 = error 27", "fill 0 10 1 9 = ok", "fill 0 12 2 8 = ok")
	reads(t, p, 0, []byte{0, 0, 0, 0, 0, 0, 0, 0, 0, 0, 9, 9, 8, 8, 8, 8, 8, 8, 8, 8})
}

// P23.1: seek answers the place; next reads from it on.
func TestSeek(t *testing.T) {
	p := fresh(t, "create /f = ok", "open /f = fd 0", "write 0 0 0 1 2 3 4 5 6 7 8 9 = ok",
		"seek 0 0 1 = at 0", "next 0 3 = "+told([]byte{0, 1, 2}), "seek 0 0 1 = at 3", "seek 0 2 1 = at 5", "next 0 2 = "+told([]byte{5, 6}),
		"seek 0 -3 2 = at 7", "next 0 1024 = "+told([]byte{7, 8, 9}), "next 0 1024 = bytes 0 0", "seek 0 4 0 = at 4", "next 0 0 = bytes 0 0", "next 0 1 = "+told([]byte{4}),
		"seek 0 5 2 = at 15", "next 0 5 = bytes 0 0", "seek 0 0 1 = at 15", "seek 0 -15 1 = at 0",
		"seek 0 -1 0 = error 22", "seek 0 -1 1 = error 22", "seek 0 -11 2 = error 22", "seek 0 0 3 = error 22", "seek 0 0 -1 = error 22", "seek 0 0 4294967296 = error 22", "seek 0 0 4294967297 = error 22", "seek 0 0 1099511627776 = error 22", "seek 0 0 1 = at 0",
		"seek 0 2147483648 0 = at 2147483648", "seek 0 1 1 = error 22", "seek 0 2147483649 0 = error 22", "seek 0 1099511627776 1 = error 22", "seek 0 -1099511627776 2 = error 22", "seek 0 0 1 = at 2147483648", "next 0 5 = bytes 0 0",
		"open /f = fd 1", "seek 1 0 1 = at 0", "append 1 77 = ok", "seek 1 0 1 = at 0", "seek 1 0 2 = at 11", "seek 0 0 1 = at 2147483648",
	)
	play(t, p, "close 0 = ok", "open /f = fd 0", "seek 0 0 1 = at 0")
}

// P23.1: space is layer 21's.
func TestSpace(t *testing.T) {
	p := fresh(t, "space = space 66 19", "mkdir /a = ok", "space = space 65 18", "create /a/f = ok", "space = space 64 17", "open /a/f = fd 0", "fill 0 0 255 1 = ok", "space = space 60 17", "truncate 0 0 = ok", "space = space 64 17")
	for i := range 18 {
		want := "ok"
		if i == 17 {
			want = "error 28"
		}
		play(t, p, fmt.Sprint("create /a/", i, " = ", want))
	}
	play(t, p, "space = space 62 0", "check = check 0 20")
	at := int64(0)
	for ; p.Do(order(t, line("fill", 0, at, 255, 3))) == "ok"; at += 1020 {
	}
	play(t, p, line("fill", 0, at, 255, 3)+" = error 28", fmt.Sprint("stat /a/f = stat 1 ", at, " 1"))
}

// P23.1: tick is so many of layer 21's, 1 to 200, up to an error; full tells whether all members are there.
func TestTick(t *testing.T) {
	steps := api.Geo{Chips: 3, Blocks: 24, Pages: 8, Size: 256}.Virtual() - 1
	dead := []string{"create /f = ok", "open /f = fd 0", "fill 0 0 200 9 = ok", "sync = ok", "kill 1 = ok", "mount = ok", "full = full 0"}
	for _, n := range []int64{1, 2, 5, 0, -1, -1 << 40} {
		p := fresh(t, dead...)
		many := max(1, int(n))
		for i := many; i < steps; i += many {
			play(t, p, line("tick", n)+" = full 0", "full = full 0")
		}
		play(t, p, line("tick", n)+" = full 1", "full = full 1", line("tick", n)+" = full 1")
		play(t, p, "kill 0 = ok", "mount = ok", "full = full 0", "open /f = fd 0", "read 0 0 1024 = "+told(bytes.Repeat([]byte{9}, 800)), line("tick", n)+" = error 61", "full = full 0")
	}
	for _, n := range []int64{int64(steps), 200, 201, 1 << 32, 1 << 40} {
		play(t, fresh(t, dead...), line("tick", n)+" = full 1", "full = full 1")
		play(t, fresh(t), line("tick", n)+" = full 1", line("tick", n)+" = full 1")
	}
	play(t, fresh(t, dead...), line("tick", int64(steps-1))+" = full 0", "tick 1 = full 1")
	play(t, fresh(t), "tick 0 = full 1", "tick -1 = full 1", "kill 3 = ok", "tick 200 = full 1", "mount = ok", "tick 1 = full 1", "kill 2 = ok", "mount = ok", "tick 3 = error 61", "full = full 0")
}

// P23.1: a tick that is answered with an error is the last one.
func TestTickUpToAnError(t *testing.T) {
	g := api.Geo{Chips: 3, Blocks: 24, Pages: 8, Size: 256}
	lay := func(at int) (*nand.Array, *fs.FS) {
		a, _ := nand.New(g, nil, nand.Event{Op: at, Kind: nand.Crash})
		f, _ := fs.Format(a)
		a.Kill(1)
		f, e := fs.Mount(a)
		if e != api.OK {
			t.Fatal(e)
		}
		return a, f
	}
	a, f := lay(0)
	for range 3 {
		f.Tick()
	}
	// In the middle of the fourth one.
	at := a.Ops() + 2
	a, f = lay(at)
	for range 4 {
		f.Tick()
	}
	if !a.Off() {
		t.Fatal("the power is there")
	}
	for _, n := range []int{4, 5, 200} {
		p := &console.Player{}
		play(t, p, first+" = ok", fmt.Sprint("crash ", at, " = ok"), "format = ok", "kill 1 = ok", "mount = ok", fmt.Sprint("tick ", n, " = error 72"), fmt.Sprint("ops = ops ", a.Ops()), "tick 1 = error 72", "full = full 0", "boot = ok", "mount = ok", "tick 200 = full 1")
	}
}

// P23.1: a chip in reserve that dies while it is made ready ends the ticks.
func TestTickOfAChipThatDies(t *testing.T) {
	ready := []string{"format = ok", "kill 1 = ok", "mount = ok"}
	p := &console.Player{}
	play(t, p, append([]string{first + " = ok"}, ready...)...)
	for _, many := range []int{1, 2, 200} {
		for later := range 30 {
			q := &console.Player{}
			play(t, q, first+" = ok", fmt.Sprint("die ", counted(t, p)+1+later, " 3 = ok"))
			play(t, q, ready...)
			// One by one: up to the first error.
			is := "full 0"
			for range many {
				if is = q.Do(order(t, "tick 1")); is != "full 0" {
					break
				}
			}
			// Dead: it died just now; State: that was seen ahead of this step.
			if many == 200 && is != "error 71" && is != "error 61" {
				t.Error(later, is)
			}
			r := &console.Player{}
			play(t, r, first+" = ok", fmt.Sprint("die ", counted(t, p)+1+later, " 3 = ok"))
			play(t, r, ready...)
			play(t, r, fmt.Sprint("tick ", many, " = ", is), fmt.Sprint("ops = ops ", counted(t, q)), "full = full 0")
		}
	}
}

// spread: a shape with some more segments, so that there is what can be cleared.
const spread = "geo 3 32 8 256"

// P23.1: scrub is layer 21's: how many segments were written anew; and Sync ahead of it.
func TestScrub(t *testing.T) {
	p := fresh(t, "scrub = scrubbed 0", "mkdir /a = ok", "scrub = scrubbed 0", "mount = ok", "list / = list 1 a")
	// What fails when it is erased, or programmed, isn't to be seen; what the power cuts off may be.
	for op := 1000; op < 1400; op += 7 {
		p = &console.Player{}
		g := api.Geo{Chips: 3, Blocks: 32, Pages: 8, Size: 256}
		a, _ := nand.New(g, nil, nand.Event{Op: op, Kind: nand.Crash, Left: []byte{1}})
		f, _ := fs.Format(a)
		play(t, p, spread+" = ok", fmt.Sprint("crash ", op, " 1 = ok"), "format = ok", "create /f = ok", "open /f = fd 0")
		f.Create("/f")
		f.Open("/f")
		for i := int64(0); !a.Off(); i++ {
			e := f.Write(0, i%20*1000, bytes.Repeat([]byte{byte(i)}, 1000))
			play(t, p, line("fill", 0, i%20*1000, 250, i)+" = "+or(e, "ok"))
			e = f.Sync()
			play(t, p, "sync = "+or(e, "ok"))
		}
		a.Boot()
		f, e := fs.Mount(a)
		play(t, p, "boot = ok", "mount = "+or(e, "ok"))
		n, e := f.Scrub()
		play(t, p, "scrub = "+or(e, fmt.Sprint("scrubbed ", n)), fmt.Sprint("ops = ops ", a.Ops()), "check = check 0 2", "mend = mended 0", "scrub = scrubbed 0")
	}
}

// or: an error's answer, or this.
func or(e api.Errno, is string) string {
	if e != api.OK {
		return wrong(e)
	}
	return is
}

// counted: how many operations of the chips there were.
func counted(t *testing.T, p *console.Player) int {
	t.Helper()
	var n int
	if _, err := fmt.Sscanf(p.Do(order(t, "ops")), "ops %d", &n); err != nil {
		t.Fatal(err)
	}
	return n
}

// P23.1: without the power all that asks the chips is told so.
func TestWithoutPower(t *testing.T) {
	q := fresh(t, "create /f = ok", "open /f = fd 0", "fill 0 0 255 1 = ok")
	// The first of those by which it is written.
	at := int64(counted(t, q) + 1)
	p := &console.Player{}
	play(t, p, first+" = ok", line("crash", at, 1, 2, 3)+" = ok", "format = ok", "create /f = ok", "open /f = fd 0", "fill 0 0 255 1 = ok", "sync = error 72")
	for _, s := range []string{"sync", "fsync 0", "scrub"} {
		play(t, p, s+" = error 72")
	}
	play(t, p, line("ops")+" = ops "+fmt.Sprint(at), "mount = error 72", "kill 3 = ok", "boot = ok", "mount = ok", "check = check 0 1", "tick 9 = full 1", "create /f = ok", "sync = ok")
}

// P23.1: a script goes on behind a crash: what is answered then, and what is there when it is mounted again.
func TestCrashInAScript(t *testing.T) {
	script := []string{first, "format", "mkdir /a", "create /a/f", "open /a/f", "fill 0 0 100 5", "sync", "fill 0 200 100 6", "create /g", "sync", "mkdir /h", "list /"}
	whole := console.Run(strings.Join(script, "\n") + "\nops")
	if strings.Contains(strings.Join(whole, " "), "error") {
		t.Fatal(whole)
	}
	var ops int
	if _, err := fmt.Sscanf(whole[len(whole)-1], "ops %d", &ops); err != nil {
		t.Fatal(err)
	}
	for op := 1; op <= ops; op++ {
		text := fmt.Sprintf("crash %d 7 7\n%s\nops\nboot\nmount\nlist /\nopen /a/f\nread 0 0 1024\ncheck\nsync", op, strings.Join(script, "\n"))
		l := console.Run(text)
		cut := slices.Index(l[1:], "error 72")
		behind := l[len(l)-7:]
		if cut < 0 || !slices.Equal(l[1:cut+1], whole[:cut]) || l[len(l)-8] != fmt.Sprint("ops ", op) || behind[0] != "ok" {
			t.Fatal(op, l)
		}
		synced := 0
		for i, s := range script[:cut] {
			if s == "sync" {
				synced = i
			}
		}
		switch {
		case cut == 1:
			// Chips that weren't made ready are no array.
			if behind[1] != "error 62" && behind[1] != "ok" || behind[1] != "ok" && behind[2] != "error 61" {
				t.Error(op, behind)
			}
		case behind[1] != "ok" || !strings.HasPrefix(behind[5], "check 0 ") || behind[6] != "ok":
			t.Error(op, behind)
		case synced == 9 && (behind[2] != "list 2 a g" && behind[2] != "list 3 a g h" || behind[4] != told(slices.Concat(bytes.Repeat([]byte{5}, 200), bytes.Repeat([]byte{6}, 400)))):
			t.Error(op, behind)
		case synced == 6 && (behind[3] != "fd 0" || !strings.HasPrefix(behind[4], "bytes 400 ") && !strings.HasPrefix(behind[4], "bytes 600 ")):
			t.Error(op, behind)
		case synced == 0 && behind[2] != "list 0" && behind[2] != "list 1 a":
			t.Error(op, behind)
		}
	}
}
