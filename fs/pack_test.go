package fs_test

import (
	"bytes"
	"fmt"
	"hash/crc32"
	"math"
	"slices"
	"strings"
	"testing"

	"gabion/api"
	"gabion/fs"
	"gabion/names"
)

// sealed: bytes, and their sum behind them.
func sealed(b []byte) []byte {
	n := crc32.Checksum(b, crc32.MakeTable(crc32.Castagnoli))
	return append(slices.Clip(b), byte(n), byte(n>>8), byte(n>>16), byte(n>>24))
}

// laid: things as a pack has them, without what stands ahead and behind.
func laid(l ...fs.Thing) []byte {
	var b []byte
	for _, x := range l {
		b = append(b, x.Kind, byte(len(x.Path)))
		b = append(b, x.Path...)
		if x.Kind != 2 {
			n := len(x.Data)
			b = append(b, byte(n), byte(n>>8), byte(n>>16), byte(n>>24))
			b = append(b, x.Data...)
		}
	}
	return b
}

// pack: things as bytes.
func pack(l ...fs.Thing) []byte {
	return sealed(append(append([]byte{0x50, 0x41, 0x43, 0x4B}, laid(l...)...), 0))
}

// folder, file: things.
func folder(path string) fs.Thing { return fs.Thing{Path: path, Kind: 2} }

func file(path string, data []byte) fs.Thing { return fs.Thing{Path: path, Kind: 1, Data: data} }

// same: are these the same things?
func same(a, b []fs.Thing) bool {
	return slices.EqualFunc(a, b, func(x, y fs.Thing) bool {
		return x.Path == y.Path && x.Kind == y.Kind && bytes.Equal(x.Data, y.Data)
	})
}

// packed: are these a folder's contents?
func (r *rig) packed(path string, want ...fs.Thing) []byte {
	r.t.Helper()
	b, e := r.Pack(path)
	if !bytes.Equal(b, pack(want...)) || e != api.OK {
		r.t.Errorf("Pack %s: %q, %d, want %q", path, b, e, pack(want...))
	}
	if l, e := fs.Things(b); !same(l, want) || e != api.OK {
		r.t.Error("Things of", path, l, e)
	}
	return b
}

// P21.1: a folder's contents, as the chapter lays them.
func TestPack(t *testing.T) {
	r := garden(t, small)
	f, h := ink(2500, 1), ink(100, 2)
	r.packed("/a/b")
	r.packed("/d")
	r.packed("/a", folder("/b"), file("/g", f), file("/h", h))
	r.packed("//d/../a/.", folder("/b"), file("/g", f), file("/h", h))
	r.packed("/", folder("/a"), folder("/a/b"), file("/a/g", f), file("/a/h", h), folder("/d"), file("/e", nil), file("/f", f))
	for _, p := range []string{"/d/ä", "/d/ä/a", "/d/ä/a/a", "/d/a b", "/d/a"} {
		r.ok("Mkdir", r.Mkdir(p))
	}
	for i, p := range []string{"/d/ä/a/a/x", "/d/a/x", "/d/a.x", "/d/ä/b"} {
		r.file(p, ink(i*1024, i))
	}
	want := []fs.Thing{folder("/a"), file("/a/x", ink(1024, 1)), folder("/a b"), file("/a.x", ink(2048, 2)), folder("/ä"), folder("/ä/a"), folder("/ä/a/a"), file("/ä/a/a/x", nil), file("/ä/b", ink(3072, 3))}
	r.packed("/d", want...)
	// What nothing was written to is noughts.
	r.ok("Create", r.Create("/d/ä/a/hole"))
	fd := r.fd("/d/ä/a/hole")
	r.ok("Truncate", r.Truncate(fd, 1025))
	r.ok("Write", r.Write(fd, 300, ink(5, 5)))
	hole := make([]byte, 1025)
	copy(hole[300:], ink(5, 5))
	r.packed("/d/ä/a", folder("/a"), file("/a/x", nil), file("/hole", hole))
	for path, want := range map[string]api.Errno{"/f": api.NotDir, "/a/g": api.NotDir, "/f/n": api.NotDir, "/n": api.NoEnt, "": api.Inval, "\xff": api.Inval} {
		if b, e := r.Pack(path); b != nil || e != want {
			t.Error(path, b, e, "want", want)
		}
	}
}

// P21.1: FBig: more than MaxPack bytes, wherever they come from; just as many aren't.
func TestPackOfMost(t *testing.T) {
	r := plant(t, great)
	r.ok("Mkdir", r.Mkdir("/a"))
	r.file("/a/f", nil)
	r.file("/a/g", ink(300, 2))
	big := fs.MaxPack - 9 - len(laid(file("/f", nil), file("/g", ink(300, 2))))
	fd := r.fd("/a/f")
	for l := range slices.Chunk(ink(big, 1), api.MaxIO) {
		r.ok("Append", r.Append(fd, l))
	}
	b := r.packed("/a", file("/f", ink(big, 1)), file("/g", ink(300, 2)))
	if len(b) != fs.MaxPack {
		t.Error(len(b), "bytes")
	}
	more := func(what string, path string) {
		t.Helper()
		if b, e := r.Pack(path); b != nil || e != api.FBig {
			t.Error(what, len(b), e)
		}
	}
	more("with the folder", "/")
	r.ok("Append", r.Append(fd, []byte{1}))
	more("one more byte", "/a")
	r.ok("Truncate", r.Truncate(fd, int64(big)))
	r.ok("Rename", r.Rename("/a/g", "/a/gg"))
	more("one more letter", "/a")
	r.ok("Rename", r.Rename("/a/gg", "/a/g"))
	r.ok("Create", r.Create("/a/h"))
	more("one more file", "/a")
	r.ok("Unlink", r.Unlink("/a/h"))
	r.ok("Truncate", r.Truncate(fd, int64(big-4)))
	r.ok("Mkdir", r.Mkdir("/a/a"))
	if b, e := r.Pack("/a"); len(b) != fs.MaxPack || e != api.OK {
		t.Error("with one more folder", len(b), e)
	}
	r.ok("Rename", r.Rename("/a/a", "/a/aa"))
	more("one more letter of the folder", "/a")
	r.ok("Rename", r.Rename("/a/aa", "/a/a"))
	r.ok("Rename", r.Rename("/a/f", "/a/a/f"))
	more("the way to it is longer", "/a")
	r.ok("Truncate", r.Truncate(fd, 1<<20))
	more("far too many", "/a")
	if b, e := r.Pack("/a/a"); b != nil || e != api.FBig {
		t.Error("a file that is too large", len(b), e)
	}
}

// P21.1: files with several names are packed under each; what is unpacked is several files.
func TestPackOfLinks(t *testing.T) {
	r := garden(t, small)
	r.ok("Link", r.Link("/a/h", "/a/i"))
	b := r.packed("/a", folder("/b"), file("/g", ink(2500, 1)), file("/h", ink(100, 2)), file("/i", ink(100, 2)))
	if n, e := r.Unpack("/d", b); n != 4 || e != api.OK {
		t.Error(n, e)
	}
	r.walked("/d", "/d", "/d/b", "/d/g", "/d/h", "/d/i")
	r.stat("/d/i", fs.Info{Kind: 1, Size: 100, Links: 1})
	r.stat("/a/i", fs.Info{Kind: 1, Size: 100, Links: 2})
}

// deep: a tree as deep as a path may be, and deeper by renaming; the ways are longer than a path may be, and than a text.
func deep(r *rig, letters int) (string, []string) {
	r.t.Helper()
	name := strings.Repeat("x", letters)
	var ways []string
	way := ""
	for range 6 {
		way += "/" + name
		r.ok("Mkdir", r.Mkdir(way))
		r.ok("Mkdir", r.Mkdir("/y"+way[2:]))
	}
	r.ok("Rename", r.Rename("/y"+name[1:], way+"/y"+name[1:]))
	for p := range r.Tree().Walk("/") {
		ways = append(ways, p)
	}
	return way, ways[1:]
}

// P21.1: ways that are longer than a path may be are packed, and are things; where a path would be too long nothing is made of them.
func TestPackOfLongWays(t *testing.T) {
	r := plant(t, great)
	_, ways := deep(r, 20)
	if len(ways) != 12 || len(ways[11]) != 12*21 {
		t.Fatal(ways)
	}
	var want []fs.Thing
	for _, p := range ways {
		want = append(want, folder(p))
	}
	b := r.packed("/", want...)
	n := plant(t, great)
	if many, e := n.Unpack("/", b); many != 9 || e != api.NameLen {
		t.Error(many, e)
	}
	n.walked("/", append([]string{"/"}, ways[:9]...)...)
	if many, e := n.Unpack(ways[1], b); many != 0 || e != api.Exist {
		t.Error(many, e)
	}
	// Of a text there are at most 255 bytes.
	r = plant(t, great)
	_, ways = deep(r, 24)
	want = nil
	for _, p := range ways {
		want = append(want, folder(p[:min(len(p), 255)]))
	}
	if b, e := r.Pack("/"); !bytes.Equal(b, pack(want...)) || e != api.OK {
		t.Errorf("%q, %d", b, e)
	}
}

// P21.1: what a pack holds, in its order; new memory.
func TestThings(t *testing.T) {
	for _, l := range [][]fs.Thing{
		nil,
		{folder("/a")},
		{file("/a", nil)},
		{file("/a", ink(1, 1))},
		{folder("/a"), folder("/a/a"), folder("/a/a/a"), file("/a/a/b", ink(300, 1)), file("/a/b", ink(5000, 2)), folder("/b"), file("/c", nil)},
		{file("/B", nil), folder("/a"), file("/a/x", nil), file("/a b", nil), file("/a.b", nil), folder("/ab"), file("/z", nil), file("/ä", nil), file("/世", nil), file("/\U00010348", nil)},
		{file("/"+strings.Repeat("x", 24), nil), file("/"+strings.Repeat("ä", 12), nil)},
		{file("/a", make([]byte, fs.MaxPack-9-8))},
	} {
		b := pack(l...)
		was := bytes.Clone(b)
		for range 2 {
			is, e := fs.Things(b)
			if !same(is, l) || e != api.OK {
				t.Error(is, e, "want", l)
			}
			for _, x := range is {
				clear(x.Data)
			}
		}
		if !bytes.Equal(b, was) {
			t.Error("what was handed in is changed")
		}
	}
}

// P21.1: bytes that are no pack: Form ahead of Sum ahead of Form.
func TestThingsErrors(t *testing.T) {
	deep := func(n int) (l []fs.Thing) {
		for i := range n {
			l = append(l, folder(strings.Repeat("/a", i+1)))
		}
		return l
	}
	if l, e := fs.Things(pack(deep(12)...)); len(l) != 12 || e != api.OK {
		t.Error("as deep as may be:", l, e)
	}
	good := pack(folder("/a"), file("/a/f", ink(20, 1)), file("/b", nil))
	body := good[:len(good)-4]
	flip := func(b []byte, at int) []byte {
		b = bytes.Clone(b)
		b[at] ^= 1
		return b
	}
	for what, c := range map[string]struct {
		b    []byte
		want api.Errno
	}{
		"nothing":                        {nil, api.Form},
		"one nought":                     {[]byte{0}, api.Form},
		"three noughts":                  {make([]byte, 3), api.Form},
		"four noughts":                   {make([]byte, 4), api.Form},
		"four others":                    {ink(4, 1), api.Sum},
		"five":                           {make([]byte, 5), api.Sum},
		"no magic":                       {sealed(make([]byte, 5)), api.Form},
		"the magic alone":                {sealed(good[:4]), api.Form},
		"a piece of the magic":           {sealed(good[:3]), api.Form},
		"the first sum's byte":           {flip(good, len(good)-4), api.Sum},
		"the last one":                   {flip(good, len(good)-1), api.Sum},
		"a byte":                         {flip(good, 9), api.Sum},
		"one less":                       {good[:len(good)-1], api.Sum},
		"one more":                       {append(slices.Clip(good), 0), api.Sum},
		"too many":                       {sealed(make([]byte, fs.MaxPack-3)), api.Form},
		"too many, of another sum":       {make([]byte, fs.MaxPack+1), api.Form},
		"most, of another sum":           {make([]byte, fs.MaxPack), api.Sum},
		"most":                           {sealed(make([]byte, fs.MaxPack-4)), api.Form},
		"too many, all right":            {pack(file("/a", make([]byte, fs.MaxPack-9-7))), api.Form},
		"no end":                         {sealed(body[:len(body)-1]), api.Form},
		"one behind the end":             {sealed(append(slices.Clip(body), 0)), api.Form},
		"a thing behind the end":         {sealed(append(append(slices.Clip(body), laid(file("/c", nil))...), 0)), api.Form},
		"another kind":                   {pack(fs.Thing{Path: "/a", Kind: 3}), api.Form},
		"another kind, far":              {pack(fs.Thing{Path: "/a", Kind: 255}), api.Form},
		"a file of too many bytes":       {sealed(append(append(slices.Clip(good[:4]), 1, 2, '/', 'a', 2, 0, 0, 0), 7, 0)), api.Form},
		"a file of most":                 {sealed(append(append(slices.Clip(good[:4]), 1, 2, '/', 'a', 255, 255, 255, 255), 7, 0)), api.Form},
		"a way without bytes":            {pack(folder("")), api.Form},
		"the root":                       {pack(folder("/")), api.Form},
		"no stroke":                      {pack(folder("a")), api.Form},
		"no stroke, deeper":              {pack(folder("/a"), folder("a/a")), api.Form},
		"a stroke behind":                {pack(folder("/a/")), api.Form},
		"a stroke behind, the folder":    {pack(folder("/a"), folder("/a/")), api.Form},
		"two strokes":                    {pack(folder("//a")), api.Form},
		"a point":                        {pack(folder("/.")), api.Form},
		"two points":                     {pack(folder("/a"), folder("/a/..")), api.Form},
		"points ahead":                   {pack(folder("/a"), folder("/a/../b")), api.Form},
		"no letter":                      {pack(folder("/\x01")), api.Form},
		"no text":                        {pack(folder("/\xff")), api.Form},
		"too long a name":                {pack(folder("/" + strings.Repeat("x", 25))), api.Form},
		"too deep":                       {pack(deep(13)...), api.Form},
		"in nothing":                     {pack(file("/a/b", nil)), api.Form},
		"in what stands behind":          {pack(file("/a/b", nil), folder("/a")), api.Form},
		"in a file":                      {pack(file("/a", nil), file("/a/b", nil)), api.Form},
		"in another folder":              {pack(folder("/a"), file("/b/c", nil)), api.Form},
		"in one that isn't there":        {pack(folder("/a"), file("/a/b/c", nil)), api.Form},
		"twice":                          {pack(file("/a", nil), file("/a", nil)), api.Form},
		"twice, a folder":                {pack(folder("/a"), folder("/a")), api.Form},
		"out of order":                   {pack(file("/b", nil), file("/a", nil)), api.Form},
		"out of order in a folder":       {pack(folder("/a"), file("/a/b", nil), file("/a/a", nil)), api.Form},
		"a folder's thing comes late":    {pack(folder("/a"), folder("/b"), file("/a/c", nil)), api.Form},
		"in order of bytes, not letters": {pack(folder("/a"), file("/a b", nil), file("/a/c", nil)), api.Form},
	} {
		was := bytes.Clone(c.b)
		if l, e := fs.Things(c.b); l != nil || e != c.want {
			t.Error(what, l, e, "want", c.want)
		}
		if !bytes.Equal(c.b, was) {
			t.Error(what, "is changed")
		}
	}
}

// P21.1, P6: each byte of a pack is another one, its sum right again: Form, or a pack all the same, which is that of what is unpacked out of it.
func TestThingsOfAnyByte(t *testing.T) {
	good := pack(folder("/a"), folder("/a/b"), file("/a/b/f", ink(3, 1)), file("/a/c", nil), file("/b", ink(2, 2)), folder("/c"), file("/d", nil))
	body := good[:len(good)-4]
	tried, right := 0, 0
	empty := plant(t, small)
	empty.ok("Sync", empty.Sync())
	for at := range body {
		for with := range 256 {
			b := bytes.Clone(body)
			if b[at] == byte(with) {
				continue
			}
			b[at] = byte(with)
			b = sealed(b)
			tried++
			l, e := fs.Things(b)
			if e != api.OK {
				if l != nil || e != api.Form {
					t.Error(at, with, l, e)
				}
				continue
			}
			right++
			if !bytes.Equal(pack(l...), b) {
				t.Error(at, with, "it is another pack")
			}
			if right%8 > 0 {
				continue
			}
			r := empty.again()
			if n, e := r.Unpack("/", b); n != len(l) || e != api.OK {
				t.Error(at, with, n, e)
			}
			if is, e := r.Pack("/"); !bytes.Equal(is, b) || e != api.OK {
				t.Errorf("%d %d: %q, %d", at, with, is, e)
			}
		}
	}
	if right < 1500 || tried-right < 5000 {
		t.Error("only", right, "of", tried, "are packs")
	}
	// The bytes of files are whatever they are.
	for at := range 3 {
		b := bytes.Clone(body)
		i := bytes.Index(b, ink(3, 1))
		b[i+at] ^= 255
		if l, e := fs.Things(sealed(b)); len(l) != 7 || e != api.OK {
			t.Error(at, l, e)
		}
	}
}

// P6: any bytes behind the magic: Things ends.
func TestThingsOfAnyBytes(t *testing.T) {
	d := dice(3)
	for range 20000 {
		b := []byte{0x50, 0x41, 0x43, 0x4B}
		for range d.next(40) {
			b = append(b, []byte{0, 1, 2, '/', 'a', byte(d.next(256)), byte(d.next(4)), 255}[d.next(8)])
		}
		l, e := fs.Things(sealed(b))
		if e == api.OK && !bytes.Equal(pack(l...), sealed(b)) || e != api.OK && (e != api.Form || l != nil) {
			t.Fatalf("%q: %v, %d", b, l, e)
		}
	}
}

// P21.1: all things are made, in order; how many.
func TestUnpack(t *testing.T) {
	r := garden(t, some)
	b, e := r.Pack("/")
	r.ok("Pack", e)
	was := bytes.Clone(b)
	n, e := r.Unpack("/d", b)
	if n != 7 || e != api.OK || !bytes.Equal(b, was) {
		t.Error(n, e)
	}
	r.walked("/d", "/d", "/d/a", "/d/a/b", "/d/a/g", "/d/a/h", "/d/d", "/d/e", "/d/f")
	r.holds("/d/a/g", ink(2500, 1))
	r.holds("/d/e", nil)
	if is, e := r.Pack("/d"); !bytes.Equal(is, b) || e != api.OK {
		t.Error("what was unpacked is packed otherwise:", e)
	}
	if n, e := r.Unpack("/a/b", pack()); n != 0 || e != api.OK {
		t.Error("of nothing:", n, e)
	}
	empty := plant(t, some)
	if n, e := empty.Unpack("/", b); n != 7 || e != api.OK {
		t.Error(n, e)
	}
	if is, e := empty.Pack("/../."); !bytes.Equal(is, b) || e != api.OK {
		t.Error("in an empty one:", e)
	}
	clear(b)
	empty.ok("Sync", empty.Sync())
	empty = empty.again()
	empty.holds("/f", ink(2500, 1))
	empty.whole("unpacked:")
}

// P21.1: what stops it: a name that is there, one that may not be, no room; what was made ahead of it stays, and is counted.
func TestUnpackIsStopped(t *testing.T) {
	all := []fs.Thing{folder("/a"), file("/a/f", ink(600, 1)), folder("/b"), file("/b/g", ink(10, 2)), file("/c", nil)}
	b := pack(all...)
	for i, x := range all {
		r := plant(t, small)
		r.ok("Mkdir", r.Mkdir("/in"))
		for _, y := range all[:i] {
			if y.Kind == 2 && strings.HasPrefix(x.Path, y.Path+"/") {
				r.ok("Mkdir", r.Mkdir("/in"+y.Path))
			}
		}
		taken := slices.IndexFunc(all, func(y fs.Thing) bool { return r.has("/in" + y.Path) })
		if taken < 0 {
			taken = i
			r.ok("Create", r.Create("/in"+x.Path))
		}
		n, e := r.Unpack("/in", b)
		if n != taken || e != api.Exist {
			t.Error(i, n, e, "want", taken)
		}
		for j, y := range all {
			if want := j <= taken; r.has("/in"+y.Path) != want {
				t.Error(i, y.Path, "is there:", !want)
			}
		}
		r.whole("stopped:")
	}
	r := garden(t, small)
	for what, c := range map[string]struct {
		path string
		b    []byte
		want api.Errno
	}{
		"into a file":       {"/f", b, api.NotDir},
		"nothing in a file": {"/f", pack(), api.NotDir},
		"into none":         {"/n", b, api.NoEnt},
		"nothing in none":   {"/n", pack(), api.NoEnt},
		"into no path":      {"", b, api.Inval},
		"no pack":           {"/d", nil, api.Form},
		"no sum":            {"/d", ink(100, 1), api.Sum},
		"not in order":      {"/d", pack(all[2], all[0]), api.Form},
		"wrong at its end":  {"/d", sealed(append(pack(all...)[:len(b)-5], 3)), api.Form},
		"both":              {"/f", nil, api.Form},
	} {
		r.refuse(what, c.want, func() api.Errno {
			n, e := r.Unpack(c.path, c.b)
			if n != 0 {
				t.Error(what, n, "were made")
			}
			return e
		})
	}
	// A path would have more names, or letters, than may be.
	in := ""
	for range 10 {
		in += "/x"
		r.ok("Mkdir", r.Mkdir(in))
	}
	if n, e := r.Unpack(in, pack(folder("/a"), folder("/a/a"), folder("/a/a/a"), folder("/b"))); n != 2 || e != api.NameLen {
		t.Error("too deep:", n, e)
	}
	r.walked(in, in, in+"/a", in+"/a/a")
}

// has: is there such a path?
func (r *rig) has(path string) bool {
	r.t.Helper()
	_, e := r.Stat(path)
	if e != api.OK && e != api.NoEnt && e != api.NotDir {
		r.t.Fatal(path, e)
	}
	return e == api.OK
}

// P21.1: without room for all: so many were made; what is behind isn't.
func TestUnpackWithoutRoom(t *testing.T) {
	r := plant(t, least)
	var l []fs.Thing
	for n := range 10 {
		l = append(l, file(fmt.Sprint("/f", n), ink(1500, n)))
	}
	n, e := r.Unpack("/", pack(l...))
	if n < 3 || n > 6 || e != api.NoSpc {
		t.Error(n, e)
	}
	for i, x := range l {
		if r.has(x.Path) != (i <= n) {
			t.Error(x.Path, "of", n)
		} else if i < n {
			r.holds(x.Path, x.Data)
		}
	}
	r.whole("full:")
	most := plant(t, great)
	if n, e := most.Unpack("/", pack(file("/a", ink(60000, 3)))); n != 1 || e != api.OK {
		t.Error(n, e)
	}
	most.holds("/a", ink(60000, 3))
	// Inodes are all in use.
	l = nil
	for n := range 16 {
		l = append(l, folder(names.Join(fmt.Sprint(100+n))))
	}
	r = plant(t, least)
	if n, e := r.Unpack("/", pack(l...)); n != 15 || e != api.NoSpc {
		t.Error(n, e)
	}
}

// P21.1, P1: paths and descriptors that are far beyond.
func TestFarBeyond(t *testing.T) {
	r := garden(t, small)
	long := strings.Repeat("/a", 1<<16)
	for what, c := range map[string]struct {
		want api.Errno
		call func() api.Errno
	}{
		"Create":  {api.NameLen, func() api.Errno { return r.Create(long) }},
		"Rename":  {api.NameLen, func() api.Errno { return r.Rename("/f", long) }},
		"Stat":    {api.NameLen, func() api.Errno { return just(r.Stat(long)) }},
		"Glob":    {api.NameLen, func() api.Errno { return just(r.Glob(long, "*")) }},
		"pattern": {api.OK, func() api.Errno { return just(r.Glob("/", strings.Repeat("*a", 1<<12))) }},
		"no more": {api.Form, func() api.Errno { return just(r.Glob("/", strings.Repeat("[", 1<<16))) }},
		"Unpack":  {api.Form, func() api.Errno { return just(r.Unpack("/", make([]byte, 1<<20))) }},
		"Write":   {api.BadF, func() api.Errno { return r.Write(math.MaxInt32, math.MinInt64, make([]byte, 1<<20)) }},
	} {
		r.refuse(what, c.want, c.call)
	}
}
