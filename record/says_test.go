package record_test

import (
	"errors"
	"runtime"
	"testing"

	"gabion/api"
	"gabion/record"
)

// said: what headers of each kind say, and the headers that say it.
func said() map[any]record.Header {
	return map[any]record.Header{
		record.TablePage{Seq: 7, Index: 1, Many: 2}:             {Kind: 1, Epoch: 7, Index: 1, Count: 2},
		record.TablePage{Seq: 1<<32 - 1, Index: 65535, Many: 0}: {Kind: 1, Epoch: 1<<32 - 1, Index: 65535},
		record.TablePage{}:                                                          {Kind: 1},
		record.MemberPage{Seq: 7}:                                                   {Kind: 2, Epoch: 7, Count: 1},
		record.MemberPage{}:                                                         {Kind: 2, Count: 1},
		record.PointPage{Seq: 7, Index: 1, Many: 2}:                                 {Kind: 3, Epoch: 7, Index: 1, Count: 2},
		record.PointPage{Seq: 1 << 31, Index: 0, Many: 65535}:                       {Kind: 3, Epoch: 1 << 31, Count: 65535},
		record.PointPage{}:                                                          {Kind: 3},
		record.DataPage{Epoch: 3, Batch: 4, Index: 5, Many: 6, Block: 7}:            {Kind: 4, Epoch: 3, Batch: 4, Index: 5, Count: 6, Block: 7},
		record.DataPage{Epoch: 1<<32 - 1, Batch: 1<<32 - 2, Block: 1<<32 - 3}:       {Kind: 4, Epoch: 1<<32 - 1, Batch: 1<<32 - 2, Block: 1<<32 - 3},
		record.DataPage{Index: 65535, Many: 65534}:                                  {Kind: 4, Index: 65535, Count: 65534},
		record.ParityPage{Epoch: 3, Batch: 4, Row: 5, Segment: 6}:                   {Kind: 5, Epoch: 3, Batch: 4, Index: 5, Count: 6},
		record.ParityPage{Epoch: 1 << 31, Batch: 1 << 30, Row: 0, Segment: 1 << 15}: {Kind: 5, Epoch: 1 << 31, Batch: 1 << 30, Count: 1 << 15},
		record.ParityPage{Row: 65535, Segment: 65535}:                               {Kind: 5, Index: 65535, Count: 65535},
		record.FillPage{Epoch: 3, Batch: 4}:                                         {Kind: 6, Epoch: 3, Batch: 4},
		record.FillPage{Epoch: 1<<32 - 1, Batch: 1<<32 - 1}:                         {Kind: 6, Epoch: 1<<32 - 1, Batch: 1<<32 - 1},
	}
}

// none: values that no header says.
func none() []any {
	l := []any{
		nil, 0, 4, "", "DataPage", true, 1.5, []byte{4}, struct{}{}, api.OK,
		record.Header{Kind: record.Data}, &record.DataPage{}, (*record.DataPage)(nil), &record.TablePage{}, []record.DataPage{{}}, [1]record.MemberPage{}, error(nil), func() {},
	}
	type own record.DataPage // of the same fields, but another type
	l = append(l, own{}, struct{ Epoch, Batch uint32 }{}, struct{ Seq uint32 }{})
	for _, n := range []int{-1, 65536, 1 << 17, 1 << 32, -1 << 63, 1<<63 - 1, 65536 + 1} {
		l = append(l,
			record.TablePage{Index: n}, record.TablePage{Many: n},
			record.PointPage{Index: n}, record.PointPage{Many: n},
			record.DataPage{Index: n}, record.DataPage{Many: n},
			record.ParityPage{Row: n}, record.ParityPage{Segment: n},
		)
	}
	return l
}

// P5.1: what a header says, of each kind; of another kind nothing.
func TestTell(t *testing.T) {
	for kind := range 256 {
		h := full
		h.Kind = uint8(kind)
		var want any
		switch kind {
		case 1:
			want = record.TablePage{Seq: 0x04030201, Index: 0x0A09, Many: 0x0C0B}
		case 2:
			want = record.MemberPage{Seq: 0x04030201}
		case 3:
			want = record.PointPage{Seq: 0x04030201, Index: 0x0A09, Many: 0x0C0B}
		case 4:
			want = record.DataPage{Epoch: 0x04030201, Batch: 0x08070605, Index: 0x0A09, Many: 0x0C0B, Block: 0x100F0E0D}
		case 5:
			want = record.ParityPage{Epoch: 0x04030201, Batch: 0x08070605, Row: 0x0A09, Segment: 0x0C0B}
		case 6:
			want = record.FillPage{Epoch: 0x04030201, Batch: 0x08070605}
		}
		if x := record.Tell(h); x != want {
			t.Errorf("%d: %#v, want %#v", kind, x, want)
		}
	}
	if x := record.Tell(record.Header{}); x != nil {
		t.Errorf("of no kind: %#v", x)
	}
}

// P5.1: the header that says something; what its type doesn't name is 0.
func TestSaid(t *testing.T) {
	for x, want := range said() {
		if h, ok := record.Said(x); !ok || h != want {
			t.Errorf("%#v: %v %v, want %v", x, h, ok, want)
		}
	}
	for _, x := range none() {
		if h, ok := record.Said(x); ok || h != (record.Header{}) {
			t.Errorf("%#v: %v %v", x, h, ok)
		}
	}
}

// P5.3: what is told is said as it was, but for what its type doesn't name; what is said is told as it was.
func TestToldIsSaid(t *testing.T) {
	for _, h := range headers() {
		want := h
		want.More = 0
		switch h.Kind {
		case record.Table, record.Point:
			want.Batch, want.Block = 0, 0
		case record.Member:
			want = record.Header{Kind: h.Kind, Epoch: h.Epoch, Count: 1}
		case record.Parity:
			want.Block = 0
		case record.Fill:
			want = record.Header{Kind: h.Kind, Epoch: h.Epoch, Batch: h.Batch}
		}
		if got, ok := record.Said(record.Tell(h)); !ok || got != want {
			t.Error(h, got, ok)
		}
	}
	for x, h := range said() {
		if again := record.Tell(h); again != x {
			t.Errorf("%#v, want %#v", again, x)
		}
	}
}

// P5.1: what is of a logical block, whatever its numbers.
func TestData(t *testing.T) {
	for _, want := range []record.DataPage{{}, {Epoch: 1, Batch: 2, Index: 3, Many: 4, Block: 5}, {Index: -1}, {Index: 65535, Many: 65536}} {
		if d, ok := record.AsData(want); !ok || d != want {
			t.Error(want, d, ok)
		}
		if d := record.MustData(want); d != want {
			t.Error(want, d)
		}
	}
	h := record.Header{Kind: record.Data, Epoch: 1, Block: 9, More: 3}
	if d, ok := record.AsData(record.Tell(h)); !ok || d.Block != 9 || d.Epoch != 1 {
		t.Error(d, ok)
	}
}

// P5.1: of all else AsData is false, and MustData panics as an assertion does.
func TestNoData(t *testing.T) {
	l := none()
	for x := range said() {
		l = append(l, x)
	}
	for _, x := range l {
		if _, is := x.(record.DataPage); is {
			continue
		}
		if d, ok := record.AsData(x); ok || d != (record.DataPage{}) {
			t.Errorf("%#v: %v %v", x, d, ok)
		}
		if !panics(x) {
			t.Errorf("%#v: MustData doesn't panic", x)
		}
	}
}

// panics: does MustData panic, as an assertion with one value does?
func panics(x any) (is bool) {
	defer func() {
		e, ok := recover().(error)
		var as *runtime.TypeAssertionError
		is = ok && errors.As(e, &as)
	}()
	record.MustData(x)
	return false
}

// P5.1: the number that a header says: its Seq, or its Epoch; Form, where Said has none.
func TestEpoch(t *testing.T) {
	for x, h := range said() {
		if n, e := record.Epoch(x); e != api.OK || n != h.Epoch {
			t.Errorf("%#v: %d %d", x, n, e)
		}
	}
	for _, x := range none() {
		if n, e := record.Epoch(x); e != api.Form || n != 0 {
			t.Errorf("%#v: %d %d", x, n, e)
		}
	}
	for _, x := range []any{record.DataPage{Epoch: 5, Index: -1}, record.TablePage{Seq: 5, Many: 65536}, record.ParityPage{Epoch: 5, Row: 65536}} {
		if n, e := record.Epoch(x); e != api.Form || n != 0 {
			t.Errorf("%#v: %d %d", x, n, e)
		}
	}
}
