package roll

import (
	"bytes"
	"encoding/binary"
	"fmt"
	"hash/crc32"
	"math"
	"math/rand"
	"reflect"
	"slices"
	"testing"

	"hourbook/api"
	"hourbook/edit"
	"hourbook/fs"
	"hourbook/record"
	"hourbook/seg"
)

// covered is a row with its sum behind it, told by another program's sums.
func covered(row []byte) []byte {
	sum := crc32.Checksum(row, crc32.MakeTable(crc32.Castagnoli))
	return binary.LittleEndian.AppendUint32(bytes.Clone(row), sum)
}

// topOf is the head of a segment's file, as chapter 10 tells it.
func topOf(id uint32) []byte {
	return covered(binary.LittleEndian.AppendUint32([]byte("hourbk1\x01"), id))
}

// runOf is a record's run, as chapter 8 tells it.
func runOf(r api.Record) []byte {
	row := []byte{byte(r.Kind), byte(len(r.Key))}
	row = binary.LittleEndian.AppendUint16(row, uint16(len(r.Value)))
	row = append(row, binary.LittleEndian.AppendUint64(nil, r.Seq)[:6]...)
	row = append(row, binary.LittleEndian.AppendUint32(nil, r.Prev.Seg)[:3]...)
	row = binary.LittleEndian.AppendUint32(row, r.Prev.Off)
	row = append(covered(row), r.Key...)
	return covered(append(row, r.Value...))
}

// nameOf is a segment's name, with its digits told by another program.
func nameOf(id uint32) string { return fmt.Sprintf("seg-%06x", id) }

// sized is a record of that number whose run has that many bytes, 26 to 1113.
func sized(seq uint64, size int) api.Record {
	r := api.Record{Seq: seq, Kind: api.Put, Key: make([]byte, 1+min(size-26, 63))}
	r.Value = make([]byte, size-25-len(r.Key))
	r.Key[0] = byte(seq)
	return r
}

// empty is what is known of a segment without records; of is what is known of one with some.
func empty(id uint32) api.Seal { return api.Seal{Id: id, Size: 16} }

func of(id, size uint32, first, last uint64) api.Seal {
	return api.Seal{Id: id, Size: size, Many: 1, First: first, Last: last}
}

// emptyRow is many segments without records, from that id on.
func emptyRow(id uint32, many int) []api.Seal {
	var row []api.Seal
	for i := range many {
		row = append(row, empty(id+uint32(i)))
	}
	return row
}

// disk is a file system without files.
func disk(t *testing.T, quota int) *fs.FS {
	t.Helper()
	f, e := fs.New(quota)
	if e != api.OK {
		t.Fatal(e)
	}
	return f
}

// put lays a file of these bytes, all of it safe, without any call of the package.
func put(t *testing.T, f *fs.FS, name string, b []byte) {
	t.Helper()
	if f.Create(name) != api.OK || f.Append(name, b) != api.OK || f.Sync(name) != api.OK || f.SyncDir() != api.OK {
		t.Fatal(name)
	}
}

// ear hears edits, and tells what its turn says: OK, where that says nothing.
type ear struct {
	heard []edit.Edit
	turns []api.Errno
	// on is called at each edit, if there is such a function.
	on func(e edit.Edit)
}

func (x *ear) Tell(e edit.Edit) api.Errno {
	kept := e
	kept.Seals = slices.Clone(e.Seals)
	x.heard = append(x.heard, kept)
	if x.on != nil {
		x.on(e)
	}
	// What was handed to the teller is the teller's: it may write on it.
	for i := range e.Seals {
		e.Seals[i] = api.Seal{Id: 99}
	}
	if len(x.turns) == 0 {
		return api.OK
	}
	told := x.turns[0]
	x.turns = x.turns[1:]
	return told
}

// starts and seals are what a teller hears.
func starts(id uint32) edit.Edit { return edit.Edit{Kind: edit.SegAdd, Id: id} }

func seals(s api.Seal) edit.Edit {
	return edit.Edit{Kind: edit.SegSeal, Seals: []api.Seal{s}}
}

// hears asks that just these edits were heard since it was asked last.
func (x *ear) hears(t *testing.T, want ...edit.Edit) {
	t.Helper()
	if len(x.heard)+len(want) > 0 && !reflect.DeepEqual(x.heard, want) {
		t.Errorf("heard %v, want %v", x.heard, want)
	}
	x.heard = nil
}

// made is a roll of which New told OK.
func made(t *testing.T, f *fs.FS, limit int, sealed []api.Seal, open api.Seal, next uint32) *Roll {
	t.Helper()
	x, e := New(f, limit, sealed, open, next)
	if e != api.OK || x == nil {
		t.Fatalf("New = %v, %d", x, e)
	}
	return x
}

// is asks for all that x tells of itself; an empty open seal is none.
func is(t *testing.T, x *Roll, sealed []api.Seal, open api.Seal, next uint32, last, safe uint64) {
	t.Helper()
	got, there := x.Open()
	if !slices.Equal(x.Sealed(), sealed) || got != open || there != (open != api.Seal{}) || x.Next() != next || x.Last() != last || x.Safe() != safe {
		t.Errorf("sealed %v, open %v %v, next %d, last %d, safe %d, want %v, %v, %d, %d, %d", x.Sealed(), got, there, x.Next(), x.Last(), x.Safe(), sealed, open, next, last, safe)
	}
}

// appended asks that Append tells OK, and that loc.
func appended(t *testing.T, x *Roll, y Teller, r api.Record, want api.Loc) {
	t.Helper()
	if l, e := x.Append(y, r); e != api.OK || l != want {
		t.Fatalf("Append of %d = %v, %d, want %v", r.Seq, l, e, want)
	}
}

// notAppended asks that Append tells that error, and no loc.
func notAppended(t *testing.T, x *Roll, y Teller, r api.Record, want api.Errno) {
	t.Helper()
	if l, e := x.Append(y, r); e != want || l != (api.Loc{}) {
		t.Errorf("Append of %d = %v, %d, want %d", r.Seq, l, e, want)
	}
}

// equal is whether both have all the same.
func equal(a, b api.Record) bool {
	return a.Seq == b.Seq && a.Kind == b.Kind && a.Prev == b.Prev && bytes.Equal(a.Key, b.Key) && bytes.Equal(a.Value, b.Value)
}

// found asks that r is read at l.
func found(t *testing.T, x *Roll, l api.Loc, r api.Record) {
	t.Helper()
	if got, e := x.Read(l); e != api.OK || !equal(got, r) {
		t.Errorf("Read %v = %v, %d, want %v", l, got, e, r)
	}
}

// notFound asks that Read tells that error at l, and nothing else.
func notFound(t *testing.T, x *Roll, l api.Loc, want api.Errno) {
	t.Helper()
	if r, e := x.Read(l); e != want || !reflect.DeepEqual(r, api.Record{}) {
		t.Errorf("Read %v = %v, %d, want %d", l, r, e, want)
	}
}

// at is that byte of that segment.
func at(id, off uint32) api.Loc { return api.Loc{Seg: id, Off: off} }

// P13.2, P13.3: the chapter's example.
func TestExamples(t *testing.T) {
	x, y := made(t, disk(t, 100000), 4096, nil, api.Seal{}, 1), &ear{}
	for n := range uint32(4) {
		appended(t, x, y, sized(uint64(n)+1, 1000), at(1, 16+1000*n))
	}
	y.hears(t, starts(1))
	appended(t, x, y, sized(5, 1000), at(2, 16))
	y.hears(t, seals(api.Seal{Id: 1, Size: 4016, Many: 4, First: 1, Last: 4}), starts(2))
	if e := x.Rest(y); e != api.OK {
		t.Error(e)
	}
	appended(t, x, y, sized(6, 1000), at(3, 16))
	y.hears(t, seals(api.Seal{Id: 2, Size: 1016, Many: 1, First: 5, Last: 5}), starts(3))
	is(t, x, []api.Seal{{Id: 1, Size: 4016, Many: 4, First: 1, Last: 4}, {Id: 2, Size: 1016, Many: 1, First: 5, Last: 5}}, api.Seal{Id: 3, Size: 1016, Many: 1, First: 6, Last: 6}, 4, 6, 5)
}

// P13.1: what a new roll tells: all its numbers are safe, the greatest of all its segments is the last one, whichever has it.
func TestNew(t *testing.T) {
	off := disk(t, 100)
	off.Fuse(0)
	off.SyncDir()
	top := empty(16777215)
	for _, c := range []struct {
		limit  int
		sealed []api.Seal
		open   api.Seal
		next   uint32
		last   uint64
	}{
		{4096, nil, api.Seal{}, 1, 0},
		{1 << 24, []api.Seal{}, api.Seal{}, math.MaxUint32, 0},
		{4097, nil, empty(1), 2, 0},
		{1<<24 - 1, nil, of(7, 50, 3, 3), 8, 3},
		{5000, []api.Seal{of(1, 50, 3, 3)}, api.Seal{}, 2, 3},
		{5000, []api.Seal{empty(1), of(2, 50, 3, 9), of(200, 1<<24, 4, 5)}, api.Seal{}, 1000, 9},
		{5000, []api.Seal{of(1, 50, 9, 9), of(2, 50, 3, 3)}, of(3, 50, 4, 4), 4, 9},
		{5000, []api.Seal{of(1, 50, 9, 9), of(2, 50, 3, 3)}, of(9, 50, 1, 1<<40), 10, 1 << 40},
		{5000, []api.Seal{of(1, 50, 9, 9)}, empty(2), 3, 9},
		{5000, []api.Seal{top}, api.Seal{}, 16777216, 0},
		{5000, emptyRow(1, 100), top, 16777216, 0},
		{5000, emptyRow(1, 200), api.Seal{}, 201, 0},
		{5000, emptyRow(1, 200), of(201, 1<<24, 7, 8), 300, 8},
		{5000, []api.Seal{{Id: 1, Size: 16, Many: 3, First: 1, Last: 3}}, api.Seal{}, 2, 3},
	} {
		for _, f := range []*fs.FS{disk(t, 0), off} {
			steps := f.Steps()
			x := made(t, f, c.limit, c.sealed, c.open, c.next)
			is(t, x, c.sealed, c.open, c.next, c.last, c.last)
			if f.Steps() != steps {
				t.Error("a step was done")
			}
		}
	}
}

// P13.1: what New refuses, and that ErrNil is told ahead of it.
func TestNewErrors(t *testing.T) {
	bad := []api.Seal{
		{Id: 0, Size: 16}, {Id: 16777216, Size: 16}, {Id: 5, Size: 15}, {Id: 5, Size: 1<<24 + 1}, {Id: 5}, {Size: 16}, {Many: 1}, {First: 1}, {Last: 1},
		{Id: 5, Size: 16, First: 1}, {Id: 5, Size: 16, Last: 1}, {Id: 5, Size: 50, Many: 1}, {Id: 5, Size: 50, Many: 2, First: 1, Last: 1}, {Id: 5, Size: 50, Many: 1, First: 2, Last: 1}, {Id: 5, Size: 50, Many: 1, First: 1, Last: 1<<40 + 1},
	}
	f := disk(t, 100)
	ask := func(limit int, sealed []api.Seal, open api.Seal, next uint32) {
		t.Helper()
		if x, e := New(f, limit, sealed, open, next); x != nil || e != api.ErrArg {
			t.Errorf("New %d, %v, %v, %d = %v, %d", limit, sealed, open, next, x, e)
		}
		if x, e := New(nil, limit, sealed, open, next); x != nil || e != api.ErrNil {
			t.Errorf("New of no file system, %d, %v, %v, %d = %v, %d", limit, sealed, open, next, x, e)
		}
	}
	for _, limit := range []int{math.MinInt, -4096, -1, 0, 1, 16, 4095, 1<<24 + 1, 1 << 30, 1 << 32, 1<<32 + 4096, math.MaxInt} {
		ask(limit, nil, api.Seal{}, 1)
	}
	for _, s := range bad {
		ask(4096, []api.Seal{s}, api.Seal{}, 1<<24+1)
		ask(4096, []api.Seal{empty(1), s, empty(9)}, api.Seal{}, 1<<24+1)
		ask(4096, []api.Seal{empty(1), empty(2), s}, api.Seal{}, 1<<24+1)
		ask(4096, nil, s, 1<<24+1)
		ask(4096, []api.Seal{empty(1)}, s, 1<<24+1)
	}
	// An empty seal is none that is open, and none that is sealed.
	ask(4096, []api.Seal{{}}, api.Seal{}, 1)
	ask(4096, emptyRow(1, 201), api.Seal{}, 202)
	ask(4096, emptyRow(1, 201), empty(202), 203)
	ask(4096, []api.Seal{empty(3), empty(3)}, api.Seal{}, 4)
	ask(4096, []api.Seal{empty(3), empty(2)}, api.Seal{}, 4)
	ask(4096, []api.Seal{empty(1), empty(3), empty(2), empty(4)}, api.Seal{}, 5)
	ask(4096, []api.Seal{empty(3)}, empty(3), 4)
	ask(4096, []api.Seal{empty(3)}, empty(2), 4)
	for _, next := range []uint32{0, 1, 2, 3} {
		ask(4096, []api.Seal{empty(1), empty(3)}, api.Seal{}, next)
		ask(4096, []api.Seal{empty(1)}, empty(3), next)
		ask(4096, nil, empty(3), next)
	}
	ask(4096, []api.Seal{empty(1<<24 - 1)}, api.Seal{}, 1<<24-1)
	// Ids are counted from 1 on.
	ask(4096, nil, api.Seal{}, 0)
	if x, e := New(nil, 4096, nil, api.Seal{}, 1); x != nil || e != api.ErrNil {
		t.Error(x, e)
	}
	if f.Steps() != 0 {
		t.Error(f.Steps())
	}
}

// P13.1 to P13.4: a roll that New did not make, or none; no teller.
func TestNone(t *testing.T) {
	f := disk(t, 10000)
	whole := made(t, f, 4096, nil, api.Seal{}, 1)
	y := &ear{}
	appended(t, whole, y, sized(1, 30), at(1, 16))
	y.hears(t, starts(1))
	for _, x := range []*Roll{nil, {}, new(Roll)} {
		notAppended(t, x, y, sized(1, 30), api.ErrNil)
		notAppended(t, x, nil, api.Record{}, api.ErrNil)
		notFound(t, x, at(1, 16), api.ErrNil)
		notFound(t, x, at(0, 0), api.ErrNil)
		is(t, x, nil, api.Seal{}, 0, 0, 0)
		for _, e := range []api.Errno{x.Rest(y), x.Rest(nil), x.Sync(), x.Replace(nil), x.Replace([]api.Seal{{}}), x.Replace([]api.Seal{empty(5)})} {
			if e != api.ErrNil {
				t.Error(e)
			}
		}
		is(t, x, nil, api.Seal{}, 0, 0, 0)
	}
	steps := f.Steps()
	notAppended(t, whole, nil, sized(2, 30), api.ErrNil)
	notAppended(t, whole, nil, api.Record{}, api.ErrNil)
	if e := whole.Rest(nil); e != api.ErrNil {
		t.Error(e)
	}
	is(t, whole, nil, of(1, 46, 1, 1), 2, 1, 0)
	empty := made(t, f, 4096, nil, api.Seal{}, 2)
	notAppended(t, empty, nil, sized(2, 30), api.ErrNil)
	if e := empty.Rest(nil); e != api.ErrNil {
		t.Error(e)
	}
	is(t, empty, nil, api.Seal{}, 2, 0, 0)
	y.hears(t)
	if f.Steps() != steps {
		t.Error("a step was done")
	}
}

// P13.2: what may not be appended, by the record and by its number; nothing is done then.
func TestAppendArg(t *testing.T) {
	f := disk(t, 100000)
	y := &ear{}
	rolls := []*Roll{
		made(t, f, 4096, nil, api.Seal{}, 1),
		made(t, f, 4096, []api.Seal{of(3, 50, 7, 7), of(4, 50, 5, 5)}, api.Seal{}, 5),
		made(t, f, 4096, []api.Seal{of(3, 50, 7, 7)}, of(4, 50, 5, 5), 5),
		made(t, f, 4096, nil, of(4, 4096, 5, 1<<40-1), 5),
		made(t, f, 4096, nil, of(4, 4096, 5, 1<<40), 5),
		// Where there is no room for one more segment that is told behind it.
		made(t, f, 4096, emptyRow(1, 200), api.Seal{}, 201),
		made(t, f, 4096, nil, api.Seal{}, 1<<24),
	}
	for _, x := range rolls {
		last := x.Last()
		sealed, next, safe := x.Sealed(), x.Next(), x.Safe()
		open, _ := x.Open()
		ask := func(change func(r *api.Record)) {
			t.Helper()
			r := sized(last+1, 30)
			change(&r)
			notAppended(t, x, y, r, api.ErrArg)
			is(t, x, sealed, open, next, last, safe)
		}
		for _, seq := range []uint64{0, last, last - 1, last / 2, 1, 1<<40 + 1, math.MaxUint64} {
			if seq <= last || seq > 1<<40 {
				ask(func(r *api.Record) { r.Seq = seq })
			}
		}
		ask(func(r *api.Record) { r.Kind = 0 })
		ask(func(r *api.Record) { r.Kind = 3 })
		ask(func(r *api.Record) { r.Key = nil })
		ask(func(r *api.Record) { r.Key = make([]byte, 65) })
		ask(func(r *api.Record) { r.Value = make([]byte, 1025) })
		ask(func(r *api.Record) { r.Kind, r.Value = api.Delete, []byte{1} })
		ask(func(r *api.Record) { r.Prev = at(1, 15) })
		ask(func(r *api.Record) { r.Prev = at(1<<24, 16) })
		ask(func(r *api.Record) { *r = api.Record{} })
	}
	y.hears(t)
	if f.Steps() != 0 {
		t.Error("a step was done")
	}
}

// P13.2: a segment gets up to limit bytes, and not one more, whether it was created here or was there.
func TestLimit(t *testing.T) {
	for _, limit := range []int{4096, 4097, 5000, 20000} {
		for _, size := range []int{26, 27, 100, 1000, 1113} {
			for _, over := range []int{-1, 0, 1, size} {
				f := disk(t, 100000)
				full := uint32(limit - size + over)
				put(t, f, nameOf(6), make([]byte, full))
				x, y := made(t, f, limit, nil, of(6, full, 5, 5), 7), &ear{}
				r := sized(6, size)
				if over <= 0 {
					appended(t, x, y, r, at(6, full))
					y.hears(t)
					is(t, x, nil, api.Seal{Id: 6, Size: full + uint32(size), Many: 2, First: 5, Last: 6}, 7, 6, 5)
				} else {
					appended(t, x, y, r, at(7, 16))
					y.hears(t, seals(of(6, full, 5, 5)), starts(7))
					is(t, x, []api.Seal{of(6, full, 5, 5)}, of(7, 16+uint32(size), 6, 6), 8, 6, 5)
				}
			}
		}
	}
	// One that has more than limit bytes, and one without a record.
	f := disk(t, 100000)
	put(t, f, nameOf(6), topOf(6))
	x, y := made(t, f, 4096, nil, of(6, 1<<24, 5, 5), 7), &ear{}
	appended(t, x, y, sized(6, 26), at(7, 16))
	y.hears(t, seals(of(6, 1<<24, 5, 5)), starts(7))
	x = made(t, f, 4096, nil, empty(6), 9)
	appended(t, x, y, sized(6, 26), at(6, 16))
	y.hears(t)
}

// P13.2: how many segments there may be, and how great their ids; what is told behind that is of no use to it.
func TestFull(t *testing.T) {
	full := func(x *Roll) {
		t.Helper()
		y := &ear{}
		sealed, next, last := x.Sealed(), x.Next(), x.Last()
		notAppended(t, x, y, sized(last+1, 30), api.ErrFull)
		is(t, x, sealed, api.Seal{}, next, last, last)
		y.hears(t)
	}
	for _, f := range []*fs.FS{disk(t, 100000), disk(t, 0)} {
		full(made(t, f, 4096, emptyRow(1, 200), api.Seal{}, 201))
		full(made(t, f, 4096, nil, api.Seal{}, 1<<24))
		full(made(t, f, 4096, emptyRow(1<<24-200, 200), api.Seal{}, 1<<24))
		full(made(t, f, 4096, nil, api.Seal{}, math.MaxUint32))
		f.Fuse(0)
		full(made(t, f, 4096, emptyRow(1, 200), api.Seal{}, 201))
		full(made(t, f, 4096, []api.Seal{of(1<<24-1, 50, 5, 5)}, api.Seal{}, 1<<24))
		if f.Steps() != 0 || len(f.List()) != 0 {
			t.Error("a step was done")
		}
	}
	// The last id that may be, and the last segment that may be.
	f, y := disk(t, 100000), &ear{}
	x := made(t, f, 4096, emptyRow(1, 199), api.Seal{}, 1<<24-1)
	appended(t, x, y, sized(1, 30), at(1<<24-1, 16))
	if e := x.Rest(y); e != api.OK || len(x.Sealed()) != 200 {
		t.Error(e)
	}
	full(x)
	// Where an open one is there beside MaxSegs sealed ones it is written, and sealed, but none is opened.
	put(t, f, nameOf(201), topOf(201))
	x, y = made(t, f, 4096, emptyRow(1, 200), empty(201), 202), &ear{}
	for n := range uint32(4) {
		appended(t, x, y, sized(uint64(n)+1, 1000), at(201, 16+1000*n))
	}
	y.hears(t)
	notAppended(t, x, y, sized(5, 1000), api.ErrFull)
	sealed := api.Seal{Id: 201, Size: 4016, Many: 4, First: 1, Last: 4}
	y.hears(t, seals(sealed))
	is(t, x, append(emptyRow(1, 200), sealed), api.Seal{}, 202, 4, 4)
	full(x)
	found(t, x, at(201, 16), sized(1, 1000))
}

// P13.2: the teller tells errors: of a seal, that stays open though it is safe; of a new segment, that its file is removed and its id is used.
func TestTellerErrors(t *testing.T) {
	f, y := disk(t, 100000), &ear{}
	x := made(t, f, 4096, nil, api.Seal{}, 1)
	names := func(want ...string) {
		t.Helper()
		if got := f.List(); !slices.Equal(got, want) {
			t.Errorf("%v, want %v", got, want)
		}
	}
	y.turns = []api.Errno{api.ErrSpace, api.ErrOff}
	notAppended(t, x, y, sized(1, 1000), api.ErrSpace)
	is(t, x, nil, api.Seal{}, 2, 0, 0)
	y.hears(t, starts(1))
	notAppended(t, x, y, sized(1, 1000), api.ErrOff)
	is(t, x, nil, api.Seal{}, 3, 0, 0)
	y.hears(t, starts(2))
	names()
	for n := range uint32(4) {
		appended(t, x, y, sized(uint64(n)+1, 1000), at(3, 16+1000*n))
	}
	y.hears(t, starts(3))
	names(nameOf(3))
	one := api.Seal{Id: 3, Size: 4016, Many: 4, First: 1, Last: 4}
	is(t, x, nil, one, 4, 4, 0)
	// SegSeal: OK is all that lets it be sealed.
	for _, told := range []api.Errno{api.ErrCorrupt, 77, -1} {
		y.turns = []api.Errno{told}
		notAppended(t, x, y, sized(5, 1000), told)
		is(t, x, nil, one, 4, 4, 4)
		y.hears(t, seals(one))
		y.turns = []api.Errno{told}
		if e := x.Rest(y); e != told {
			t.Error(e)
		}
		is(t, x, nil, one, 4, 4, 4)
		y.hears(t, seals(one))
	}
	// SegAdd, behind a seal that was heard: that one stays sealed.
	y.turns = []api.Errno{api.OK, api.ErrNone}
	notAppended(t, x, y, sized(5, 1000), api.ErrNone)
	is(t, x, []api.Seal{one}, api.Seal{}, 5, 4, 4)
	y.hears(t, seals(one), starts(4))
	names(nameOf(3))
	appended(t, x, y, sized(5, 1000), at(5, 16))
	y.hears(t, starts(5))
	is(t, x, []api.Seal{one}, of(5, 1016, 5, 5), 6, 5, 4)
}

// P13.2: of a new segment whose teller tells an error the file is removed, whatever that tells.
func TestNotRemoved(t *testing.T) {
	f, y := disk(t, 100000), &ear{turns: []api.Errno{api.ErrSpace}}
	x := made(t, f, 4096, nil, api.Seal{}, 1)
	y.on = func(edit.Edit) { f.Fuse(0) }
	notAppended(t, x, y, sized(1, 1000), api.ErrSpace)
	if f.On() {
		t.Error("it was not asked to be removed")
	}
	f.Crash(nil)
	if f.Steps() != 5 {
		t.Error(f.Steps())
	}
	is(t, x, nil, api.Seal{}, 2, 0, 0)
	y.on = func(edit.Edit) { f.Remove(nameOf(2)) }
	y.turns = []api.Errno{api.ErrFull}
	notAppended(t, x, y, sized(1, 1000), api.ErrFull)
	is(t, x, nil, api.Seal{}, 3, 0, 0)
	y.on = nil
	appended(t, x, y, sized(1, 1000), at(3, 16))
}

// P13.2, P13.3: what is there when the teller hears: the segment that is told is on the disk with its head, safe; what is sealed is safe.
func TestWhenHeard(t *testing.T) {
	f, y := disk(t, 100000), &ear{}
	x := made(t, f, 4096, nil, api.Seal{}, 1)
	var want []byte
	y.on = func(e edit.Edit) {
		id := e.Id
		if e.Kind == edit.SegSeal {
			id = e.Seals[0].Id
			if x.Safe() != e.Seals[0].Last {
				t.Error(x.Safe(), e)
			}
		} else {
			want = topOf(id)
		}
		behind := f.Copy()
		behind.Crash(nil)
		size, _ := behind.Size(nameOf(id))
		if b, e := behind.ReadAt(nameOf(id), 0, size); e != api.OK || !bytes.Equal(b, want) {
			t.Errorf("%d: % x, want % x", id, b, want)
		}
	}
	for n := uint64(1); n <= 20; n++ {
		r := sized(n, 900)
		if _, e := x.Append(y, r); e != api.OK {
			t.Fatal(e)
		}
		want = append(want, runOf(r)...)
	}
	if e := x.Rest(y); e != api.OK || len(y.heard) != 10 {
		t.Error(e, y.heard)
	}
}

// P13.2: the power goes off at each of the steps of an Append for which there is to rest and to open.
func TestOff(t *testing.T) {
	one := api.Seal{Id: 1, Size: 4016, Many: 4, First: 1, Last: 4}
	for steps := range 8 {
		f, y := disk(t, 100000), &ear{}
		x := made(t, f, 4096, nil, api.Seal{}, 1)
		for n := uint64(1); n <= 4; n++ {
			x.Append(y, sized(n, 1000))
		}
		y.hears(t, starts(1))
		f.Fuse(steps)
		l, e := x.Append(y, sized(5, 1000))
		if want := map[bool]api.Errno{true: api.ErrOff, false: api.OK}[steps < 6]; e != want || (l == api.Loc{}) != (steps < 6) {
			t.Errorf("%d steps: %v, %d", steps, l, e)
		}
		switch {
		case steps == 0: // Sync
			y.hears(t)
			is(t, x, nil, one, 2, 4, 0)
		case steps <= 4: // Create, Append of the head, Sync, SyncDir
			y.hears(t, seals(one))
			is(t, x, []api.Seal{one}, api.Seal{}, 3, 4, 4)
		case steps == 5: // Append of the record
			y.hears(t, seals(one), starts(2))
			is(t, x, []api.Seal{one}, empty(2), 3, 4, 4)
		default:
			y.hears(t, seals(one), starts(2))
			is(t, x, []api.Seal{one}, of(2, 1016, 5, 5), 3, 5, 4)
		}
		// While it is off: an id is used each time that one is to be opened.
		if f.Fuse(-1) == api.OK {
			continue
		}
		next := x.Next()
		notAppended(t, x, y, sized(5, 1000), api.ErrOff)
		if used := x.Next() - next; used != uint32(map[bool]int{true: 1, false: 0}[steps >= 1 && steps <= 4]) {
			t.Errorf("%d steps: %d ids were used", steps, used)
		}
		notFound(t, x, at(1, 16), api.ErrOff)
	}
}

// P13.2: a file that has the next id's name is another one's, and stays; the id is used.
func TestThere(t *testing.T) {
	f, y := disk(t, 100000), &ear{}
	put(t, f, nameOf(2), []byte("other"))
	put(t, f, nameOf(3), []byte("other"))
	x := made(t, f, 4096, nil, api.Seal{}, 2)
	notAppended(t, x, y, sized(1, 30), api.ErrThere)
	is(t, x, nil, api.Seal{}, 3, 0, 0)
	notAppended(t, x, y, sized(1, 30), api.ErrThere)
	is(t, x, nil, api.Seal{}, 4, 0, 0)
	y.hears(t)
	appended(t, x, y, sized(1, 30), at(4, 16))
	if size, _ := f.Size(nameOf(2)); size != 5 || len(f.List()) != 3 {
		t.Error(f.List())
	}
}

// P13.2: no room for the record in the file system: the segment that was opened for it stays open, and is used by the next one.
func TestNoRoom(t *testing.T) {
	f, y := disk(t, 100), &ear{}
	x := made(t, f, 4096, nil, api.Seal{}, 1)
	notAppended(t, x, y, sized(1, 100), api.ErrSpace)
	y.hears(t, starts(1))
	is(t, x, nil, empty(1), 2, 0, 0)
	notAppended(t, x, y, sized(1, 85), api.ErrSpace)
	appended(t, x, y, sized(1, 84), at(1, 16))
	y.hears(t)
	notAppended(t, x, y, sized(2, 26), api.ErrSpace)
	is(t, x, nil, of(1, 100, 1, 1), 2, 1, 0)
	f.Quota(126)
	appended(t, x, y, sized(2, 26), at(1, 100))
	found(t, x, at(1, 100), sized(2, 26))
	// No room for the head.
	f.Quota(141)
	if e := x.Rest(y); e != api.OK {
		t.Error(e)
	}
	y.heard = nil
	notAppended(t, x, y, sized(3, 26), api.ErrSpace)
	y.hears(t)
	is(t, x, []api.Seal{{Id: 1, Size: 126, Many: 2, First: 1, Last: 2}}, api.Seal{}, 3, 2, 2)
}

// P13.3: to rest, by itself: once, and then no more; of a segment without records as well.
func TestRest(t *testing.T) {
	f, y := disk(t, 100000), &ear{}
	x := made(t, f, 4096, []api.Seal{of(2, 50, 3, 9)}, api.Seal{}, 4)
	rests := func(want api.Errno) {
		t.Helper()
		if e := x.Rest(y); e != want {
			t.Errorf("Rest = %d, want %d", e, want)
		}
	}
	rests(api.OK)
	y.hears(t)
	is(t, x, []api.Seal{of(2, 50, 3, 9)}, api.Seal{}, 4, 9, 9)
	if f.Steps() != 0 {
		t.Error("a step was done")
	}
	appended(t, x, y, sized(10, 30), at(4, 16))
	y.hears(t, starts(4))
	steps := f.Steps()
	rests(api.OK)
	rests(api.OK)
	y.hears(t, seals(of(4, 46, 10, 10)))
	if f.Steps() != steps+1 {
		t.Error(f.Steps() - steps)
	}
	is(t, x, []api.Seal{of(2, 50, 3, 9), of(4, 46, 10, 10)}, api.Seal{}, 5, 10, 10)
	// One without records, and one whose numbers are below those of a sealed one: the greatest one is safe.
	put(t, f, nameOf(7), topOf(7))
	x = made(t, f, 4096, []api.Seal{of(2, 50, 3, 9)}, empty(7), 8)
	rests(api.OK)
	y.hears(t, seals(empty(7)))
	is(t, x, []api.Seal{of(2, 50, 3, 9), empty(7)}, api.Seal{}, 8, 9, 9)
	x = made(t, f, 4096, []api.Seal{of(2, 50, 3, 9)}, of(7, 50, 1, 1), 8)
	rests(api.OK)
	y.hears(t, seals(of(7, 50, 1, 1)))
	is(t, x, []api.Seal{of(2, 50, 3, 9), of(7, 50, 1, 1)}, api.Seal{}, 8, 9, 9)
	// An error of the file system's: the teller hears nothing.
	x = made(t, f, 4096, nil, of(70, 50, 1, 1), 71)
	rests(api.ErrNone)
	f.Fuse(0)
	rests(api.ErrOff)
	y.hears(t)
	is(t, x, nil, of(70, 50, 1, 1), 71, 1, 1)
}

// P13.3: Sync makes all safe that was appended, and nothing without an open segment.
func TestSync(t *testing.T) {
	f, y := disk(t, 100000), &ear{}
	x := made(t, f, 4096, []api.Seal{of(2, 50, 3, 9)}, api.Seal{}, 4)
	syncs := func(want api.Errno, safe uint64) {
		t.Helper()
		if e := x.Sync(); e != want || x.Safe() != safe {
			t.Errorf("Sync = %d, safe %d, want %d, %d", e, x.Safe(), want, safe)
		}
	}
	syncs(api.OK, 9)
	if f.Steps() != 0 {
		t.Error("a step was done")
	}
	appended(t, x, y, sized(12, 30), at(4, 16))
	appended(t, x, y, sized(15, 30), at(4, 46))
	steps := f.Steps()
	is(t, x, []api.Seal{of(2, 50, 3, 9)}, api.Seal{Id: 4, Size: 76, Many: 2, First: 12, Last: 15}, 5, 15, 9)
	syncs(api.OK, 15)
	syncs(api.OK, 15)
	if f.Steps() != steps+2 {
		t.Error(f.Steps() - steps)
	}
	behind := f.Copy()
	behind.Crash(nil)
	if size, e := behind.Size(nameOf(4)); size != 76 || e != api.OK {
		t.Error(size, e)
	}
	appended(t, x, y, sized(16, 30), at(4, 76))
	f.Fuse(0)
	syncs(api.ErrOff, 15)
	f.Crash([]int{0, 30})
	f.Remove(nameOf(4))
	syncs(api.ErrNone, 15)
	y.hears(t, starts(4))
	is(t, x, []api.Seal{of(2, 50, 3, 9)}, api.Seal{Id: 4, Size: 106, Many: 3, First: 12, Last: 16}, 5, 16, 15)
	// An open one whose numbers are below those of a sealed one.
	put(t, f, nameOf(7), topOf(7))
	x = made(t, f, 4096, []api.Seal{of(2, 50, 3, 9)}, of(7, 50, 1, 1), 8)
	syncs(api.OK, 9)
}

// P13.4: which locs are read: those of its segments, sealed or open; what is corrupt, or gone.
func TestRead(t *testing.T) {
	f, y := disk(t, 100000), &ear{}
	x := made(t, f, 4096, nil, api.Seal{}, 3)
	var locs []api.Loc
	for n := uint64(1); n <= 14; n++ {
		l, e := x.Append(y, sized(n, 1000))
		if e != api.OK {
			t.Fatal(e)
		}
		locs = append(locs, l)
	}
	all := func() {
		t.Helper()
		for i, l := range locs {
			found(t, x, l, sized(uint64(i)+1, 1000))
		}
		for _, id := range []uint32{0, 1, 2, 7, 8, 1<<24 - 1, 1 << 24, 1<<24 + 3, math.MaxUint32} {
			notFound(t, x, at(id, 16), api.ErrArg)
		}
		for id := uint32(3); id <= 6; id++ {
			open, _ := x.Open()
			size := uint32(4016)
			if id == open.Id {
				size = open.Size
			}
			for _, off := range []uint32{0, 15, size, size + 1, math.MaxUint32} {
				notFound(t, x, at(id, off), api.ErrArg)
			}
			notFound(t, x, at(id, 17), api.ErrCorrupt)
			notFound(t, x, at(id, size-1), api.ErrCorrupt)
		}
	}
	steps := f.Steps()
	all()
	if f.Steps() != steps {
		t.Error("a step was done")
	}
	// A roll of the same seals reads the same, and so does one behind a rest.
	open, _ := x.Open()
	x = made(t, f, 1<<24, x.Sealed(), open, x.Next())
	all()
	x.Rest(y)
	for i, l := range locs {
		found(t, x, l, sized(uint64(i)+1, 1000))
	}
	f.Flip(nameOf(4), 16+1000+500, 1)
	notFound(t, x, at(4, 1016), api.ErrCorrupt)
	found(t, x, at(4, 16), sized(5, 1000))
	f.Remove(nameOf(5))
	notFound(t, x, at(5, 16), api.ErrNone)
	f.Fuse(0)
	f.SyncDir()
	notFound(t, x, at(3, 16), api.ErrOff)
	notFound(t, x, at(9, 16), api.ErrArg)
}

// P13.4: Replace: what is there behind it, and what Next is.
func TestReplace(t *testing.T) {
	f := disk(t, 100000)
	for _, c := range []struct {
		next   uint32
		sealed []api.Seal
		behind uint32
		last   uint64
	}{
		{10, nil, 10, 0},
		{1, []api.Seal{}, 1, 0},
		{10, []api.Seal{of(1, 50, 4, 6)}, 10, 6},
		{10, []api.Seal{of(9, 50, 4, 6)}, 10, 6},
		{10, []api.Seal{of(10, 50, 4, 6)}, 11, 6},
		{10, []api.Seal{of(3, 50, 90, 90), empty(11)}, 12, 90},
		{10, []api.Seal{empty(1<<24 - 2)}, 1<<24 - 1, 0},
		{1 << 24, []api.Seal{empty(1<<24 - 2)}, 1 << 24, 0},
		{math.MaxUint32, []api.Seal{empty(5)}, math.MaxUint32, 0},
		{10, emptyRow(1, 200), 201, 0},
	} {
		x := made(t, f, 4096, []api.Seal{}, api.Seal{}, c.next)
		if e := x.Replace(c.sealed); e != api.OK {
			t.Error(e)
		}
		is(t, x, c.sealed, api.Seal{}, c.behind, c.last, 0)
	}
	if f.Steps() != 0 {
		t.Error("a step was done")
	}
	// What was safe stays so; the old segments are none of its, though their files are there.
	y := &ear{}
	x := made(t, f, 4096, []api.Seal{of(1, 50, 9, 9)}, api.Seal{}, 2)
	appended(t, x, y, sized(10, 30), at(2, 16))
	x.Rest(y)
	put(t, f, nameOf(7), append(topOf(7), runOf(sized(8, 30))...))
	if e := x.Replace([]api.Seal{of(7, 46, 8, 8)}); e != api.OK {
		t.Error(e)
	}
	is(t, x, []api.Seal{of(7, 46, 8, 8)}, api.Seal{}, 8, 8, 10)
	notFound(t, x, at(2, 16), api.ErrArg)
	found(t, x, at(7, 16), sized(8, 30))
	y.heard = nil
	appended(t, x, y, sized(11, 30), at(8, 16))
	y.hears(t, starts(8))
	is(t, x, []api.Seal{of(7, 46, 8, 8)}, of(8, 46, 11, 11), 9, 11, 10)
}

// P13.4: what Replace refuses; nothing is changed then.
func TestReplaceErrors(t *testing.T) {
	f := disk(t, 100000)
	x := made(t, f, 4096, []api.Seal{of(3, 50, 9, 9)}, api.Seal{}, 4)
	for _, sealed := range [][]api.Seal{
		{{}}, {{Id: 5}}, {{Id: 0, Size: 16}}, {{Id: 5, Size: 15}}, {{Id: 5, Size: 1<<24 + 1}}, {{Id: 5, Size: 16, Last: 1}}, {empty(5), {Id: 6, Size: 50, Many: 2, First: 1, Last: 1}},
		{empty(5), empty(5)}, {empty(6), empty(5)}, {empty(5), empty(9), empty(8), empty(10)}, emptyRow(1, 201),
		{empty(1<<24 - 1)}, {empty(1), empty(1<<24 - 1)}, {empty(1 << 24)}, {empty(math.MaxUint32)},
	} {
		if e := x.Replace(sealed); e != api.ErrArg {
			t.Errorf("Replace %v = %d", sealed, e)
		}
		is(t, x, []api.Seal{of(3, 50, 9, 9)}, api.Seal{}, 4, 9, 9)
	}
	// There is an open one.
	for _, open := range []api.Seal{empty(4), of(4, 50, 10, 10)} {
		x = made(t, f, 4096, []api.Seal{of(3, 50, 9, 9)}, open, 5)
		for _, sealed := range [][]api.Seal{nil, {empty(5)}, {of(3, 50, 9, 9)}, {{}}} {
			if e := x.Replace(sealed); e != api.ErrArg {
				t.Errorf("Replace %v = %d", sealed, e)
			}
			is(t, x, []api.Seal{of(3, 50, 9, 9)}, open, 5, max(9, open.Last), max(9, open.Last))
		}
	}
}

// P13.1, P13.2, P13.4: what is handed in is not kept, and what is told is not kept either.
func TestMemory(t *testing.T) {
	f, y := disk(t, 100000), &ear{}
	sealed := []api.Seal{empty(1), of(2, 50, 3, 9)}
	want := slices.Clone(sealed)
	x := made(t, f, 4096, sealed, api.Seal{}, 3)
	clear(sealed)
	is(t, x, want, api.Seal{}, 3, 9, 9)
	clear(x.Sealed())
	is(t, x, want, api.Seal{}, 3, 9, 9)
	sealed = append(make([]api.Seal, 0, 10), want...)
	if e := x.Replace(sealed); e != api.OK {
		t.Error(e)
	}
	r := sized(10, 30)
	appended(t, x, y, r, at(3, 16))
	clear(r.Key)
	clear(r.Value)
	got, e := x.Read(at(3, 16))
	if e != api.OK || !equal(got, sized(10, 30)) {
		t.Error(got, e)
	}
	clear(got.Key)
	found(t, x, at(3, 16), sized(10, 30))
	if e := x.Rest(y); e != api.OK {
		t.Error(e)
	}
	if !slices.Equal(sealed, want) || sealed[:3][2] != (api.Seal{}) {
		t.Error("what was handed in is changed:", sealed[:3])
	}
	clear(sealed)
	is(t, x, append(want, of(3, 46, 10, 10)), api.Seal{}, 4, 10, 10)
	// Two rolls of one file system have nothing in common but its files.
	a, b := made(t, f, 4096, want, api.Seal{}, 4), made(t, f, 4096, want, api.Seal{}, 5)
	appended(t, a, y, sized(11, 30), at(4, 16))
	appended(t, b, y, sized(11, 30), at(5, 16))
	is(t, a, want, of(4, 46, 11, 11), 5, 11, 9)
}

// P13.5, P13.6: records by chance, with rests between: all are read back, locs rise with numbers, no segment has more than limit bytes, and the teller heard of each one, in its turn.
func TestBack(t *testing.T) {
	chance := rand.New(rand.NewSource(13))
	for round := range 20 {
		limit := 4096 + chance.Intn(1+round*500)
		f, y := disk(t, api.MaxBytes), &ear{}
		x := made(t, f, limit, nil, api.Seal{}, 1+uint32(chance.Intn(5)))
		var locs []api.Loc
		var all []api.Record
		seq := uint64(0)
		for range 250 {
			seq += 1 + uint64(chance.Intn(3))
			r := sized(seq, 26+chance.Intn(1088))
			l, e := x.Append(y, r)
			if e != api.OK {
				t.Fatal(e)
			}
			if len(locs) > 0 && (l.Seg < locs[len(locs)-1].Seg || l.Seg == locs[len(locs)-1].Seg && l.Off <= locs[len(locs)-1].Off) {
				t.Error(l, "behind", locs[len(locs)-1])
			}
			locs, all = append(locs, l), append(all, r)
			switch chance.Intn(40) {
			case 0:
				x.Rest(y)
			case 1:
				x.Sync()
			}
			i := chance.Intn(len(all))
			found(t, x, locs[i], all[i])
		}
		for i := range all {
			found(t, x, locs[i], all[i])
		}
		x.Rest(y)
		// What was heard tells the same segments as the roll, and as a scan of each file.
		var heard []api.Seal
		for i, e := range y.heard {
			if i%2 == 0 {
				if e.Kind != edit.SegAdd {
					t.Fatal(i, e)
				}
				continue
			}
			if e.Kind != edit.SegSeal || e.Seals[0].Id != y.heard[i-1].Id || int(e.Seals[0].Size) > limit || e.Seals[0].Many == 0 {
				t.Error(i, e)
			}
			heard = append(heard, e.Seals[0])
		}
		is(t, x, heard, api.Seal{}, heard[len(heard)-1].Id+1, seq, seq)
		for _, s := range heard {
			if got, e := seg.Load(f, s.Id); e != api.OK || got.Why != api.OK || got.Seal() != s {
				t.Error(s, got.Seal(), e)
			}
		}
	}
}

// P13.7: what is refused, for whatever reason, can be appended again, at a loc that none has.
func TestRefused(t *testing.T) {
	f, y := disk(t, 2000), &ear{}
	x := made(t, f, 4096, nil, api.Seal{}, 1)
	last := api.Loc{}
	for n := uint64(1); n <= 30; n++ {
		r := sized(n, 300)
		y.turns = slices.Repeat([]api.Errno{api.ErrSpace}, int(n%3))
		refused := 0
		l, e := x.Append(y, r)
		for e != api.OK {
			if refused++; refused > 10 {
				t.Fatal(e)
			}
			if l != (api.Loc{}) || x.Last() != n-1 {
				t.Error(l, e, x.Last())
			}
			f.Quota(2000 * int(n))
			l, e = x.Append(y, r)
		}
		if l.Seg < last.Seg || l.Seg == last.Seg && l.Off <= last.Off || x.Last() != n {
			t.Error(l, last, x.Last())
		}
		found(t, x, l, r)
		last = l
	}
}

// P13.3: behind a crash, whatever it keeps, all that was safe is read by a roll of what the teller heard.
func TestCrash(t *testing.T) {
	chance := rand.New(rand.NewSource(31))
	for range 300 {
		f, y := disk(t, api.MaxBytes), &ear{}
		x := made(t, f, 4096, nil, api.Seal{}, 1)
		var locs []api.Loc
		f.Fuse(chance.Intn(60))
		for n := uint64(1); f.On() && n < 200; n++ {
			if l, e := x.Append(y, sized(n, 500+chance.Intn(500))); e == api.OK {
				locs = append(locs, l)
			}
			if chance.Intn(5) == 0 {
				x.Sync()
			}
		}
		if f.On() {
			t.Fatal("the fuse did not burn down")
		}
		safe := x.Safe()
		f.Crash([]int{chance.Intn(10), chance.Intn(2000), chance.Intn(2000), chance.Intn(2000)})
		for n := range safe {
			if r, e := x.Read(locs[n]); e == api.ErrCorrupt {
				// The bytes that are known to be there are not all there: a scan tells what is.
				got, told := seg.Load(f, locs[n].Seg)
				if told != api.OK || got.Seal().Last < n+1 {
					t.Fatal(n+1, safe, told)
				}
			} else if e != api.OK || r.Seq != n+1 {
				t.Fatal(n+1, safe, e)
			}
		}
	}
}

// mirror is a roll that does just what the Words say, by the file system's steps alone, one by one.
type mirror struct {
	f      *fs.FS
	y      *ear
	limit  int
	sealed []api.Seal
	// open has one, or none.
	open []api.Seal
	next uint32
	safe uint64
}

func (m *mirror) last() uint64 {
	last := uint64(0)
	for _, s := range append(slices.Clone(m.sealed), m.open...) {
		if s.Last > last {
			last = s.Last
		}
	}
	return last
}

func (m *mirror) sync() api.Errno {
	if len(m.open) == 0 {
		return api.OK
	}
	e := m.f.Sync(nameOf(m.open[0].Id))
	if e == api.OK {
		m.safe = m.last()
	}
	return e
}

func (m *mirror) rest() api.Errno {
	if len(m.open) == 0 {
		return api.OK
	}
	if e := m.sync(); e != api.OK {
		return e
	}
	if e := m.y.Tell(seals(m.open[0])); e != api.OK {
		return e
	}
	m.sealed = append(m.sealed, m.open[0])
	m.open = nil
	return api.OK
}

func (m *mirror) start() api.Errno {
	if len(m.sealed) >= 200 || m.next > 1<<24-1 {
		return api.ErrFull
	}
	id := m.next
	m.next++
	name := nameOf(id)
	if e := m.f.Create(name); e != api.OK {
		return e
	}
	e := m.f.Append(name, topOf(id))
	if e == api.OK {
		e = m.f.Sync(name)
	}
	if e == api.OK {
		e = m.f.SyncDir()
	}
	if e == api.OK {
		e = m.y.Tell(starts(id))
	}
	if e != api.OK {
		m.f.Remove(name)
		return e
	}
	m.open = []api.Seal{empty(id)}
	return api.OK
}

func (m *mirror) append(r api.Record) (api.Loc, api.Errno) {
	if !record.May(r) || r.Seq <= m.last() {
		return api.Loc{}, api.ErrArg
	}
	run := runOf(r)
	if len(m.open) == 1 && int(m.open[0].Size)+len(run) > m.limit {
		if e := m.rest(); e != api.OK {
			return api.Loc{}, e
		}
	}
	if len(m.open) == 0 {
		if e := m.start(); e != api.OK {
			return api.Loc{}, e
		}
	}
	s := &m.open[0]
	if e := m.f.Append(nameOf(s.Id), run); e != api.OK {
		return api.Loc{}, e
	}
	l := at(s.Id, s.Size)
	s.Size += uint32(len(run))
	if s.Many++; s.Many == 1 {
		s.First = r.Seq
	}
	s.Last = r.Seq
	return l, api.OK
}

func (m *mirror) read(l api.Loc) (api.Record, api.Errno) {
	for _, s := range append(slices.Clone(m.sealed), m.open...) {
		if s.Id != l.Seg {
			continue
		}
		if l.Off < 16 || l.Off >= s.Size {
			return api.Record{}, api.ErrArg
		}
		b, e := m.f.ReadAt(nameOf(s.Id), int(l.Off), min(int(s.Size-l.Off), 1113))
		if e == api.ErrShort {
			e = api.ErrCorrupt
		}
		if e != api.OK {
			return api.Record{}, e
		}
		r, _, e := record.Get(b)
		if e != api.OK {
			return api.Record{}, api.ErrCorrupt
		}
		return r, api.OK
	}
	return api.Record{}, api.ErrArg
}

func (m *mirror) replace(sealed []api.Seal) api.Errno {
	above := uint32(0)
	for _, s := range sealed {
		if s.Id <= above || s.Id >= 1<<24-1 || s.Size < 16 || s.Size > 1<<24 {
			return api.ErrArg
		}
		above = s.Id
	}
	if len(m.open) > 0 || len(sealed) > 200 {
		return api.ErrArg
	}
	m.sealed = slices.Clone(sealed)
	m.next = max(m.next, above+1)
	return api.OK
}

// twins are a roll and its mirror, each on a file system of its own, on which the same is done.
type twins struct {
	t      *testing.T
	chance *rand.Rand
	x      *Roll
	y      *ear
	f      *fs.FS
	m      *mirror
	locs   []api.Loc
}

// same asks that nothing tells the twins apart.
func (w *twins) same(what string) {
	w.t.Helper()
	open := api.Seal{}
	if len(w.m.open) > 0 {
		open = w.m.open[0]
	}
	is(w.t, w.x, w.m.sealed, open, w.m.next, w.m.last(), w.m.safe)
	if !reflect.DeepEqual(w.y.heard, w.m.y.heard) {
		w.t.Errorf("%s: heard %v, want %v", what, w.y.heard, w.m.y.heard)
	}
	w.y.heard, w.m.y.heard = nil, nil
	if w.f.Steps() != w.m.f.Steps() || w.f.On() != w.m.f.On() || w.f.Used() != w.m.f.Used() || !slices.Equal(w.f.List(), w.m.f.List()) {
		w.t.Errorf("%s: %d steps, on %v, used %d, %v, want %d, %v, %d, %v", what, w.f.Steps(), w.f.On(), w.f.Used(), w.f.List(), w.m.f.Steps(), w.m.f.On(), w.m.f.Used(), w.m.f.List())
	}
	for _, name := range w.f.List() {
		size, _ := w.f.Size(name)
		a, _ := w.f.ReadAt(name, 0, size)
		b, _ := w.m.f.ReadAt(name, 0, size)
		if other, _ := w.m.f.Size(name); other != size || !bytes.Equal(a, b) {
			w.t.Errorf("%s: %s is not the same", what, name)
		}
	}
	if w.t.Failed() {
		w.t.FailNow()
	}
}

// both asks that both tell the same error.
func (w *twins) both(what string, a, b api.Errno) {
	w.t.Helper()
	if a != b {
		w.t.Fatalf("%s = %d, want %d", what, a, b)
	}
}

// record is one by chance, that may not be appended now and then.
func (w *twins) record() api.Record {
	r := sized(w.x.Last()+1+uint64(w.chance.Intn(2)), 26+w.chance.Intn(1088))
	switch w.chance.Intn(30) {
	case 0:
		r.Seq = w.x.Last()
	case 1:
		r.Kind = 3
	case 2:
		r.Kind, r.Value = api.Delete, nil
	case 3:
		r.Prev = at(5, 15)
	case 4:
		r.Prev = at(5, 16)
	}
	return r
}

// row is segments by chance; not all of them may be.
func (w *twins) row() []api.Seal {
	var row []api.Seal
	id := uint32(w.chance.Intn(3))
	for range w.chance.Intn(4) {
		id += uint32(w.chance.Intn(int(w.m.next) + 2))
		row = append(row, of(id, 16+uint32(w.chance.Intn(5000)), 1, 1+uint64(w.chance.Intn(5))))
	}
	return row
}

// appends appends one, and reads some place.
func (w *twins) appends() {
	w.t.Helper()
	turns := []api.Errno{api.OK, api.ErrSpace, api.ErrNone}[:1+w.chance.Intn(2)]
	w.chance.Shuffle(len(turns), func(i, j int) { turns[i], turns[j] = turns[j], turns[i] })
	w.y.turns, w.m.y.turns = slices.Clone(turns), slices.Clone(turns)
	r := w.record()
	l, e := w.x.Append(w.y, r)
	want, told := w.m.append(r)
	w.both("Append", e, told)
	if l != want {
		w.t.Fatal(l, want)
	}
	w.locs = append(w.locs, l)
	l = w.locs[w.chance.Intn(len(w.locs))]
	l.Off += uint32(w.chance.Intn(20) / 19)
	got, e := w.x.Read(l)
	one, told := w.m.read(l)
	w.both("Read", e, told)
	if !equal(got, one) {
		w.t.Fatal(l, got, one)
	}
}

// act does one thing by chance.
func (w *twins) act() {
	w.t.Helper()
	switch n := w.chance.Intn(60); {
	case n < 45:
		w.appends()
	case n < 48:
		w.y.turns, w.m.y.turns = []api.Errno{api.Errno(n - 45)}, []api.Errno{api.Errno(n - 45)}
		w.both("Rest", w.x.Rest(w.y), w.m.rest())
	case n < 52:
		w.both("Sync", w.x.Sync(), w.m.sync())
	case n < 54:
		row := w.row()
		w.both("Replace", w.x.Replace(row), w.m.replace(row))
	case n < 56:
		steps := w.chance.Intn(8)
		w.both("Fuse", w.f.Fuse(steps), w.m.f.Fuse(steps))
	case n < 57:
		quota := w.chance.Intn(100000)
		w.both("Quota", w.f.Quota(quota), w.m.f.Quota(quota))
	case n < 58:
		name := nameOf(w.m.next + uint32(w.chance.Intn(3)))
		w.both("Create", w.f.Create(name), w.m.f.Create(name))
	default:
		picks := []int{w.chance.Intn(10), w.chance.Intn(2000), w.chance.Intn(2000)}
		w.both("Crash", w.f.Crash(picks), w.m.f.Crash(picks))
	}
	w.same("twins")
}

// P13.1 to P13.4: whatever is done, one behind the other, the answers, the steps, what is heard and what stands in the files are as the Words say.
func TestTwins(t *testing.T) {
	for round := range 60 {
		chance := rand.New(rand.NewSource(int64(round)))
		first := uint32(1 + chance.Intn(3))
		if round%10 == 9 {
			first = 1<<24 - 6
		}
		sealed := emptyRow(first, chance.Intn(3))
		if round%10 == 8 {
			sealed = emptyRow(first, 196)
		}
		next := first + uint32(len(sealed))
		limit := 4096 + chance.Intn(2)*chance.Intn(4000)
		w := &twins{t: t, chance: chance, f: disk(t, 200000), y: &ear{}}
		w.x = made(t, w.f, limit, sealed, api.Seal{}, next)
		w.m = &mirror{f: disk(t, 200000), y: &ear{}, limit: limit, sealed: slices.Clone(sealed), next: next}
		for range 150 {
			w.act()
		}
	}
}
