package loc

import (
	"bytes"
	"math"
	"math/rand"
	"slices"
	"testing"

	"hourbook/api"
	"hourbook/prefix"
)

// numbers are what a segment's id or a byte may be, and may not be by one, and some far away.
func numbers() []uint32 {
	return []uint32{
		0, 1, 2, 3, 14, 15, 16, 17, 127, 128, 143, 144, 300, 16383, 16384, 16399, 16400,
		1<<21 - 1, 1 << 21, 1<<21 + 15, 1<<21 + 16,
		1<<24 - 2, 1<<24 - 1, 1 << 24, 1<<24 + 1, 1<<24 + 15, 1<<24 + 16, 1<<24 + 17,
		1<<31 - 1, 1 << 31, math.MaxUint32 - 15, math.MaxUint32 - 1, math.MaxUint32,
	}
}

// all is each pair of numbers, rising.
func all() []api.Loc {
	var out []api.Loc
	for _, seg := range numbers() {
		for _, off := range numbers() {
			out = append(out, api.Loc{Seg: seg, Off: off})
		}
	}
	return out
}

// may is what the chapter's words say, with its numbers written out.
func may(l api.Loc) bool {
	if l.Seg == 0 {
		return l.Off == 0
	}
	return l.Seg <= 16777215 && l.Off >= 16 && l.Off <= 16777216
}

// those are the ones of all that may be, rising.
func those() []api.Loc {
	return slices.DeleteFunc(all(), func(l api.Loc) bool { return !may(l) })
}

// wrong are locs at which no record can stand: none, and such as may not be.
func wrong() []api.Loc {
	return append(slices.DeleteFunc(all(), may), api.Loc{})
}

// bytesOf is a loc's bytes, as the words tell them.
func bytesOf(l api.Loc) []byte {
	if l.Seg == 0 {
		return []byte{0}
	}
	return prefix.Put(prefix.Put(nil, uint64(l.Seg)), uint64(l.Off)-16)
}

// P3.1, P3.2: the chapter's examples.
func TestExamples(t *testing.T) {
	if Least != 16 {
		t.Error(Least)
	}
	if n, e := Pack(api.Loc{Seg: 3, Off: 16}); n != 3<<32+16 || e != api.OK {
		t.Error(n, e)
	}
	if l, e := Unpack(1 << 32); l != (api.Loc{}) || e != api.ErrArg {
		t.Error(l, e)
	}
	for _, c := range []struct {
		l    api.Loc
		want []byte
	}{
		{api.Loc{}, []byte{0}},
		{api.Loc{Seg: 3, Off: 16}, []byte{3, 0}},
		{api.Loc{Seg: 300, Off: 144}, []byte{0x81, 0x2c, 0x80, 0x80}},
	} {
		if got, e := Put(nil, c.l); !bytes.Equal(got, c.want) || e != api.OK {
			t.Errorf("Put(%v) = % x, %d", c.l, got, e)
		}
		if l, size, e := Get(c.want); l != c.l || size != len(c.want) || e != api.OK {
			t.Errorf("Get(% x) = %v, %d, %d", c.want, l, size, e)
		}
	}
}

// P3.1.
func TestMayAndNone(t *testing.T) {
	for _, l := range all() {
		if got := May(l); got != may(l) {
			t.Errorf("May(%v) = %v", l, got)
		}
		if got := None(l); got != (l.Seg == 0 && l.Off == 0) {
			t.Errorf("None(%v) = %v", l, got)
		}
	}
}

// P3.1: at each edge, and what may not be.
func TestPack(t *testing.T) {
	for _, l := range all() {
		want, fault := uint64(0), api.ErrArg
		if may(l) {
			want, fault = uint64(l.Seg)*4294967296+uint64(l.Off), api.OK
		}
		if got, e := Pack(l); got != want || e != fault {
			t.Errorf("Pack(%v) = %x, %d, want %x, %d", l, got, e, want, fault)
		}
	}
}

// P3.1: of any number.
func TestUnpack(t *testing.T) {
	for _, l := range all() {
		n := uint64(l.Seg)*4294967296 + uint64(l.Off)
		want, fault := api.Loc{}, api.ErrArg
		if may(l) {
			want, fault = l, api.OK
		}
		if got, e := Unpack(n); got != want || e != fault {
			t.Errorf("Unpack(%x) = %v, %d, want %v, %d", n, got, e, want, fault)
		}
	}
}

// P3.1: of any two, those that may not be, too.
func TestCompare(t *testing.T) {
	row := all()
	for i, a := range row {
		for j, b := range row {
			want := 0
			if i < j {
				want = -1
			} else if i > j {
				want = 1
			}
			if got := Compare(a, b); got != want {
				t.Errorf("Compare(%v, %v) = %d", a, b, got)
			}
		}
	}
}

// P3.2.
func TestPut(t *testing.T) {
	for _, l := range all() {
		for _, ahead := range [][]byte{nil, {}, {9}, {0x80, 0xff, 0}} {
			got, e := Put(ahead, l)
			if !may(l) {
				if len(got) != 0 || e != api.ErrArg {
					t.Errorf("Put(% x, %v) = % x, %d", ahead, l, got, e)
				}
				continue
			}
			if want := append(bytes.Clone(ahead), bytesOf(l)...); !bytes.Equal(got, want) || e != api.OK {
				t.Errorf("Put(% x, %v) = % x, %d, want % x", ahead, l, got, e, want)
			}
		}
	}
}

// P3.2: what is answered is new memory, and what is handed in is only read, the room behind it too.
func TestPutNewMemory(t *testing.T) {
	for _, l := range []api.Loc{{}, {Seg: 3, Off: 16}, {Seg: 300, Off: 144}} {
		whole := bytes.Repeat([]byte{5}, 32)
		out, _ := Put(whole[:3], l)
		again, _ := Put(whole[:3], l)
		for i := range out {
			out[i] = 9
		}
		if !bytes.Equal(whole, bytes.Repeat([]byte{5}, 32)) {
			t.Errorf("Put(%v) changed what was handed in: % x", l, whole)
		}
		if !bytes.Equal(again, append([]byte{5, 5, 5}, bytesOf(l)...)) {
			t.Errorf("Put(%v): two answers share memory: % x", l, again)
		}
	}
}

// P3.2: whatever stands behind, and each cut.
func TestGet(t *testing.T) {
	for _, l := range those() {
		row := bytesOf(l)
		for _, behind := range [][]byte{nil, {0}, {0xff}, {0x80, 0}, bytes.Repeat([]byte{0xff}, 20)} {
			b := append(bytes.Clone(row), behind...)
			before := bytes.Clone(b)
			if got, size, e := Get(b); got != l || size != len(row) || e != api.OK {
				t.Errorf("Get(% x) = %v, %d, %d", b, got, size, e)
			}
			if !bytes.Equal(b, before) {
				t.Errorf("Get changed % x", before)
			}
		}
		for cut := range row {
			if got, size, e := Get(row[:cut]); got != (api.Loc{}) || size != 0 || e != api.ErrShort {
				t.Errorf("Get(% x) = %v, %d, %d", row[:cut], got, size, e)
			}
		}
	}
}

// P3.2: numbers that are no loc's, those among them that would wrap round to one that may be.
func TestGetNoLoc(t *testing.T) {
	segs := []uint64{1, 3, 1<<24 - 1, 1 << 24, 1<<24 + 1, math.MaxUint32, 1 << 32, 1<<32 + 3, 1 << 56, math.MaxUint64}
	pasts := []uint64{0, 1, 1<<24 - 16, 1<<24 - 15, 1 << 24, math.MaxUint32 - 15, math.MaxUint32, 1 << 32, 1<<32 + 16, 1 << 56, math.MaxUint64 - 16, math.MaxUint64 - 15, math.MaxUint64}
	for _, seg := range segs {
		for _, past := range pasts {
			b := prefix.Put(prefix.Put(nil, seg), past)
			got, size, e := Get(append(b, 7))
			if seg <= 16777215 && past <= 16777200 {
				if got != (api.Loc{Seg: uint32(seg), Off: uint32(past + 16)}) || size != len(b) || e != api.OK {
					t.Errorf("Get(% x) = %v, %d, %d", b, got, size, e)
				}
				continue
			}
			if got != (api.Loc{}) || size != 0 || e != api.ErrForm {
				t.Errorf("Get(% x) = %v, %d, %d", b, got, size, e)
			}
		}
	}
}

// P3.2: what prefix.Get says is told, of the first number, then of the second one, ahead of what both are.
func TestGetErrors(t *testing.T) {
	for _, c := range []struct {
		b []byte
		e api.Errno
	}{
		{nil, api.ErrShort},
		{[]byte{}, api.ErrShort},
		{[]byte{0x81}, api.ErrShort},
		{[]byte{3}, api.ErrShort},
		{[]byte{3, 0x80}, api.ErrShort},
		{[]byte{3, 0xff, 0, 0, 0, 0, 0, 0, 0}, api.ErrShort},
		{[]byte{0x80, 0}, api.ErrForm},
		{[]byte{0x80, 0x7f, 0}, api.ErrForm},
		{[]byte{0x80, 3, 0xff}, api.ErrForm},
		{[]byte{3, 0x80, 0x7f}, api.ErrForm},
		{[]byte{0xe1, 0, 0, 0}, api.ErrShort},       // 2^24, and nothing behind
		{[]byte{0xe1, 0, 0, 0, 0x80}, api.ErrShort}, // 2^24, and a piece of a form behind
		{[]byte{0xe1, 0, 0, 0, 0}, api.ErrForm},
		{[]byte{0xe1, 0, 0, 0, 0x80, 0x7f}, api.ErrForm},
	} {
		if got, size, e := Get(c.b); got != (api.Loc{}) || size != 0 || e != c.e {
			t.Errorf("Get(% x) = %v, %d, %d, want %d", c.b, got, size, e, c.e)
		}
	}
}

// P3.3, P3.4: a new set is empty, and none is another's.
func TestNew(t *testing.T) {
	s, other := New(), New()
	if s.Len() != 0 || len(s.Of(3)) != 0 || s.Add(api.Loc{Seg: 3, Off: 16}, 1) != api.OK || other.Len() != 0 {
		t.Error("a new set is not empty, or shares what it has")
	}
}

// P3.3, P3.4: sets that New did not make.
func TestNoSet(t *testing.T) {
	l, to := api.Loc{Seg: 3, Off: 16}, api.Loc{Seg: 3, Off: 90}
	for _, s := range []*Set{nil, {}, new(Set)} {
		for _, x := range []api.Loc{l, {}, {Seg: 3}, {Seg: math.MaxUint32, Off: math.MaxUint32}} {
			if s.Add(x, 1) != api.ErrNil || s.Move(x, to) != api.ErrNil || s.Move(to, x) != api.ErrNil || s.Drop(x) != api.ErrNil {
				t.Error("not ErrNil of", x)
			}
			if n, is := s.At(x); n != 0 || is {
				t.Error(n, is)
			}
		}
		if s.Len() != 0 || len(s.Of(3)) != 0 || len(s.Of(0)) != 0 || s.Copy() != nil {
			t.Error("something of no set")
		}
	}
}

// setOf is a set that has what is told, and nothing else.
func setOf(t *testing.T, has map[api.Loc]uint64) *Set {
	s := New()
	for l, n := range has {
		if e := s.Add(l, n); e != api.OK {
			t.Fatal(l, e)
		}
	}
	return s
}

// same asks all that a set tells against what it should have.
func same(t *testing.T, s *Set, has map[api.Loc]uint64, places []api.Loc) {
	t.Helper()
	if s.Len() != len(has) {
		t.Fatalf("Len() = %d, want %d", s.Len(), len(has))
	}
	bySeg := map[uint32][]api.Loc{}
	for _, l := range places {
		want, should := has[l]
		if n, is := s.At(l); n != want || is != should {
			t.Fatalf("At(%v) = %d, %v, want %d, %v", l, n, is, want, should)
		}
		of := bySeg[l.Seg]
		if should {
			of = append(of, l)
		}
		bySeg[l.Seg] = of
	}
	for seg, want := range bySeg {
		slices.SortFunc(want, func(a, b api.Loc) int { return int(a.Off) - int(b.Off) })
		if got := s.Of(seg); !slices.Equal(got, want) {
			t.Fatalf("Of(%d) = %v, want %v", seg, got, want)
		}
	}
}

// P3.3: each error of Add, Move and Drop, the one that is named first where there are several; nothing has changed behind one.
func TestSetErrors(t *testing.T) {
	a, b, c, d := api.Loc{Seg: 3, Off: 16}, api.Loc{Seg: 3, Off: 90}, api.Loc{Seg: 1, Off: 500}, api.Loc{Seg: 16777215, Off: 16777216}
	has := map[api.Loc]uint64{a: 5, b: 0, c: math.MaxUint64}
	s := setOf(t, has)
	places := append(all(), a, b, c, d)
	slices.SortFunc(places, Compare)
	places = slices.Compact(places)
	for _, x := range wrong() {
		if e := s.Add(x, 1); e != api.ErrArg {
			t.Errorf("Add(%v) = %d", x, e)
		}
		for _, y := range []api.Loc{a, c, d, x} {
			if e := s.Move(x, y); e != api.ErrArg {
				t.Errorf("Move(%v, %v) = %d", x, y, e)
			}
			if e := s.Move(y, x); e != api.ErrArg {
				t.Errorf("Move(%v, %v) = %d", y, x, e)
			}
		}
		if e := s.Drop(x); e != api.ErrNone {
			t.Errorf("Drop(%v) = %d", x, e)
		}
	}
	for _, x := range []api.Loc{a, b, c} {
		if e := s.Add(x, 7); e != api.ErrThere {
			t.Errorf("Add(%v) = %d", x, e)
		}
		if e := s.Move(d, x); e != api.ErrNone {
			t.Errorf("Move(%v, %v) = %d", d, x, e)
		}
		for _, y := range []api.Loc{a, b, c} {
			want := api.ErrThere
			if x == y {
				want = api.OK
			}
			if e := s.Move(x, y); e != want {
				t.Errorf("Move(%v, %v) = %d, want %d", x, y, e, want)
			}
		}
	}
	if e := s.Move(d, d); e != api.ErrNone {
		t.Errorf("Move of what is not there to itself = %d", e)
	}
	if e := s.Drop(d); e != api.ErrNone {
		t.Errorf("Drop(%v) = %d", d, e)
	}
	same(t, s, has, places)
}

// P3.3, P3.4: each loc at which a record can stand can be added, moved to, moved from and dropped.
func TestEdgesInSet(t *testing.T) {
	s := New()
	home := api.Loc{Seg: 5, Off: 5000}
	for i, l := range those() {
		if None(l) {
			continue
		}
		n := uint64(i) << 50
		if s.Add(home, n) != api.OK || s.Move(home, l) != api.OK || s.Move(l, l) != api.OK || s.Move(l, home) != api.OK || s.Drop(home) != api.OK {
			t.Error("there and back:", l)
		}
		if e := s.Add(l, n); e != api.OK {
			t.Errorf("Add(%v) = %d", l, e)
		}
		if got, is := s.At(l); got != n || !is {
			t.Errorf("At(%v) = %d, %v", l, got, is)
		}
	}
	if want := len(those()) - 1; s.Len() != want {
		t.Errorf("Len() = %d, want %d", s.Len(), want)
	}
}

// P3.4: rising, whatever the order of adding; new memory.
func TestOf(t *testing.T) {
	chance := rand.New(rand.NewSource(1))
	s := New()
	for _, i := range chance.Perm(500) {
		if e := s.Add(api.Loc{Seg: 7, Off: uint32(16 + 3*i)}, uint64(i)); e != api.OK {
			t.Fatal(e)
		}
		if e := s.Add(api.Loc{Seg: 8, Off: uint32(16 + i)}, 0); e != api.OK {
			t.Fatal(e)
		}
	}
	got := s.Of(7)
	if len(got) != 500 || s.Len() != 1000 {
		t.Fatal(len(got), s.Len())
	}
	for i, l := range got {
		if l != (api.Loc{Seg: 7, Off: uint32(16 + 3*i)}) {
			t.Fatal(i, l)
		}
	}
	clear(got)
	if again := s.Of(7); len(again) != 500 || again[0] != (api.Loc{Seg: 7, Off: 16}) {
		t.Error("what is answered is the set's own")
	}
	for _, seg := range []uint32{0, 1, 6, 9, math.MaxUint32} {
		if got := s.Of(seg); len(got) != 0 {
			t.Errorf("Of(%d) = %v", seg, got)
		}
	}
}

// P3.4: a copy has the same, and each of the two lives apart; that of an empty set is a set.
func TestCopy(t *testing.T) {
	a, b, c := api.Loc{Seg: 3, Off: 16}, api.Loc{Seg: 3, Off: 90}, api.Loc{Seg: 1, Off: 500}
	places := []api.Loc{a, b, c}
	s := setOf(t, map[api.Loc]uint64{a: 5, c: 6})
	other := s.Copy()
	same(t, other, map[api.Loc]uint64{a: 5, c: 6}, places)
	if s.Drop(a) != api.OK || s.Add(b, 8) != api.OK || other.Move(c, b) != api.OK {
		t.Error("a set or its copy refuses")
	}
	same(t, s, map[api.Loc]uint64{b: 8, c: 6}, places)
	same(t, other, map[api.Loc]uint64{a: 5, b: 6}, places)

	empty := New().Copy()
	if empty == nil || empty.Add(a, 1) != api.OK || empty.Copy().Len() != 1 {
		t.Error("a copy of an empty set is none")
	}
}

// P3.5: there and back, and in order.
func TestBackAndInOrder(t *testing.T) {
	chance := rand.New(rand.NewSource(2))
	row := those()
	for range 400 {
		l := api.Loc{Seg: 1 + uint32(chance.Intn(api.MaxId))>>chance.Intn(24), Off: Least + uint32(chance.Intn(api.MaxSegment-Least+1))>>chance.Intn(24)}
		row = append(row, l)
	}
	slices.SortFunc(row, Compare)
	row = slices.Compact(row)
	var last uint64
	var lastBytes []byte
	for i, l := range row {
		n, e := Pack(l)
		if e != api.OK {
			t.Fatal(l, e)
		}
		if got, e := Unpack(n); got != l || e != api.OK {
			t.Errorf("Unpack(Pack(%v)) = %v, %d", l, got, e)
		}
		b, e := Put(nil, l)
		if e != api.OK {
			t.Fatal(l, e)
		}
		if got, size, e := Get(b); got != l || size != len(b) || e != api.OK {
			t.Errorf("Get(Put(%v)) = %v, %d, %d", l, got, size, e)
		}
		if i > 0 && (n <= last || bytes.Compare(b, lastBytes) <= 0) {
			t.Errorf("%v is not behind %v: %x, % x", l, row[i-1], n, b)
		}
		last, lastBytes = n, b
	}
}

// P3.5, P3.2: of any bytes that Get takes, Put tells these again.
func TestBackFromBytes(t *testing.T) {
	chance := rand.New(rand.NewSource(3))
	taken := 0
	for range 20000 {
		b := make([]byte, 20)
		for i := range b {
			b[i] = byte(chance.Uint32()) >> chance.Intn(8)
		}
		l, size, e := Get(b)
		if e != api.OK {
			continue
		}
		taken++
		if got, e := Put(nil, l); !bytes.Equal(got, b[:size]) || e != api.OK {
			t.Errorf("Get(% x) = %v, %d; Put = % x, %d", b, l, size, got, e)
		}
	}
	if taken < 5000 {
		t.Error("only", taken, "were taken")
	}
}

// P3.6: calls by chance, on few places so that they meet, against a plain list of what should be there.
func TestWhatASetHas(t *testing.T) {
	chance := rand.New(rand.NewSource(4))
	places := []api.Loc{{}, {Seg: 0, Off: 16}, {Seg: 2, Off: 15}, {Seg: 1 << 24, Off: 16}}
	for seg := uint32(1); seg <= 3; seg++ {
		for off := uint32(16); off < 20; off++ {
			places = append(places, api.Loc{Seg: seg, Off: off})
		}
	}
	s, has := New(), map[api.Loc]uint64{}
	done := [4]int{}
	for step := range 20000 {
		l, to := places[chance.Intn(len(places))], places[chance.Intn(len(places))]
		n := chance.Uint64()
		var got, want api.Errno
		call := chance.Intn(4)
		old, is := has[l]
		_, there := has[to]
		switch call {
		case 0:
			got = s.Add(l, n)
			switch {
			case !may(l) || l.Seg == 0:
				want = api.ErrArg
			case is:
				want = api.ErrThere
			default:
				has[l] = n
			}
		case 1:
			got = s.Move(l, to)
			switch {
			case !may(l) || l.Seg == 0 || !may(to) || to.Seg == 0:
				want = api.ErrArg
			case !is:
				want = api.ErrNone
			case there && to != l:
				want = api.ErrThere
			default:
				delete(has, l)
				has[to] = old
			}
		case 2:
			got = s.Drop(l)
			if !is {
				want = api.ErrNone
			}
			delete(has, l)
		case 3:
			apart := s
			s = s.Copy()
			apart.Drop(l)
			apart.Add(to, n)
		}
		if got != want {
			t.Fatalf("step %d, call %d of %v, %v: %d, want %d", step, call, l, to, got, want)
		}
		if got == api.OK {
			done[call]++
		}
		same(t, s, has, places)
	}
	if slices.Min(done[:]) < 500 {
		t.Error("too few calls were done:", done)
	}
}
