package record

import (
	"bytes"
	"encoding/binary"
	"fmt"
	"hash/crc32"
	"math"
	"math/rand"
	"testing"

	"hourbook/api"
)

// may is what the chapter's words say, with the numbers of the other chapters written out.
func may(r api.Record) bool {
	if r.Seq < 1 || r.Seq > 1099511627776 || len(r.Key) < 1 || len(r.Key) > 64 {
		return false
	}
	if r.Kind != 1 && r.Kind != 2 || len(r.Value) > 1024 || r.Kind == 2 && len(r.Value) > 0 {
		return false
	}
	if r.Prev.Seg == 0 {
		return r.Prev.Off == 0
	}
	return r.Prev.Seg <= 16777215 && r.Prev.Off >= 16 && r.Prev.Off <= 16777216
}

// covered is a row with its sum behind it, told by another program's sums.
func covered(row []byte) []byte {
	sum := crc32.Checksum(row, crc32.MakeTable(crc32.Castagnoli))
	return binary.LittleEndian.AppendUint32(bytes.Clone(row), sum)
}

// headOf is a head, covered, that tells any numbers: those that no record has, too.
func headOf(kind, keyLong, valueLong int, seq uint64, seg, off uint32) []byte {
	var row []byte
	row = append(row, byte(kind), byte(keyLong))
	row = binary.LittleEndian.AppendUint16(row, uint16(valueLong))
	row = append(row, binary.LittleEndian.AppendUint64(nil, seq)[:6]...)
	row = append(row, binary.LittleEndian.AppendUint32(nil, seg)[:3]...)
	row = binary.LittleEndian.AppendUint32(row, off)
	return covered(row)
}

// runOf is a record's run, as the words tell it.
func runOf(r api.Record) []byte {
	row := headOf(r.Kind, len(r.Key), len(r.Value), r.Seq, r.Prev.Seg, r.Prev.Off)
	row = append(row, r.Key...)
	row = append(row, r.Value...)
	return covered(row)
}

// of is a row of n bytes that are not all one.
func of(n int) []byte {
	b := make([]byte, n)
	for i := range b {
		b[i] = byte(i*7 + n)
	}
	return b
}

// edges are records, each with one thing at an edge of what may be, or beyond it.
func edges() []api.Record {
	plain := api.Record{Seq: 1, Kind: api.Put, Key: []byte("k"), Value: []byte("v")}
	out := []api.Record{plain, {}}
	with := func(change func(r *api.Record)) {
		r := plain
		change(&r)
		out = append(out, r)
	}
	for _, seq := range []uint64{0, 1, 2, 255, 256, 1<<40 - 1, 1 << 40, 1<<40 + 1, 1<<48 - 1, 1 << 48, 1<<48 + 1, 1 << 63, math.MaxUint64} {
		with(func(r *api.Record) { r.Seq = seq })
	}
	for _, kind := range []int{math.MinInt, -255, -254, -1, 0, 1, 2, 3, 255, 256, 257, 258, 1<<32 + 1, math.MaxInt} {
		with(func(r *api.Record) { r.Kind = kind })
		with(func(r *api.Record) { r.Kind, r.Value = kind, nil })
	}
	for _, n := range []int{0, 1, 2, 63, 64, 65, 255, 256, 257, 320, 1025} {
		with(func(r *api.Record) { r.Key = of(n) })
		with(func(r *api.Record) { r.Kind, r.Key, r.Value = api.Delete, of(n), []byte{} })
	}
	for _, n := range []int{0, 1, 2, 255, 256, 1023, 1024, 1025, 65535, 65536, 65537} {
		with(func(r *api.Record) { r.Value = of(n) })
		with(func(r *api.Record) { r.Kind, r.Value = api.Delete, of(n) })
	}
	for _, seg := range []uint32{0, 1, 2, 256, 1<<24 - 1, 1 << 24, 1<<24 + 1, math.MaxUint32} {
		for _, off := range []uint32{0, 1, 15, 16, 17, 1 << 16, 1<<24 - 1, 1 << 24, 1<<24 + 1, math.MaxUint32} {
			with(func(r *api.Record) { r.Prev = api.Loc{Seg: seg, Off: off} })
		}
	}
	with(func(r *api.Record) {
		*r = api.Record{Seq: 1 << 40, Kind: api.Put, Key: of(64), Value: of(1024), Prev: api.Loc{Seg: 1<<24 - 1, Off: 1 << 24}}
	})
	return out
}

// those are the edges that may be.
func those() []api.Record {
	var out []api.Record
	for _, r := range edges() {
		if may(r) {
			out = append(out, r)
		}
	}
	return out
}

// byChance is a record that may be.
func byChance(chance *rand.Rand) api.Record {
	r := api.Record{Seq: 1 + uint64(chance.Int63n(1<<40)), Kind: api.Put, Key: make([]byte, 1+chance.Intn(64))}
	chance.Read(r.Key)
	if chance.Intn(4) == 0 {
		r.Kind = api.Delete
	} else {
		r.Value = make([]byte, chance.Intn(100))
		chance.Read(r.Value)
	}
	if chance.Intn(4) != 0 {
		r.Prev = api.Loc{Seg: 1 + uint32(chance.Intn(1<<24-1)), Off: 16 + uint32(chance.Intn(1<<24-15))}
	}
	return r
}

// name is a record in few words.
func name(r api.Record) string {
	return fmt.Sprintf("{Seq %d Kind %d Key %d Value %d Prev %v}", r.Seq, r.Kind, len(r.Key), len(r.Value), r.Prev)
}

// fine asks that b begins with r.
func fine(t *testing.T, b []byte, r api.Record) {
	t.Helper()
	got, size, e := Get(b)
	if e != api.OK || size != 25+len(r.Key)+len(r.Value) {
		t.Errorf("Get of %s: %d, %d", name(r), size, e)
		return
	}
	if got.Seq != r.Seq || got.Kind != r.Kind || got.Prev != r.Prev || !bytes.Equal(got.Key, r.Key) || !bytes.Equal(got.Value, r.Value) {
		t.Errorf("Get of %s: %s", name(r), name(got))
	}
}

// refused asks that b begins with no record, and that nothing else is told beside that than size.
func refused(t *testing.T, b []byte, size int, want api.Errno) {
	t.Helper()
	r, got, e := Get(b)
	if got != size || e != want {
		t.Errorf("Get(% x) = %d, %d, want %d, %d", b[:min(len(b), 40)], got, e, size, want)
	}
	if r.Seq != 0 || r.Kind != 0 || len(r.Key) != 0 || len(r.Value) != 0 || r.Prev != (api.Loc{}) {
		t.Errorf("Get(% x) tells %s beside %d", b[:min(len(b), 40)], name(r), e)
	}
}

// P8.2, P8.3: the chapter's examples, and the constants.
func TestExamples(t *testing.T) {
	if Head != 21 || Most != 1113 {
		t.Error(Head, Most)
	}
	r := api.Record{Seq: 1, Kind: api.Put, Key: []byte("k"), Value: []byte("v")}
	got, e := Put(r)
	front := []byte{1, 1, 1, 0, 1, 0, 0, 0, 0, 0, 0, 0, 0, 0, 0, 0, 0}
	want := covered(append(covered(front), 0x6b, 0x76))
	if e != api.OK || len(got) != 27 || !bytes.Equal(got, want) {
		t.Errorf("% x, %d, want % x", got, e, want)
	}
	fine(t, got, r)
	refused(t, make([]byte, 21), 0, api.ErrBad)
}

// P8.1: at each edge.
func TestMay(t *testing.T) {
	is := 0
	for _, r := range edges() {
		if got := May(r); got != may(r) {
			t.Errorf("May(%s) = %v", name(r), got)
		}
		if may(r) {
			is++
		}
	}
	if is < 40 || is > len(edges())-40 {
		t.Error("edges of one kind alone:", is)
	}
}

// P8.1: of any record, of those that may not be, too.
func TestSize(t *testing.T) {
	most := 0
	for _, r := range edges() {
		if got := Size(r); got != 21+len(r.Key)+len(r.Value)+4 {
			t.Errorf("Size(%s) = %d", name(r), got)
		}
		if may(r) {
			most = max(most, Size(r))
			if run, e := Put(r); len(run) != Size(r) {
				t.Errorf("%s: %d bytes, %d", name(r), len(run), e)
			}
		}
	}
	if most != Most {
		t.Error(most)
	}
}

// P8.1: a record is the same as itself and its copy; a change of any one thing makes it another one. None and empty are one.
func TestSame(t *testing.T) {
	for i, a := range edges() {
		for j, b := range edges() {
			want := a.Seq == b.Seq && a.Kind == b.Kind && a.Prev == b.Prev && string(a.Key) == string(b.Key) && string(a.Value) == string(b.Value)
			if got := Same(a, b); got != want {
				t.Errorf("Same(%s, %s) = %v", name(a), name(b), got)
			}
			if i == j && !Same(a, b) {
				t.Error(name(a))
			}
		}
	}
	r := api.Record{Seq: 5, Kind: api.Put, Key: []byte("key"), Value: []byte("value"), Prev: api.Loc{Seg: 1, Off: 16}}
	for i, change := range []func(r *api.Record){
		func(r *api.Record) { r.Seq = 6 },
		func(r *api.Record) { r.Kind = api.Delete },
		func(r *api.Record) { r.Key = []byte("kez") },
		func(r *api.Record) { r.Key = []byte("ke") },
		func(r *api.Record) { r.Value = []byte("Value") },
		func(r *api.Record) { r.Value = nil },
		func(r *api.Record) { r.Key, r.Value = []byte("keyv"), []byte("alue") },
		func(r *api.Record) { r.Prev.Seg = 2 },
		func(r *api.Record) { r.Prev.Off = 17 },
	} {
		other := r
		change(&other)
		if Same(r, other) || Same(other, r) {
			t.Error(i)
		}
	}
	none, empty := r, r
	none.Key, none.Value, empty.Key, empty.Value = nil, nil, []byte{}, []byte{}
	if !Same(none, empty) {
		t.Error("none and empty")
	}
}

// P8.2: at each edge; what may not be has no run.
func TestPut(t *testing.T) {
	for _, r := range edges() {
		got, e := Put(r)
		if !may(r) {
			if len(got) != 0 || e != api.ErrArg {
				t.Errorf("Put(%s) = %d bytes, %d", name(r), len(got), e)
			}
			continue
		}
		if e != api.OK || !bytes.Equal(got, runOf(r)) {
			t.Errorf("Put(%s) = % x, %d", name(r), got[:min(len(got), 40)], e)
		}
	}
}

// P8.3, P8.4: a run is read back, whatever stands behind it; each beginning of it is torn.
func TestTorn(t *testing.T) {
	for _, r := range those() {
		run := runOf(r)
		for _, behind := range [][]byte{nil, {0}, {0xff, 0xff, 0xff, 0xff, 0xff}, run, of(2000)} {
			fine(t, append(bytes.Clone(run), behind...), r)
		}
		for n := range run {
			refused(t, run[:n], 0, api.ErrTorn)
		}
	}
	refused(t, nil, 0, api.ErrTorn)
}

// P8.3: fewer bytes than a head has are torn, whatever they are; from there on a head that is not right is bad, however few bytes it tells, or stand behind it.
func TestFewBytes(t *testing.T) {
	for n := range 40 {
		for _, c := range []byte{0, 1, 2, 0xff} {
			row := bytes.Repeat([]byte{c}, n)
			if n < 21 {
				refused(t, row, 0, api.ErrTorn)
			} else {
				refused(t, row, 0, api.ErrBad)
			}
		}
	}
	run := runOf(api.Record{Seq: 9, Kind: api.Put, Key: of(20), Value: of(30)})
	for at := range 21 {
		wrong := bytes.Clone(run)
		wrong[at] ^= 0x10
		for n := 21; n <= len(wrong); n++ {
			refused(t, wrong[:n], 0, api.ErrBad)
		}
	}
}

// P8.3: a right head that tells what no record has is bad, and no size is told: ahead of asking whether enough bytes stand there, and whatever stands there.
func TestHeads(t *testing.T) {
	wrong, right := 0, 0
	for _, kind := range []int{0, 1, 2, 3, 255} {
		for _, keyLong := range []int{0, 1, 64, 65, 255} {
			for _, valueLong := range []int{0, 1, 1024, 1025, 65535} {
				for _, seq := range []uint64{0, 1, 1 << 40, 1<<40 + 1, 1<<48 - 1} {
					for _, l := range []api.Loc{{}, {Off: 16}, {Seg: 1}, {Seg: 1, Off: 15}, {Seg: 1, Off: 16}, {Seg: 1<<24 - 1, Off: 1 << 24}, {Seg: 1, Off: 1<<24 + 1}, {Seg: 1, Off: math.MaxUint32}} {
						r := api.Record{Seq: seq, Kind: kind, Key: of(keyLong), Value: of(valueLong), Prev: l}
						head := headOf(kind, keyLong, valueLong, seq, l.Seg, l.Off)
						if may(r) {
							right++
							refused(t, head, 0, api.ErrTorn)
							continue
						}
						wrong++
						refused(t, head, 0, api.ErrBad)
						if seq == 1 || l == (api.Loc{}) {
							refused(t, runOf(r), 0, api.ErrBad)
						}
					}
				}
			}
		}
	}
	if right == 0 || wrong == 0 {
		t.Error(right, wrong)
	}
}

// P8.3: behind a right head whatever is not the run is bad, with the run's size; bytes behind the run do not matter.
func TestBad(t *testing.T) {
	for _, r := range those() {
		run := runOf(r)
		for _, at := range []int{21, 21 + len(r.Key) - 1, 21 + len(r.Key), len(run) - 4, len(run) - 1} {
			for _, behind := range [][]byte{nil, {0}, run} {
				wrong := append(bytes.Clone(run), behind...)
				wrong[at]++
				refused(t, wrong, len(run), api.ErrBad)
			}
		}
		// The key and the value with the sum of these alone, the head not counted in.
		refused(t, append(bytes.Clone(run[:21]), covered(run[21:len(run)-4])...), len(run), api.ErrBad)
		refused(t, append(bytes.Clone(run[:21]), make([]byte, len(run)-21)...), len(run), api.ErrBad)
	}
}

// turned is row with the bits from at on turned where pattern has ones.
func turned(row []byte, at int, pattern uint32) []byte {
	out := bytes.Clone(row)
	for i := range 32 {
		if pattern>>i&1 != 0 {
			out[(at+i)/8] ^= 1 << ((at + i) % 8)
		}
	}
	return out
}

// turnedIsBad turns row's bits at at, so far as they stand in the run of size bytes, and asks what Get tells.
func turnedIsBad(t *testing.T, row []byte, size, at int, pattern uint32) {
	t.Helper()
	pattern &= uint32(1<<min(32, 8*size-at) - 1)
	if pattern == 0 {
		return
	}
	told := size
	for i := range 32 {
		if pattern>>i&1 != 0 && at+i < 8*21 {
			told = 0
		}
	}
	refused(t, turned(row, at, pattern), told, api.ErrBad)
}

// P8.5: each place, by each bit, each pair of bits, all ones of each length, and patterns by chance; in a longer run at its places by chance.
func TestTurned(t *testing.T) {
	chance := rand.New(rand.NewSource(8))
	small := runOf(api.Record{Seq: 300, Kind: api.Put, Key: []byte("key"), Value: []byte("value"), Prev: api.Loc{Seg: 3, Off: 77}})
	for _, behind := range [][]byte{nil, small} {
		row := append(bytes.Clone(small), behind...)
		for at := range 8 * len(small) {
			for i := range 32 {
				turnedIsBad(t, row, len(small), at, 1|1<<i)
				turnedIsBad(t, row, len(small), at, math.MaxUint32>>i)
				turnedIsBad(t, row, len(small), at, chance.Uint32())
			}
		}
	}
	for range 2000 {
		r := byChance(chance)
		run := runOf(r)
		row := append(bytes.Clone(run), of(chance.Intn(3)*20)...)
		turnedIsBad(t, row, len(run), chance.Intn(8*len(run)), chance.Uint32())
		turnedIsBad(t, row, len(run), chance.Intn(8*21), chance.Uint32())
		turnedIsBad(t, row, len(run), 8*len(run)-1-chance.Intn(32), chance.Uint32())
	}
}

// P8.6: what Get tells, put again, is what it read: of runs, and of bytes by chance with a right head or right sums.
func TestBack(t *testing.T) {
	chance := rand.New(rand.NewSource(86))
	read := 0
	for range 20000 {
		row := headOf(chance.Intn(4), chance.Intn(70), chance.Intn(3), uint64(chance.Intn(4)), uint32(chance.Intn(2)), uint32(chance.Intn(3)*16))
		row = covered(append(row, of(chance.Intn(70))...))
		if chance.Intn(2) == 0 {
			row = runOf(byChance(chance))
		}
		row = append(row, of(chance.Intn(9))...)
		r, size, e := Get(row)
		if e != api.OK {
			continue
		}
		read++
		if back, e := Put(r); e != api.OK || !bytes.Equal(back, row[:size]) {
			t.Errorf("Put(Get(% x)) = % x, %d", row, back, e)
		}
		if again, _, _ := Get(row); !Same(again, r) {
			t.Errorf("% x: %s, then %s", row, name(r), name(again))
		}
	}
	if read < 1000 {
		t.Error("read few:", read)
	}
}

// P8.6: no run is another one's beginning.
func TestNoBeginning(t *testing.T) {
	chance := rand.New(rand.NewSource(6))
	all := those()
	for range 200 {
		all = append(all, byChance(chance))
	}
	var runs [][]byte
	for _, r := range all {
		run, e := Put(r)
		if e != api.OK {
			t.Fatal(name(r), e)
		}
		runs = append(runs, run)
	}
	for i, a := range runs {
		for j, b := range runs {
			if !Same(all[i], all[j]) && bytes.HasPrefix(a, b) {
				t.Errorf("%s begins with %s", name(all[i]), name(all[j]))
			}
		}
	}
}

// R3, P8.3: what is told is new memory, and what is handed in stays as it was.
func TestNewMemory(t *testing.T) {
	r := api.Record{Seq: 7, Kind: api.Put, Key: []byte("key"), Value: []byte("value"), Prev: api.Loc{Seg: 2, Off: 20}}
	run, _ := Put(r)
	run[21], run[25] = 'x', 'y'
	if string(r.Key) != "key" || string(r.Value) != "value" {
		t.Error("Put shares:", r)
	}
	row := append(runOf(r), 1, 2, 3)
	was := bytes.Clone(row)
	got, size, e := Get(row)
	if size != len(was)-3 || e != api.OK {
		t.Fatal(size, e)
	}
	_ = append(got.Key, "zzzzzz"...)
	_ = append(got.Value, "zzzzzz"...)
	if !bytes.Equal(row, was) || !Same(got, r) {
		t.Errorf("an append changes %s or % x", name(got), row)
	}
	got.Key[0], got.Value[0] = 'x', 'y'
	if !bytes.Equal(row, was) || string(got.Value) != "yalue" {
		t.Errorf("a change of what was told changes % x", row)
	}
	again, _, _ := Get(row)
	clear(row)
	if !Same(again, r) {
		t.Errorf("a change of the bytes changes %s", name(again))
	}
}

// R1: any bytes have an answer, which tells no more than stands there.
func TestAnyBytes(t *testing.T) {
	chance := rand.New(rand.NewSource(1))
	for range 20000 {
		row := make([]byte, chance.Intn(80))
		chance.Read(row)
		if chance.Intn(2) == 0 && len(row) >= 21 {
			copy(row, covered(row[:17]))
		}
		r, size, e := Get(row)
		switch e {
		case api.OK:
			fine(t, row, r)
		case api.ErrTorn:
			refused(t, row, 0, api.ErrTorn)
		case api.ErrBad:
			if size > len(row) {
				t.Errorf("% x: %d", row, size)
			}
			refused(t, row, size, api.ErrBad)
		default:
			t.Errorf("% x: %d", row, e)
		}
	}
}
