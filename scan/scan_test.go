package scan

import (
	"bytes"
	"encoding/binary"
	"fmt"
	"hash/crc32"
	"math"
	"math/rand"
	"reflect"
	"slices"
	"testing"

	"hourbook/api"
)

// covered is a row with its sum behind it, told by another program's sums.
func covered(row []byte) []byte {
	sum := crc32.Checksum(row, crc32.MakeTable(crc32.Castagnoli))
	return binary.LittleEndian.AppendUint32(bytes.Clone(row), sum)
}

// topOf is the head of a file of that kind and id, as chapter 10 tells it.
func topOf(kind byte, id uint32) []byte {
	return covered(binary.LittleEndian.AppendUint32(append([]byte("hourbk1"), kind), id))
}

// runOf is a record's run, as chapter 8 tells it; also of what no record may be.
func runOf(r api.Record) []byte {
	row := []byte{byte(r.Kind), byte(len(r.Key))}
	row = binary.LittleEndian.AppendUint16(row, uint16(len(r.Value)))
	row = append(row, binary.LittleEndian.AppendUint64(nil, r.Seq)[:6]...)
	row = append(row, binary.LittleEndian.AppendUint32(nil, r.Prev.Seg)[:3]...)
	row = binary.LittleEndian.AppendUint32(row, r.Prev.Off)
	row = append(covered(row), r.Key...)
	return covered(append(row, r.Value...))
}

// small is a record whose run has 27 bytes.
func small(seq uint64) api.Record {
	return api.Record{Seq: seq, Kind: api.Put, Key: []byte{byte(seq)}, Value: []byte("v")}
}

// great is a record whose run has 1113 bytes: none has more.
func great(seq uint64) api.Record {
	return api.Record{Seq: seq, Kind: api.Put, Key: bytes.Repeat([]byte{1}, 64), Value: bytes.Repeat([]byte{2}, 1024), Prev: api.Loc{Seg: 1<<24 - 1, Off: 1 << 24}}
}

// badOf is r's run with its last byte turned: bad, of known size.
func badOf(r api.Record) []byte {
	run := runOf(r)
	run[len(run)-1] ^= 0x40
	return run
}

// byChance is a record of that number.
func byChance(chance *rand.Rand, seq uint64) api.Record {
	r := api.Record{Seq: seq, Kind: api.Put, Key: make([]byte, 1+chance.Intn(64))}
	chance.Read(r.Key)
	if chance.Intn(4) == 0 {
		r.Kind = api.Delete
	} else {
		r.Value = make([]byte, chance.Intn(1+chance.Intn(1025)))
		chance.Read(r.Value)
	}
	if chance.Intn(2) == 0 {
		r.Prev = api.Loc{Seg: 1 + uint32(chance.Intn(1<<24-1)), Off: 16 + uint32(chance.Intn(1<<24-15))}
	}
	return r
}

// segment is a segment's bytes, and what was laid there; laid is what a scan of them is to find.
type segment struct {
	id   uint32
	all  []byte
	laid []Found
}

func segmentOf(id uint32, records ...api.Record) segment {
	x := segment{id: id, all: topOf(1, id)}
	for _, r := range records {
		run := runOf(r)
		x.laid = append(x.laid, Found{At: api.Loc{Seg: id, Off: uint32(len(x.all))}, Size: len(run), Record: r})
		x.all = append(x.all, run...)
	}
	return x
}

// smalls is a segment of records of these numbers.
func smalls(id uint32, seqs ...uint64) segment {
	var records []api.Record
	for _, seq := range seqs {
		records = append(records, small(seq))
	}
	return segmentOf(id, records...)
}

// anySegment is a segment of some few records of rising numbers.
func anySegment(chance *rand.Rand, most int) segment {
	var records []api.Record
	seq := uint64(chance.Intn(1 + chance.Intn(1<<30)))
	for range chance.Intn(most + 1) {
		seq += 1 + uint64(chance.Intn(1+chance.Intn(5)))
		records = append(records, byChance(chance, seq))
	}
	return segmentOf(1+uint32(chance.Intn(1<<24-1)), records...)
}

// seal is what is known of the segment as it was laid.
func (x segment) seal() api.Seal {
	s := api.Seal{Id: x.id, Size: uint32(len(x.all)), Many: uint32(len(x.laid))}
	if len(x.laid) > 0 {
		s.First, s.Last = x.laid[0].Record.Seq, x.laid[len(x.laid)-1].Record.Seq
	}
	return s
}

// same asks that a and b were found at one place, and are one.
func same(a, b Found) bool {
	return a.At == b.At && a.Size == b.Size && a.Record.Seq == b.Record.Seq && a.Record.Kind == b.Record.Kind && a.Record.Prev == b.Record.Prev &&
		bytes.Equal(a.Record.Key, b.Record.Key) && bytes.Equal(a.Record.Value, b.Record.Value)
}

// sameScan asks for all of a scan.
func sameScan(a, b Scan) bool {
	return a.Id == b.Id && slices.EqualFunc(a.Found, b.Found, same) && slices.Equal(a.Passed, b.Passed) && a.End == b.End && a.Why == b.Why
}

// inShort is a scan in few words.
func inShort(s Scan) string {
	out := fmt.Sprintf("id %d, found", s.Id)
	for _, f := range s.Found {
		out += fmt.Sprintf(" %d at %v (%d)", f.Record.Seq, f.At, f.Size)
	}
	return out + fmt.Sprintf(", passed %v, end %d, why %d", s.Passed, s.End, s.Why)
}

// is asks that b is scanned as want tells.
func is(t *testing.T, b []byte, want Scan) Scan {
	t.Helper()
	was := bytes.Clone(b)
	got := Of(want.Id, b)
	if !sameScan(got, want) {
		t.Errorf("%s\nwant %s", inShort(got), inShort(want))
	}
	if !bytes.Equal(b, was) {
		t.Error("what was handed in is changed")
	}
	return got
}

// lost asks that these periods may be lost.
func lost(t *testing.T, s Scan, seal api.Seal, want ...Period) {
	t.Helper()
	if got := s.Lost(seal); !slices.Equal(got, want) {
		t.Errorf("Lost(%v) of %s: %v, want %v", seal, inShort(s), got, want)
	}
}

// slowGet is what b begins with, as chapter 8 tells it.
func slowGet(b []byte) (api.Record, int, api.Errno) {
	none := api.Record{}
	if len(b) < 21 {
		return none, 0, api.ErrTorn
	}
	if !bytes.Equal(covered(b[:17]), b[:21]) {
		return none, 0, api.ErrBad
	}
	number := func(at, size int) (n uint64) {
		for i := range size {
			n += uint64(b[at+i]) << (8 * i)
		}
		return n
	}
	kind, keyLong, valueLong, seq := number(0, 1), int(number(1, 1)), int(number(2, 2)), number(4, 6)
	prev := api.Loc{Seg: uint32(number(10, 3)), Off: uint32(number(13, 4))}
	right := (kind == 1 || kind == 2 && valueLong == 0) && keyLong >= 1 && keyLong <= 64 && valueLong <= 1024 && seq >= 1 && seq <= 1<<40
	if prev.Seg == 0 {
		right = right && prev.Off == 0
	} else {
		right = right && prev.Off >= 16 && prev.Off <= 1<<24
	}
	if !right {
		return none, 0, api.ErrBad
	}
	size := 21 + keyLong + valueLong + 4
	if len(b) < size {
		return none, 0, api.ErrTorn
	}
	if !bytes.Equal(covered(b[:size-4]), b[:size]) {
		return none, size, api.ErrBad
	}
	return api.Record{Seq: seq, Kind: int(kind), Key: b[21 : 21+keyLong], Value: b[21+keyLong : size-4], Prev: prev}, size, api.OK
}

// slow is the scan of some few bytes, as the words tell it.
func slow(id uint32, b []byte) Scan {
	s := Scan{Id: id}
	if len(b) < 16 {
		s.Why = api.ErrTorn
		return s
	}
	if id < 1 || id > 1<<24-1 || !bytes.Equal(b[:16], topOf(1, id)) {
		s.Why = api.ErrBad
		return s
	}
	last := uint64(0)
	for s.End = 16; s.End < len(b); {
		r, size, e := slowGet(b[s.End:])
		switch {
		case e == api.OK && r.Seq > last:
			last = r.Seq
			s.Found = append(s.Found, Found{At: api.Loc{Seg: id, Off: uint32(s.End)}, Size: size, Record: r})
			s.End += size
		case e == api.ErrBad && size > 0:
			s.Passed = append(s.Passed, s.End)
			s.End += size
		case e == api.ErrTorn:
			s.Why = api.ErrTorn
			return s
		default:
			s.Why = api.ErrBad
			return s
		}
	}
	return s
}

// slowLost is what may be lost, number by number, as the words tell it.
func slowLost(s Scan, seal api.Seal) []Period {
	if seal.Many == 0 {
		return nil
	}
	may := map[uint64]bool{}
	mark := func(above, below uint64) {
		for n := above + 1; n < below; n++ {
			may[n] = true
		}
	}
	foreign := s.Id != seal.Id
	if len(s.Found) > 0 {
		first, last := s.Found[0].Record.Seq, s.Found[len(s.Found)-1].Record.Seq
		foreign = foreign || first < seal.First || first > seal.Last || last < seal.First || last > seal.Last
	}
	if foreign {
		mark(seal.First-1, seal.Last+1)
	} else {
		// All ends of what is between: ahead of all, each found one, behind all.
		seqs, offs := []uint64{seal.First - 1}, []int{-1}
		for _, f := range s.Found {
			seqs, offs = append(seqs, f.Record.Seq), append(offs, int(f.At.Off))
		}
		broken := s.Why != api.OK || s.End != int(seal.Size) || len(s.Found)+len(s.Passed) != int(seal.Many)
		if broken {
			mark(seqs[len(seqs)-1], seal.Last+1)
		}
		seqs, offs = append(seqs, seal.Last+1), append(offs, math.MaxInt)
		for _, p := range s.Passed {
			for i := range len(offs) - 1 {
				if offs[i] < p && p < offs[i+1] {
					mark(seqs[i], seqs[i+1])
				}
			}
		}
	}
	return periods(seal, may)
}

// periods are the seal's numbers that are marked: between two of them is a number that was found, so that each row of marked ones is one.
func periods(seal api.Seal, may map[uint64]bool) []Period {
	var out []Period
	for n := seal.First; n <= seal.Last; n++ {
		if !may[n] {
			continue
		}
		if len(out) > 0 && out[len(out)-1].To == n-1 {
			out[len(out)-1].To = n
		} else {
			out = append(out, Period{n, n})
		}
	}
	return out
}

// P12.1, P12.2: the chapter's examples.
func TestExamples(t *testing.T) {
	x := smalls(3, 1, 2, 5)
	if len(x.all) != 97 {
		t.Fatal(len(x.all))
	}
	places := func(s Scan) (out []uint32) {
		for _, f := range s.Found {
			out = append(out, f.At.Off)
		}
		return out
	}
	s := Of(3, x.all)
	if !slices.Equal(places(s), []uint32{16, 43, 70}) || s.End != 97 || s.Why != api.OK {
		t.Error(inShort(s))
	}
	s = Of(3, x.all[:96])
	if !slices.Equal(places(s), []uint32{16, 43}) || s.End != 70 || s.Why != api.ErrTorn {
		t.Error(inShort(s))
	}
	x.all[69] ^= 1
	s = Of(3, x.all)
	if !slices.Equal(places(s), []uint32{16, 70}) || !slices.Equal(s.Passed, []int{43}) {
		t.Error(inShort(s))
	}
	lost(t, s, x.seal(), Period{2, 4})
}

// P12.1: of a head that is not right nothing is found, whatever stands behind it.
func TestNoHead(t *testing.T) {
	runs := append(runOf(small(1)), badOf(small(2))...)
	ask := func(id uint32, top []byte, why api.Errno) {
		t.Helper()
		s := is(t, append(bytes.Clone(top), runs...), Scan{Id: id, Why: why})
		if s.Seal() != (api.Seal{Id: id}) {
			t.Error(s.Seal())
		}
	}
	for _, id := range []uint32{1, 2, 255, 256, 258, 1 << 16, 1<<24 - 1} {
		ask(id, topOf(2, 0), api.ErrBad)
		ask(id, topOf(2, id), api.ErrBad)
		ask(id, topOf(1, id+1), api.ErrBad)
		ask(id, topOf(1, id^1<<24), api.ErrBad)
		ask(id, make([]byte, 16), api.ErrBad)
		ask(id, nil, api.ErrBad)
		ask(id, topOf(1, id)[:15], api.ErrBad)
		ask(id, append([]byte{0}, topOf(1, id)...), api.ErrBad)
		for n := range 16 {
			is(t, topOf(1, id)[:n], Scan{Id: id, Why: api.ErrTorn})
			is(t, make([]byte, n), Scan{Id: id, Why: api.ErrTorn})
		}
		for bit := range 8 * 16 {
			top := topOf(1, id)
			top[bit/8] ^= 1 << (bit % 8)
			ask(id, top, api.ErrBad)
		}
	}
	// What is no segment's id has no head that is right, the manifest's own one among them.
	for _, id := range []uint32{0, 1 << 24, 1<<24 + 1, math.MaxUint32} {
		ask(id, topOf(1, id), api.ErrBad)
		ask(id, topOf(2, id), api.ErrBad)
		ask(id, topOf(1, 1), api.ErrBad)
		is(t, topOf(1, id)[:15], Scan{Id: id, Why: api.ErrTorn})
	}
}

// P12.1: a head alone, by ids at the edges.
func TestHeadAlone(t *testing.T) {
	for _, id := range []uint32{1, 2, 255, 256, 1 << 16, 1<<24 - 1} {
		s := is(t, topOf(1, id), Scan{Id: id, End: 16})
		if s.Seal() != (api.Seal{Id: id, Size: 16}) {
			t.Error(s.Seal())
		}
	}
}

// P12.1: a number must be above the last one that was found; those that were passed over tell none.
func TestNumbers(t *testing.T) {
	const most = 1 << 40
	for _, c := range []struct {
		seqs  []uint64
		found int
	}{
		{[]uint64{1}, 1}, {[]uint64{most}, 1}, {[]uint64{1, 2, 3}, 3}, {[]uint64{1, most}, 2}, {[]uint64{most - 1, most}, 2},
		{[]uint64{1, 1}, 1}, {[]uint64{2, 1}, 1}, {[]uint64{2, 1, 3}, 1}, {[]uint64{2, 2, 3}, 1}, {[]uint64{5, 9, 8, 10}, 2}, {[]uint64{5, 9, 5}, 2}, {[]uint64{most, most}, 1}, {[]uint64{most, 1}, 1}, {[]uint64{256, 255}, 1}, {[]uint64{1 << 32, 1<<32 + 1, 2}, 2},
	} {
		x := smalls(7, c.seqs...)
		want := Scan{Id: 7, Found: x.laid[:c.found], End: 16 + 27*c.found}
		if c.found < len(c.seqs) {
			want.Why = api.ErrBad
		}
		s := is(t, x.all, want)
		if s.Seal() != (api.Seal{Id: 7, Size: uint32(want.End), Many: uint32(c.found), First: c.seqs[0], Last: c.seqs[c.found-1]}) {
			t.Error(s.Seal())
		}
	}
	// The bad one's head tells 9, which is nothing to the 3 behind it.
	x := smalls(7, 2, 9, 3, 3)
	copy(x.all[43:], badOf(small(9)))
	s := is(t, x.all, Scan{Id: 7, Found: []Found{x.laid[0], x.laid[2]}, Passed: []int{43}, End: 97, Why: api.ErrBad})
	if s.Seal() != (api.Seal{Id: 7, Size: 97, Many: 3, First: 2, Last: 3}) {
		t.Error(s.Seal())
	}
}

// P12.1: each of some few records whole or bad, in all ways: it goes on over the bad ones, and the seal counts them in.
func TestPassed(t *testing.T) {
	records := []api.Record{small(4), great(6), {Seq: 7, Kind: api.Delete, Key: []byte("abc")}, small(8), small(20)}
	for bad := range 1 << len(records) {
		x := segmentOf(1<<24-1, records...)
		want := Scan{Id: x.id, End: len(x.all)}
		for i, f := range x.laid {
			if bad>>i&1 == 0 {
				want.Found = append(want.Found, f)
				continue
			}
			want.Passed = append(want.Passed, int(f.At.Off))
			// A byte of the key, of the value or of the sum: behind the head it is nothing to the size.
			x.all[int(f.At.Off)+21+bad%(f.Size-21)] ^= 0x80
		}
		s := is(t, x.all, want)
		seal := api.Seal{Id: x.id, Size: uint32(len(x.all)), Many: 5}
		if len(want.Found) > 0 {
			seal.First, seal.Last = want.Found[0].Record.Seq, want.Found[len(want.Found)-1].Record.Seq
		}
		if s.Seal() != seal {
			t.Errorf("%v, want %v", s.Seal(), seal)
		}
	}
}

// P12.1: what it stops at, and why: nothing behind that is found.
func TestStops(t *testing.T) {
	zero, late, noKey, wrongKind := small(0), small(1<<40+1), small(9), small(9)
	noKey.Key, wrongKind.Kind = nil, 3
	badHead := runOf(small(9))
	badHead[5] ^= 1
	wholeBad := badOf(small(9))
	for name, c := range map[string]struct {
		at  []byte
		why api.Errno
	}{
		"few bytes 00":       {make([]byte, 20), api.ErrTorn},
		"bytes 00":           {make([]byte, 21), api.ErrBad},
		"many bytes ff":      {bytes.Repeat([]byte{0xff}, 3000), api.ErrBad},
		"a head turned":      {badHead, api.ErrBad},
		"a head turned, cut": {badHead[:20], api.ErrTorn},
		"number 0":           {runOf(zero), api.ErrBad},
		"too late a number":  {runOf(late), api.ErrBad},
		"no key":             {runOf(noKey), api.ErrBad},
		"no kind":            {runOf(wrongKind), api.ErrBad},
		"a file's head":      {append(topOf(1, 5), runOf(small(9))...), api.ErrBad},
		"a byte":             {[]byte{1}, api.ErrTorn},
		"a run's head alone": {runOf(small(9))[:21], api.ErrTorn},
		"a run cut":          {runOf(small(9))[:26], api.ErrTorn},
		"a bad run cut":      {wholeBad[:26], api.ErrTorn},
		"a great run cut":    {runOf(great(9))[:1112], api.ErrTorn},
		"a byte too much":    {append([]byte{0}, runOf(small(9))...), api.ErrBad},
	} {
		for _, seqs := range [][]uint64{nil, {1}, {3, 8}} {
			x := smalls(5, seqs...)
			b := append(bytes.Clone(x.all), c.at...)
			want := Scan{Id: 5, Found: x.laid, End: len(x.all), Why: c.why}
			s := is(t, b, want)
			if s.Seal() != x.seal() {
				t.Errorf("%s: %v, want %v", name, s.Seal(), x.seal())
			}
			if c.why == api.ErrBad {
				is(t, append(bytes.Clone(b), runOf(small(10))...), want)
			}
			// Behind a bad one that is passed over it is the same.
			b = append(append(bytes.Clone(x.all), wholeBad...), c.at...)
			is(t, b, Scan{Id: 5, Found: x.laid, Passed: []int{len(x.all)}, End: len(x.all) + 27, Why: c.why})
		}
	}
}

// filled is a segment whose bytes end at that place.
func filled(id uint32, end int) segment {
	x := segment{id: id, all: make([]byte, 0, end)}
	x.all = append(x.all, topOf(1, id)...)
	add := func(r api.Record) {
		run := runOf(r)
		x.laid = append(x.laid, Found{At: api.Loc{Seg: id, Off: uint32(len(x.all))}, Size: len(run), Record: r})
		x.all = append(x.all, run...)
	}
	for len(x.all)+2*1113 <= end {
		add(great(uint64(len(x.laid) + 1)))
	}
	half := great(uint64(len(x.laid) + 1))
	half.Value = half.Value[:(end-len(x.all))/2-89]
	add(half)
	rest := great(uint64(len(x.laid) + 1))
	rest.Value = rest.Value[:end-len(x.all)-89]
	add(rest)
	return x
}

// P12.1: a record may begin at byte MaxSegment; from the byte behind it on all is bad, but the end of all bytes, and what is torn.
func TestMaxSegment(t *testing.T) {
	const most = 16777216
	for _, end := range []int{most - 1, most, most + 1} {
		x := filled(9, end)
		if len(x.all) != end {
			t.Fatal(len(x.all))
		}
		next := uint64(len(x.laid) + 1)
		want := Scan{Id: 9, Found: x.laid, End: end}
		is(t, x.all, want)
		with := func(rest []byte) []byte { return append(bytes.Clone(x.all), rest...) }
		if end > most {
			want.Why = api.ErrBad
			is(t, with(runOf(small(next))), want)
			is(t, with(badOf(small(next))), want)
			is(t, with(append(runOf(small(next)), runOf(small(next+1))...)), want)
			is(t, with(make([]byte, 21)), want)
			want.Why = api.ErrTorn
			is(t, with(runOf(small(next))[:26]), want)
			is(t, with([]byte{1}), want)
			continue
		}
		one := Found{At: api.Loc{Seg: 9, Off: uint32(end)}, Size: 27, Record: small(next)}
		found := Scan{Id: 9, Found: append(slices.Clone(x.laid), one), End: end + 27}
		s := is(t, with(runOf(small(next))), found)
		if s.Seal() != (api.Seal{Id: 9, Size: uint32(end) + 27, Many: uint32(next), First: 1, Last: next}) {
			t.Error(s.Seal())
		}
		found.Why = api.ErrBad
		is(t, with(append(runOf(small(next)), runOf(small(next+1))...)), found)
		passed := Scan{Id: 9, Found: x.laid, Passed: []int{end}, End: end + 27}
		is(t, with(badOf(small(next))), passed)
		passed.Why = api.ErrBad
		is(t, with(append(badOf(small(next)), badOf(small(next))...)), passed)
	}
}

// P12.2: where bad ones were passed over: ahead of all, between two, behind all, one or more of them.
func TestLostPassed(t *testing.T) {
	seqs := []uint64{10, 20, 21, 23, 40}
	for name, c := range map[string]struct {
		bad  []int
		want []Period
	}{
		"none":              {nil, nil},
		"the first":         {[]int{0}, []Period{{10, 19}}},
		"the second":        {[]int{1}, []Period{{11, 20}}},
		"one number":        {[]int{2}, []Period{{21, 22}}},
		"the last":          {[]int{4}, []Period{{24, 40}}},
		"two in a row":      {[]int{1, 2}, []Period{{11, 22}}},
		"two apart":         {[]int{1, 3}, []Period{{11, 20}, {22, 39}}},
		"the first two":     {[]int{0, 1}, []Period{{10, 20}}},
		"the last two":      {[]int{3, 4}, []Period{{22, 40}}},
		"both ends":         {[]int{0, 4}, []Period{{10, 19}, {24, 40}}},
		"each other one":    {[]int{0, 2, 4}, []Period{{10, 19}, {21, 22}, {24, 40}}},
		"all but the first": {[]int{1, 2, 3, 4}, []Period{{11, 40}}},
		"all but the last":  {[]int{0, 1, 2, 3}, []Period{{10, 39}}},
		"all":               {[]int{0, 1, 2, 3, 4}, []Period{{10, 40}}},
	} {
		x := smalls(6, seqs...)
		for _, i := range c.bad {
			x.all[int(x.laid[i].At.Off)+22] ^= 4
		}
		s := Of(6, x.all)
		if got := s.Lost(x.seal()); !slices.Equal(got, c.want) {
			t.Errorf("%s: %v, want %v", name, got, c.want)
		}
	}
	// The number between two that follow one another was laid by no one: no period.
	x := smalls(6, 1, 2, 3)
	b := append(bytes.Clone(x.all[:43]), badOf(small(9))...)
	b = append(b, x.all[43:]...)
	seal := x.seal()
	seal.Size, seal.Many = 124, 4
	lost(t, Of(6, b), seal)
	b = append(bytes.Clone(x.all[:16]), badOf(small(9))...)
	lost(t, Of(6, append(b, x.all[16:]...)), seal)
	lost(t, Of(6, append(bytes.Clone(x.all), badOf(small(9))...)), seal)
}

// P12.2: another id, and numbers found that are not the segment's: all of it may be lost, though all else is right.
func TestLostForeign(t *testing.T) {
	x := smalls(6, 10, 20, 30)
	s := Of(6, x.all)
	with := func(first, last uint64) api.Seal {
		return api.Seal{Id: 6, Size: 97, Many: 3, First: first, Last: last}
	}
	lost(t, s, with(10, 30))
	lost(t, s, with(11, 30), Period{11, 30})
	lost(t, s, with(10, 29), Period{10, 29})
	lost(t, s, with(11, 29), Period{11, 29})
	lost(t, s, with(20, 20), Period{20, 20})
	lost(t, s, with(31, 50), Period{31, 50})
	lost(t, s, with(1, 9), Period{1, 9})
	lost(t, s, with(1, 1<<40))
	lost(t, s, with(9, 31))
	// No numbers, no period.
	lost(t, s, with(30, 10))
	lost(t, s, with(12, 11))
	for _, id := range []uint32{0, 5, 7, 6 + 1<<24, math.MaxUint32} {
		seal := with(10, 30)
		seal.Id = id
		lost(t, s, seal, Period{10, 30})
		seal.Many = 0
		lost(t, s, seal)
	}
	// Of another id, with nothing found, too.
	lost(t, Of(5, x.all), x.seal(), Period{10, 30})
	lost(t, Of(6, topOf(1, 6)), api.Seal{Id: 7, Size: 16, Many: 1, First: 3, Last: 3}, Period{3, 3})
	// Numbers found in the middle are asked for nothing but what is between them.
	lost(t, Of(6, smalls(6, 10, 15, 30).all), with(10, 30))
}

// P12.2: what ends otherwise than the seal tells: all behind the last one found may be lost, and nothing ahead of it.
func TestLostEnd(t *testing.T) {
	x := smalls(6, 10, 20, 30)
	seal := x.seal()
	longer := api.Seal{Id: 6, Size: 97, Many: 3, First: 10, Last: 35}
	s := Of(6, x.all)
	lost(t, s, longer)
	for _, size := range []uint32{0, 16, 70, 96, 98, 1 << 24, 97 + 1<<16, math.MaxUint32} {
		longer.Size = size
		lost(t, s, longer, Period{31, 35})
		seal.Size = size
		lost(t, s, seal)
	}
	longer.Size, seal.Size = 97, 97
	for _, many := range []uint32{1, 2, 4, 1 << 24, math.MaxUint32} {
		longer.Many = many
		lost(t, s, longer, Period{31, 35})
		seal.Many = many
		lost(t, s, seal)
	}
	longer.Many, seal.Many = 3, 3
	// It stopped with an error, or short of all: of 97 bytes.
	for n := range 97 {
		got := Of(6, x.all[:n])
		switch {
		case n < 43:
			lost(t, got, seal, Period{10, 30})
			lost(t, got, longer, Period{10, 35})
		case n < 70:
			lost(t, got, seal, Period{11, 30})
			lost(t, got, longer, Period{11, 35})
		default:
			lost(t, got, seal, Period{21, 30})
			lost(t, got, longer, Period{21, 35})
		}
	}
	// All that the seal tells is there, and something that is not of it.
	for _, rest := range [][]byte{{1}, make([]byte, 21), runOf(small(30)), badOf(small(30))} {
		got := Of(6, append(bytes.Clone(x.all), rest...))
		lost(t, got, seal)
		lost(t, got, longer, Period{31, 35})
	}
	// A stop alone, a size alone, a count alone.
	lost(t, Scan{Id: 6, Found: x.laid, End: 97, Why: api.ErrTorn}, longer, Period{31, 35})
	lost(t, Scan{Id: 6, Found: x.laid, End: 97, Why: api.ErrBad}, longer, Period{31, 35})
	lost(t, Scan{Id: 6, Found: x.laid, End: 96}, longer, Period{31, 35})
	lost(t, Scan{Id: 6, Found: x.laid[:2], End: 97}, longer, Period{21, 35})
	lost(t, Scan{Id: 6, Found: x.laid, End: 97}, longer)
	// One bad one stands for one that is wanting: the count is right, and what is behind the last one found may be lost all the same.
	lost(t, Scan{Id: 6, Found: x.laid[:2], Passed: []int{70}, End: 97}, longer, Period{21, 35})
	lost(t, Scan{Id: 6, Found: x.laid[1:], Passed: []int{16}, End: 97}, longer, Period{10, 19})
	lost(t, Scan{Id: 6, Found: x.laid[1:], Passed: []int{16}, End: 97, Why: api.ErrBad}, longer, Period{10, 19}, Period{31, 35})
}

// P12.2: of a seal without records nothing may be lost, whatever was scanned.
func TestLostNone(t *testing.T) {
	x := smalls(6, 10, 20)
	empty := Of(6, topOf(1, 6))
	for _, s := range []Scan{{}, empty, Of(6, x.all), Of(6, x.all[:60]), Of(6, x.all[:3]), Of(7, x.all)} {
		lost(t, s, api.Seal{})
		lost(t, s, api.Seal{Id: 6, Size: 16})
		lost(t, s, api.Seal{Id: 6, Size: 97})
		lost(t, s, api.Seal{Id: 6, Size: 97, First: 1, Last: 30})
	}
	lost(t, empty, x.seal(), Period{10, 20})
	lost(t, Of(6, nil), x.seal(), Period{10, 20})
	lost(t, Scan{}, x.seal(), Period{10, 20})
	lost(t, Scan{Id: 6}, x.seal(), Period{10, 20})
}

// R1: scans and seals that no bytes tell have an answer, too.
func TestAnyScan(t *testing.T) {
	seqs := []uint64{0, 1, 2, 1 << 40, math.MaxUint64 - 1, math.MaxUint64}
	for _, a := range seqs {
		for _, b := range seqs {
			s := Scan{Id: 1, Found: []Found{{Record: api.Record{Seq: a}}, {At: api.Loc{Seg: 1, Off: math.MaxUint32}, Record: api.Record{Seq: b}}}, Passed: []int{math.MinInt, -1, 5, 4, math.MaxInt}, End: -7, Why: 99}
			if seal := s.Seal(); seal.Many != 7 || seal.First != a || seal.Last != b {
				t.Error(seal)
			}
			for _, first := range seqs {
				for _, last := range seqs {
					for _, p := range s.Lost(api.Seal{Id: 1, Size: math.MaxUint32, Many: 1, First: first, Last: last}) {
						if p.From > p.To {
							t.Errorf("%d to %d of %d, %d by %d to %d", p.From, p.To, a, b, first, last)
						}
					}
				}
			}
		}
	}
	whole := Period{0, math.MaxUint64}
	lost(t, Scan{Id: 1}, api.Seal{Id: 1, Many: 1, Last: math.MaxUint64}, whole)
	lost(t, Scan{Id: 2}, api.Seal{Id: 1, Many: 1, Last: math.MaxUint64}, whole)
	lost(t, Of(6, smalls(6, 10, 20).all), api.Seal{Id: 6, Size: 70, Many: 3, Last: math.MaxUint64}, Period{21, math.MaxUint64})
}

// P12.3, P12.5: of a head and runs of rising numbers all are found; cut anywhere those that are whole are. Uncut nothing may be lost.
func TestAll(t *testing.T) {
	chance := rand.New(rand.NewSource(123))
	for range 60 {
		x := anySegment(chance, 12)
		s := is(t, x.all, Scan{Id: x.id, Found: x.laid, End: len(x.all)})
		if s.Seal() != x.seal() {
			t.Errorf("%v, want %v", s.Seal(), x.seal())
		}
		lost(t, s, x.seal())
		lost(t, s, s.Seal())
		for n := range x.all {
			x.cutIsFound(t, n)
		}
	}
}

// cutIsFound asks what is found of the first n bytes, and that what is wanting may be lost, and it alone.
func (x segment) cutIsFound(t *testing.T, n int) {
	t.Helper()
	if n < 16 {
		is(t, x.all[:n], Scan{Id: x.id, Why: api.ErrTorn})
		return
	}
	whole, end := 0, 16
	for whole < len(x.laid) && end+x.laid[whole].Size <= n {
		end += x.laid[whole].Size
		whole++
	}
	want := Scan{Id: x.id, Found: x.laid[:whole], End: end}
	if end < n {
		want.Why = api.ErrTorn
	}
	s := is(t, x.all[:n], want)
	from := x.seal().First
	if whole > 0 {
		from = x.laid[whole-1].Record.Seq + 1
	}
	lost(t, s, x.seal(), Period{from, x.seal().Last})
}

// turned is b with the bits from at on turned where pattern has ones.
func turned(b []byte, at int, pattern uint32) []byte {
	out := bytes.Clone(b)
	for i := range 32 {
		if pattern>>i&1 != 0 {
			out[(at+i)/8] ^= 1 << ((at + i) % 8)
		}
	}
	return out
}

// turnedIsTold turns bits within the file's head (part -1), or within one run, and asks for all that P12.4 says.
func (x segment) turnedIsTold(t *testing.T, part, at int, pattern uint32) {
	t.Helper()
	from, size := 0, 16
	if part >= 0 {
		from, size = int(x.laid[part].At.Off), x.laid[part].Size
	}
	pattern &= uint32(1<<min(32, 8*size-at) - 1)
	if pattern == 0 {
		return
	}
	s := Of(x.id, turned(x.all, 8*from+at, pattern))
	periods := s.Lost(x.seal())
	where := map[uint32]bool{}
	for _, f := range s.Found {
		where[f.At.Off] = true
		if !slices.ContainsFunc(x.laid, func(l Found) bool { return same(l, f) }) {
			t.Errorf("part %d, %d, %x: %d found at %v was not laid there", part, at, pattern, f.Record.Seq, f.At)
		}
	}
	inHead := false
	for i := range 32 {
		inHead = inHead || pattern>>i&1 != 0 && at+i < 8*21
	}
	for i, f := range x.laid {
		may := slices.ContainsFunc(periods, func(p Period) bool { return p.From <= f.Record.Seq && f.Record.Seq <= p.To })
		hit := part < 0 || i == part || inHead && i > part
		if where[f.At.Off] == hit || may != hit {
			t.Errorf("part %d, %d, %x: %d is found: %v, may be lost: %v", part, at, pattern, f.Record.Seq, where[f.At.Off], may)
		}
	}
	for i := 1; i < len(periods); i++ {
		if periods[i-1].To >= periods[i].From {
			t.Error(periods)
		}
	}
}

// P12.4: at each bit of a short segment, by each bit, each pair, all ones of each length and patterns by chance.
func TestTurned(t *testing.T) {
	chance := rand.New(rand.NewSource(124))
	x := segmentOf(0x30201, small(5), api.Record{Seq: 6, Kind: api.Delete, Key: []byte("key"), Prev: api.Loc{Seg: 3, Off: 20}}, small(300), api.Record{Seq: 301, Kind: api.Put, Key: []byte("k")})
	for part := -1; part < len(x.laid); part++ {
		size := 16
		if part >= 0 {
			size = x.laid[part].Size
		}
		for at := range 8 * size {
			for i := range 32 {
				x.turnedIsTold(t, part, at, 1|1<<i)
				x.turnedIsTold(t, part, at, math.MaxUint32>>i)
				x.turnedIsTold(t, part, at, 1|chance.Uint32())
			}
		}
	}
}

// P12.4: segments by chance, at places by chance.
func TestTurnedByChance(t *testing.T) {
	chance := rand.New(rand.NewSource(125))
	for range 300 {
		x := anySegment(chance, 10)
		for range 20 {
			part, size := chance.Intn(len(x.laid)+1)-1, 16
			if part >= 0 {
				size = x.laid[part].Size
			}
			x.turnedIsTold(t, part, chance.Intn(8*size), chance.Uint32())
			x.turnedIsTold(t, part, chance.Intn(8*16), chance.Uint32())
		}
	}
}

// pieces are bytes by chance: runs that are whole, bad, cut, of any order of numbers, and rests.
func pieces(chance *rand.Rand, id uint32) []byte {
	b := topOf(1, id)
	seq := uint64(chance.Intn(4))
	for range chance.Intn(8) {
		seq += uint64(chance.Intn(5))
		if chance.Intn(12) == 0 {
			seq -= min(seq, 3)
		}
		run := runOf(api.Record{Seq: seq, Kind: api.Put, Key: make([]byte, 1+chance.Intn(3)), Value: make([]byte, chance.Intn(3))})
		if chance.Intn(3) == 0 {
			run[21+chance.Intn(len(run)-21)] ^= 1 << chance.Intn(8)
		}
		if chance.Intn(15) == 0 {
			run[chance.Intn(21)] ^= 1
		}
		if chance.Intn(12) == 0 {
			run = run[:chance.Intn(len(run))]
		}
		b = append(b, run...)
	}
	if chance.Intn(10) == 0 {
		b[chance.Intn(16)] ^= 1
	}
	return b[:len(b)-min(len(b), chance.Intn(1+chance.Intn(30)))]
}

// P12.1, P12.2: bytes by chance are held against the words, by seals that are right, and by others.
func TestAnyBytes(t *testing.T) {
	chance := rand.New(rand.NewSource(121))
	ends, losses, runs := map[api.Errno]int{}, 0, 0
	for range 30000 {
		id := 1 + uint32(chance.Intn(3))
		b := pieces(chance, id)
		if chance.Intn(20) == 0 {
			id++
		}
		want := slow(id, b)
		s := is(t, b, want)
		ends[s.Why]++
		runs += len(s.Found)
		seal := s.Seal()
		if seal.Many != uint32(len(want.Found)+len(want.Passed)) || int(seal.Size) != want.End || seal.Id != id {
			t.Errorf("%v of %s", seal, inShort(s))
		}
		for range 4 {
			seal.First = uint64(1 + chance.Intn(6))
			seal.Last = seal.First + uint64(chance.Intn(30))
			if len(s.Found) > 0 && chance.Intn(2) == 0 {
				seal.First, seal.Last = s.Seal().First-min(s.Seal().First-1, uint64(chance.Intn(3))), s.Seal().Last+uint64(chance.Intn(3))
			}
			losses += len(s.Lost(seal))
			lost(t, s, seal, slowLost(s, seal)...)
			seal.Many += uint32(chance.Intn(3) / 2)
			seal.Size += uint32(chance.Intn(3) / 2)
			seal.Id += uint32(chance.Intn(8) / 7)
		}
	}
	if len(ends) != 3 || min(ends[api.OK], ends[api.ErrTorn], ends[api.ErrBad]) < 1000 || losses < 10000 || runs < 10000 {
		t.Error(ends, losses, runs)
	}
}

// R3: what is told is new memory, and no two parts of it share any.
func TestNewMemory(t *testing.T) {
	x := segmentOf(2, small(1), great(2), small(3))
	copy(x.all[x.laid[2].At.Off:], badOf(small(3)))
	b := append(make([]byte, 0, len(x.all)+100), x.all...)
	s := Of(2, b)
	clear(b)
	want := Scan{Id: 2, Found: x.laid[:2], Passed: []int{int(x.laid[2].At.Off)}, End: len(x.all)}
	if !sameScan(s, want) {
		t.Error(inShort(s))
	}
	for i := range s.Found {
		_ = append(s.Found[i].Record.Key, 9, 9, 9)
		_ = append(s.Found[i].Record.Value, 9, 9, 9)
	}
	if !sameScan(s, want) {
		t.Error(inShort(s))
	}
	// Lost and Seal change nothing of the scan, and tell the same again.
	one := s.Lost(x.seal())
	if len(one) != 1 {
		t.Fatal(one)
	}
	one[0] = Period{}
	s.Seal()
	lost(t, s, x.seal(), Period{3, 3})
	if !sameScan(s, want) || !reflect.DeepEqual(Of(2, x.all), Of(2, x.all)) {
		t.Error(inShort(s))
	}
}
