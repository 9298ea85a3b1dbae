package edit

import (
	"bytes"
	"encoding/binary"
	"fmt"
	"math"
	"math/big"
	"math/bits"
	"math/rand"
	"reflect"
	"strings"
	"testing"

	"hourbook/api"
)

// The limits, as the document writes them.
const (
	mostId   = 1<<24 - 1
	mostSize = 1 << 24
	mostSeq  = 1 << 40
	mostSegs = 200
)

// maySeal is what the chapter's words say; numbers from First to Last are counted without bounds.
func maySeal(s api.Seal) bool {
	if s.Id == 0 || s.Id > mostId || s.Size < 16 || s.Size > mostSize {
		return false
	}
	if s.Many == 0 {
		return s.First == 0 && s.Last == 0
	}
	count := new(big.Int).Sub(new(big.Int).SetUint64(s.Last), new(big.Int).SetUint64(s.First))
	count.Add(count, big.NewInt(1))
	return s.First >= 1 && s.Last <= mostSeq && count.Cmp(big.NewInt(int64(s.Many))) >= 0
}

// may is what the chapter's table says: what a kind does not tell is taken away, and all else must be empty.
func may(e Edit) bool {
	rest := e
	rest.Kind = 0
	ok := true
	switch e.Kind {
	case 1:
		rest.Seq, ok = 0, e.Seq <= mostSeq
	case 2:
		rest.Seq, rest.Name, ok = 0, "", e.Seq <= mostSeq && len(e.Name) >= 1 && len(e.Name) <= 32
	case 3:
		rest.Name, ok = "", len(e.Name) >= 1 && len(e.Name) <= 32
	case 4:
		rest.Id, ok = 0, e.Id >= 1 && e.Id <= mostId
	case 5:
		rest.Seals, ok = nil, len(e.Seals) == 1 && maySeal(e.Seals[0])
	case 6:
		rest.Seq, rest.Seals, ok = 0, nil, e.Seq <= mostSeq && len(e.Seals) <= mostSegs
		for i, s := range e.Seals {
			ok = ok && maySeal(s) && (i == 0 || e.Seals[i-1].Id < s.Id)
		}
	default:
		return false
	}
	return ok && rest.Seq == 0 && rest.Name == "" && rest.Id == 0 && len(rest.Seals) == 0
}

// form is a number's form, as chapter 1 tells it.
func form(n uint64) []byte {
	wide := binary.BigEndian.AppendUint64(nil, n)
	for k := 1; k <= 8; k++ {
		if bits.Len64(n) <= 7*k {
			row := bytes.Clone(wide[8-k:])
			row[0] |= ^byte(0xff >> (k - 1))
			return row
		}
	}
	return append([]byte{0xff}, wide...)
}

// row is bytes of a kind, then forms of numbers, and texts as they are.
func row(kind byte, parts ...any) []byte {
	out := []byte{kind}
	for _, p := range parts {
		switch x := p.(type) {
		case int:
			out = append(out, form(uint64(x))...)
		case uint64:
			out = append(out, form(x)...)
		case string:
			out = append(out, x...)
		case []byte:
			out = append(out, x...)
		default:
			panic(fmt.Sprint(p))
		}
	}
	return out
}

// bytesOf is the bytes of an edit that may be, as the words tell them.
func bytesOf(e Edit) []byte {
	seals := func() []byte {
		var out []byte
		for _, s := range e.Seals {
			out = append(out, row(0, uint64(s.Id), uint64(s.Size), uint64(s.Many))[1:]...)
			if s.Many != 0 {
				out = append(out, row(0, s.First, s.Last-s.First)[1:]...)
			}
		}
		return out
	}
	switch e.Kind {
	case 1:
		return row(1, e.Seq)
	case 2:
		return row(2, e.Seq, len(e.Name), e.Name)
	case 3:
		return row(3, len(e.Name), e.Name)
	case 4:
		return row(4, uint64(e.Id))
	case 5:
		return row(5, seals())
	default:
		return row(6, e.Seq, len(e.Seals), seals())
	}
}

// slow reads bytes as the words tell it, each part by itself; the first error stays.
type slow struct {
	rest []byte
	e    api.Errno
}

func (s *slow) number(least, most uint64) uint64 {
	if s.e != api.OK {
		return 0
	}
	if len(s.rest) == 0 {
		s.e = api.ErrShort
		return 0
	}
	long := bits.LeadingZeros8(^s.rest[0]) + 1
	if len(s.rest) < long {
		s.e = api.ErrShort
		return 0
	}
	wide := make([]byte, 8)
	if long == 9 {
		copy(wide, s.rest[1:9])
	} else {
		copy(wide[8-long:], s.rest[:long])
		wide[8-long] &= 0xff >> long
	}
	n := binary.BigEndian.Uint64(wide)
	if !bytes.Equal(form(n), s.rest[:long]) || n < least || n > most {
		s.e = api.ErrForm
		return 0
	}
	s.rest = s.rest[long:]
	return n
}

func (s *slow) seal(above uint32) api.Seal {
	var x api.Seal
	x.Id = uint32(s.number(1, mostId))
	if s.e == api.OK && x.Id <= above {
		s.e = api.ErrForm
	}
	x.Size = uint32(s.number(16, mostSize))
	x.Many = uint32(s.number(0, 1<<32-1))
	if s.e != api.OK || x.Many == 0 {
		return x
	}
	x.First = s.number(1, mostSeq)
	past := s.number(0, math.MaxUint64)
	x.Last = x.First + past
	if s.e == api.OK && (past > mostSeq || !maySeal(x)) {
		s.e = api.ErrForm
	}
	return x
}

func (s *slow) name() string {
	n := int(s.number(1, 32))
	if s.e == api.OK && len(s.rest) < n {
		s.e = api.ErrShort
	}
	if s.e != api.OK {
		return ""
	}
	name := string(s.rest[:n])
	s.rest = s.rest[n:]
	return name
}

func slowGet(b []byte) (Edit, api.Errno) {
	if len(b) == 0 {
		return Edit{}, api.ErrShort
	}
	s := &slow{rest: b[1:]}
	e := Edit{Kind: int(b[0])}
	switch b[0] {
	case 1:
		e.Seq = s.number(0, mostSeq)
	case 2:
		e.Seq = s.number(0, mostSeq)
		e.Name = s.name()
	case 3:
		e.Name = s.name()
	case 4:
		e.Id = uint32(s.number(1, mostId))
	case 5:
		e.Seals = []api.Seal{s.seal(0)}
	case 6:
		e.Seq = s.number(0, mostSeq)
		above := uint32(0)
		for range s.number(0, mostSegs) {
			x := s.seal(above)
			above = x.Id
			e.Seals = append(e.Seals, x)
		}
	default:
		return Edit{}, api.ErrForm
	}
	if s.e == api.OK && len(s.rest) > 0 {
		s.e = api.ErrForm
	}
	if s.e != api.OK {
		return Edit{}, s.e
	}
	return e, api.OK
}

func equal(a, b Edit) bool {
	if len(a.Seals) == 0 && len(b.Seals) == 0 {
		a.Seals, b.Seals = nil, nil
	}
	return reflect.DeepEqual(a, b)
}

func name(e Edit) string {
	if len(e.Seals) > 4 {
		return fmt.Sprintf("%d %q %d %d, %d seals", e.Kind, e.Name, e.Seq, e.Id, len(e.Seals))
	}
	return fmt.Sprintf("%d %q %d %d %+v", e.Kind, e.Name, e.Seq, e.Id, e.Seals)
}

// refused asks that Get of b tells want, and nothing else.
func refused(t *testing.T, b []byte, want api.Errno) {
	t.Helper()
	if e, no := Get(b); no != want || !equal(e, Edit{}) {
		t.Errorf("Get(% x) = %s, %d, want %d", b[:min(len(b), 60)], name(e), no, want)
	}
}

// fine asks that Get of b tells want.
func fine(t *testing.T, b []byte, want Edit) {
	t.Helper()
	if e, no := Get(b); no != api.OK || !equal(e, want) {
		t.Errorf("Get(% x) = %s, %d, want %s", b[:min(len(b), 60)], name(e), no, name(want))
	}
}

// many is n seals of rising ids, those at even places with no records.
func many(n int) []api.Seal {
	var out []api.Seal
	for i := range n {
		s := api.Seal{Id: uint32(i*300 + 5), Size: uint32(16 + i*1000)}
		if i%2 == 1 {
			s.Many, s.First, s.Last = uint32(i), uint64(i*i+1), uint64(i*i+2*i)
		}
		out = append(out, s)
	}
	return out
}

// sealEdges are seals with their numbers at the edges of what may be, in all ways together.
func sealEdges() []api.Seal {
	var out []api.Seal
	numbers := []uint64{0, 1, 2, 5, 1<<32 - 1, 1 << 32, mostSeq - 1, mostSeq, mostSeq + 1, math.MaxUint64 - 1, math.MaxUint64}
	for _, n := range []uint32{0, 1, 2, 3, 5, 6, math.MaxUint32 - 1, math.MaxUint32} {
		for _, first := range numbers {
			for _, last := range append(numbers, first+uint64(n), first+uint64(n)-1, first+uint64(n)-2) {
				out = append(out, api.Seal{Id: 7, Size: 100, Many: n, First: first, Last: last})
			}
		}
	}
	for _, id := range []uint32{0, 1, 127, 128, mostId - 1, mostId, mostId + 1, math.MaxUint32} {
		for _, size := range []uint32{0, 1, 15, 16, 17, 127, 128, mostSize - 1, mostSize, mostSize + 1, math.MaxUint32} {
			out = append(out, api.Seal{Id: id, Size: size}, api.Seal{Id: id, Size: size, Many: 2, First: 3, Last: 9})
		}
	}
	return out
}

// rows are rows of seals: such as an edit may have, and others.
func rows() [][]api.Seal {
	plain := api.Seal{Id: 7, Size: 100, Many: 2, First: 3, Last: 9}
	blank := api.Seal{Id: 8, Size: 16}
	turned := many(mostSegs)
	turned[150], turned[151] = turned[151], turned[150]
	twice := many(mostSegs)
	twice[199].Id = twice[198].Id
	last := many(mostSegs)
	last[199].Size = 15
	return [][]api.Seal{
		nil, {}, {plain}, {blank}, {{}}, {{Id: 7}}, {{Id: 7, Size: 100, Many: 2, First: 3, Last: 3}},
		{plain, blank}, {blank, plain}, {plain, plain}, {blank, blank}, {plain, {}}, {{}, plain}, {plain, {Id: 8, Size: 15}},
		{{Id: 1, Size: 16}, {Id: mostId - 1, Size: 16}, {Id: mostId, Size: 16}}, {{Id: mostId, Size: 16}, {Id: mostId + 1, Size: 16}},
		{{Id: mostId, Size: 16}, {Id: mostId, Size: 16}}, {{Id: mostId, Size: mostSize, Many: math.MaxUint32, First: 1, Last: mostSeq}},
		many(mostSegs - 1), many(mostSegs), many(mostSegs + 1), many(3 * mostSegs), turned, twice, last,
	}
}

// edges are edits of each kind with each of their parts at the edges of what may be, in all ways together.
func edges() []Edit {
	var out []Edit
	for _, kind := range []int{math.MinInt, -256, -1, 0, 1, 2, 3, 4, 5, 6, 7, 255, 256, 257, 262, 1<<32 + 1, math.MaxInt} {
		for _, seals := range rows() {
			for _, name := range []string{"", "a", "\x00", strings.Repeat("\xff", 31), strings.Repeat("n", 32), strings.Repeat("n", 33), strings.Repeat("n", 256+5)} {
				for _, seq := range []uint64{0, 1, 300, mostSeq - 1, mostSeq, mostSeq + 1, math.MaxUint64} {
					for _, id := range []uint32{0, 1, 128, mostId, mostId + 1, math.MaxUint32} {
						out = append(out, Edit{Kind: kind, Name: name, Seq: seq, Id: id, Seals: seals})
					}
				}
			}
		}
	}
	for _, s := range sealEdges() {
		out = append(out, Edit{Kind: SegSeal, Seals: []api.Seal{s}}, Edit{Kind: Merged, Seq: 9, Seals: []api.Seal{{Id: 1, Size: 16}, s}})
	}
	return out
}

// those are the edges that may be.
func those() []Edit {
	var out []Edit
	for _, e := range edges() {
		if may(e) {
			out = append(out, e)
		}
	}
	return out
}

// byChance is an edit that may be.
func byChance(chance *rand.Rand) Edit {
	e := Edit{Kind: 1 + chance.Intn(6)}
	seq := func() uint64 { return uint64(chance.Int63n(mostSeq+1)) >> chance.Intn(40) }
	seal := func(above uint32) api.Seal {
		s := api.Seal{Id: above + 1 + uint32(chance.Intn(1<<chance.Intn(16))), Size: 16 + uint32(chance.Intn(mostSize-15))}
		if chance.Intn(3) != 0 {
			s.First = 1 + seq()/2
			s.Last = s.First + seq()/2
			s.Many = 1 + uint32(chance.Int63n(int64(min(s.Last-s.First+1, math.MaxUint32))))
		}
		if s.Last > mostSeq {
			s.Many, s.First, s.Last = 0, 0, 0
		}
		return s
	}
	if e.Kind == Base || e.Kind == SnapAdd || e.Kind == Merged {
		e.Seq = seq()
	}
	if e.Kind == SnapAdd || e.Kind == SnapDrop {
		b := make([]byte, 1+chance.Intn(32))
		chance.Read(b)
		e.Name = string(b)
	}
	if e.Kind == SegAdd {
		e.Id = 1 + uint32(chance.Intn(mostId))
	}
	if e.Kind == SegSeal {
		e.Seals = []api.Seal{seal(0)}
	}
	if e.Kind == Merged {
		above := uint32(0)
		for range chance.Intn(6) {
			s := seal(above)
			above = s.Id
			e.Seals = append(e.Seals, s)
		}
	}
	return e
}

// P9.2: the chapter's examples, and the kinds' numbers.
func TestExamples(t *testing.T) {
	for _, c := range []struct {
		e Edit
		b []byte
	}{
		{Edit{Kind: Base, Seq: 5}, []byte{1, 5}},
		{Edit{Kind: SnapAdd, Name: "a", Seq: 300}, []byte{2, 0x81, 0x2c, 1, 0x61}},
		{Edit{Kind: SnapDrop, Name: "bc"}, []byte{3, 2, 0x62, 0x63}},
		{Edit{Kind: SegAdd, Id: 7}, []byte{4, 7}},
		{Edit{Kind: SegSeal, Seals: []api.Seal{{Id: 7, Size: 100, Many: 2, First: 3, Last: 9}}}, []byte{5, 7, 0x64, 2, 3, 6}},
		{Edit{Kind: SegSeal, Seals: []api.Seal{{Id: 7, Size: 16}}}, []byte{5, 7, 16, 0}},
		{Edit{Kind: Merged, Seq: 9}, []byte{6, 9, 0}},
		{Edit{Kind: Merged, Seq: 9, Seals: []api.Seal{{Id: 2, Size: 300}, {Id: 300, Size: 100, Many: 1, First: 9, Last: 9}}}, []byte{6, 9, 2, 2, 0x81, 0x2c, 0, 0x81, 0x2c, 0x64, 1, 9, 0}},
	} {
		if !May(c.e) {
			t.Error(name(c.e), "may not be")
		}
		if b, no := Put(c.e); no != api.OK || !bytes.Equal(b, c.b) {
			t.Errorf("Put(%s) = % x, %d", name(c.e), b, no)
		}
		fine(t, c.b, c.e)
	}
}

// P9.1: each number at its edges, with each other one.
func TestMaySeal(t *testing.T) {
	right := 0
	for _, s := range sealEdges() {
		want := maySeal(s)
		if got := MaySeal(s); got != want {
			t.Errorf("MaySeal(%+v) = %v", s, got)
		}
		if want {
			right++
		}
	}
	if right < 50 || MaySeal(api.Seal{}) {
		t.Error(right)
	}
}

// P9.1, P9.2: at each edge; what may not be has no bytes.
func TestMayAndPut(t *testing.T) {
	count := map[int]int{}
	for _, e := range edges() {
		want := may(e)
		if got := May(e); got != want {
			t.Errorf("May(%s) = %v", name(e), got)
		}
		b, no := Put(e)
		if !want {
			if len(b) != 0 || no != api.ErrArg {
				t.Errorf("Put(%s) = % x, %d", name(e), b[:min(len(b), 60)], no)
			}
			continue
		}
		count[e.Kind]++
		if no != api.OK || !bytes.Equal(b, bytesOf(e)) {
			t.Errorf("Put(%s) = % x, %d", name(e), b[:min(len(b), 60)], no)
		}
	}
	for kind := Base; kind <= Merged; kind++ {
		if count[kind] < 4 {
			t.Errorf("of kind %d only %d", kind, count[kind])
		}
	}
}

// P9.1: Same is of all parts, also of edits that may not be.
func TestSame(t *testing.T) {
	e := Edit{Kind: Merged, Name: "ab", Seq: 5, Id: 6, Seals: []api.Seal{{Id: 1, Size: 20, Many: 2, First: 3, Last: 9}, {Id: 2, Size: 16}}}
	for i, change := range []func(e *Edit){
		func(e *Edit) { e.Kind = Base },
		func(e *Edit) { e.Name = "ac" },
		func(e *Edit) { e.Name = "" },
		func(e *Edit) { e.Seq = 6 },
		func(e *Edit) { e.Id = 5 },
		func(e *Edit) { e.Seals = nil },
		func(e *Edit) { e.Seals = e.Seals[:1] },
		func(e *Edit) { e.Seals = append(e.Seals, api.Seal{}) },
		func(e *Edit) { e.Seals[0], e.Seals[1] = e.Seals[1], e.Seals[0] },
		func(e *Edit) { e.Seals[1].Id = 3 },
		func(e *Edit) { e.Seals[1].Size = 17 },
		func(e *Edit) { e.Seals[0].Many = 3 },
		func(e *Edit) { e.Seals[0].First = 4 },
		func(e *Edit) { e.Seals[0].Last = 8 },
	} {
		other := e
		other.Seals = append([]api.Seal(nil), e.Seals...)
		if !Same(e, other) || !Same(other, e) {
			t.Error(i, "ahead of the change")
		}
		change(&other)
		if Same(e, other) || Same(other, e) {
			t.Error(i)
		}
	}
	if !Same(Edit{}, Edit{Seals: []api.Seal{}}) || !Same(Edit{Seals: []api.Seal{}}, Edit{}) {
		t.Error("none and empty")
	}
	all := rows()
	for i, a := range all {
		for j, b := range all {
			x, y := Edit{Kind: Merged, Seals: a}, Edit{Kind: Merged, Seals: b}
			if Same(x, y) != equal(x, y) {
				t.Error(i, j)
			}
		}
	}
}

// P9.2, P9.3, P9.4: bytes are read back; cut short anywhere they are short; with any bytes behind they are no edit's.
func TestBackAndShort(t *testing.T) {
	chance := rand.New(rand.NewSource(9))
	all := those()
	for range 2000 {
		all = append(all, byChance(chance))
	}
	for _, e := range all {
		if !may(e) {
			t.Fatal(name(e))
		}
		b := bytesOf(e)
		fine(t, b, e)
		step := 1 + len(b)/200
		for n := 0; n < len(b); n += step {
			refused(t, b[:n], api.ErrShort)
		}
		refused(t, b[:len(b)-1], api.ErrShort)
		for _, behind := range [][]byte{{0}, {0xff}, {1, 5}, b, make([]byte, 100)} {
			refused(t, append(bytes.Clone(b), behind...), api.ErrForm)
		}
	}
}

// P9.2: parts that are wrong, each with nothing behind it: what stands ahead is right, what would come behind is not asked for.
func TestWrongParts(t *testing.T) {
	const seqOver = mostSeq + 1
	whole := [][]byte{
		row(0), row(7), row(255),
		row(1, seqOver), row(1, uint64(math.MaxUint64)), row(2, seqOver), row(6, seqOver),
		row(2, 5, 0), row(2, 5, 33), row(2, 5, uint64(math.MaxUint64)), row(2, 5, 1<<32+1), row(3, 0), row(3, 33), row(3, 256+1), row(3, uint64(1<<63)),
		row(4, 0), row(4, mostId+1), row(4, 1<<32), row(4, 1<<32+1), row(4, uint64(math.MaxUint64)),
		row(5, 0), row(5, mostId+1), row(5, 1<<32+1),
		row(5, 7, 0), row(5, 7, 15), row(5, 7, mostSize+1), row(5, 7, 1<<32+16),
		row(5, 7, 16, 1<<32), row(5, 7, 16, 1<<32+1), row(5, 7, 16, uint64(math.MaxUint64)),
		row(5, 7, 16, 1, 0), row(5, 7, 16, 1, seqOver), row(5, 7, 16, 1, uint64(math.MaxUint64)),
		row(5, 7, 16, 2, 3, 0), row(5, 7, 16, 7, 3, 5), row(5, 7, 16, 1, mostSeq, 1), row(5, 7, 16, 2, mostSeq, 1), row(5, 7, 16, 2, mostSeq, 0),
		row(5, 7, 16, 1, 1, mostSeq), row(5, 7, 16, 1, 3, uint64(math.MaxUint64)), row(5, 7, 16, 1, 3, uint64(math.MaxUint64-2)), row(5, 7, 16, uint64(math.MaxUint32), mostSeq, uint64(math.MaxUint32-1)),
		row(6, 9, 201), row(6, 9, 256), row(6, 9, 1<<32), row(6, 9, uint64(math.MaxUint64)),
		row(6, 9, 1, 0), row(6, 9, 1, mostId+1), row(6, 9, 2, 7, 16, 0, 7), row(6, 9, 2, 7, 16, 0, 6), row(6, 9, 2, 7, 16, 0, 0),
		row(6, 9, 2, mostId, 16, 0, mostId), row(6, 9, 2, mostId, 16, 0, mostId+1), row(6, 9, 2, mostId-1, 16, 0, mostId+1), row(6, 9, 2, 7, 16, 2, 3, 6, 7),
		row(6, 9, 2, 7, 16, 0, 8, 15), row(6, 9, 2, 7, 16, 0, 8, 16, 1, 0), row(6, 9, 2, 7, 16, 0, 8, 16, 2, 3, 0),
	}
	for _, b := range whole {
		refused(t, b, api.ErrForm)
		refused(t, append(bytes.Clone(b), 0xff), api.ErrForm)
		refused(t, append(bytes.Clone(b), make([]byte, 50)...), api.ErrForm)
		// The last number of each, cut short, can't be told to be out of its bounds.
		if len(b) > 1 && b[len(b)-2] >= 0x80 {
			refused(t, b[:len(b)-1], api.ErrShort)
		}
	}
	refused(t, nil, api.ErrShort)
	refused(t, []byte{}, api.ErrShort)
}

// P9.2: in the place of each number a form that is too long is ErrForm, one that is cut short ErrShort, even if its number would be out of its bounds.
func TestWrongForms(t *testing.T) {
	for _, ahead := range [][]byte{
		row(1), row(2), row(2, 5), row(3), row(4), row(5), row(5, 7), row(5, 7, 16), row(5, 7, 16, 2), row(5, 7, 16, 2, 3),
		row(6), row(6, 9), row(6, 9, 1), row(6, 9, 2, 7), row(6, 9, 2, 7, 16), row(6, 9, 2, 7, 16, 0), row(6, 9, 2, 7, 16, 0, 8), row(6, 9, 1, 7, 16, 2), row(6, 9, 1, 7, 16, 2, 3),
	} {
		refused(t, ahead, api.ErrShort)
		for _, wrong := range [][]byte{{0x80, 1}, {0x80, 0x7f}, {0xc0, 0, 20}, {0xe0, 0, 0, 20}, {0xff, 0, 0, 0, 0, 0, 0, 0, 20}} {
			refused(t, row(ahead[0], ahead[1:], wrong), api.ErrForm)
			refused(t, row(ahead[0], ahead[1:], wrong, []byte{1, 2, 3, 4}), api.ErrForm)
			for n := range wrong {
				refused(t, row(ahead[0], ahead[1:], wrong[:n]), api.ErrShort)
			}
		}
		refused(t, row(ahead[0], ahead[1:], bytes.Repeat([]byte{0xff}, 8)), api.ErrShort)
		refused(t, row(ahead[0], ahead[1:], bytes.Repeat([]byte{0xff}, 9)), api.ErrForm)
	}
}

// P9.2: a name is any bytes, and ends where it says; what stands behind it is no part of it.
func TestNames(t *testing.T) {
	for n := 1; n <= 32; n++ {
		for _, c := range []string{"\x00", "\xff", "n", "\xc3"} {
			text := strings.Repeat(c, n)
			fine(t, row(2, 1000, n, text), Edit{Kind: SnapAdd, Seq: 1000, Name: text})
			fine(t, row(3, n, text), Edit{Kind: SnapDrop, Name: text})
			refused(t, row(3, n, text[:n-1]), api.ErrShort)
			refused(t, row(3, n, text, c), api.ErrForm)
		}
	}
}

// P9.2: as many seals as may be; one more can't be told, however right it is.
func TestManySeals(t *testing.T) {
	for _, n := range []int{0, 1, 2, 127, 128, 199, 200} {
		fine(t, bytesOf(Edit{Kind: Merged, Seq: 3, Seals: many(n)}), Edit{Kind: Merged, Seq: 3, Seals: many(n)})
	}
	refused(t, bytesOf(Edit{Kind: Merged, Seq: 3, Seals: many(201)}), api.ErrForm)
	both := bytesOf(Edit{Kind: SegSeal, Seals: many(2)})
	refused(t, both, api.ErrForm)
	near := []api.Seal{{Id: mostId - 2, Size: 16}, {Id: mostId - 1, Size: 16}, {Id: mostId, Size: 16}}
	fine(t, bytesOf(Edit{Kind: Merged, Seals: near}), Edit{Kind: Merged, Seals: near})
	only := []api.Seal{{Id: 1, Size: 16, Many: 1, First: mostSeq, Last: mostSeq}}
	fine(t, bytesOf(Edit{Kind: SegSeal, Seals: only}), Edit{Kind: SegSeal, Seals: only})
}

// held asks that Get of b tells what the slow reader tells, and that Put tells b back.
func held(t *testing.T, b []byte) bool {
	t.Helper()
	want, no := slowGet(b)
	if no != api.OK {
		refused(t, b, no)
		return false
	}
	fine(t, b, want)
	got, _ := Get(b)
	if !May(got) {
		t.Errorf("Get(% x) = %s, which may not be", b, name(got))
	}
	if back, no := Put(got); no != api.OK || !bytes.Equal(back, b) {
		t.Errorf("Put(Get(% x)) = % x, %d", b, back, no)
	}
	return true
}

// P9.2, P9.3: all rows of at most two bytes, and all of at most seven of some few bytes.
func TestAllRows(t *testing.T) {
	held(t, nil)
	for a := range 256 {
		held(t, []byte{byte(a)})
		for b := range 256 {
			held(t, []byte{byte(a), byte(b)})
		}
	}
	few := []byte{0, 1, 2, 5, 16, 0x80}
	right := 0
	var grow func(b []byte)
	grow = func(b []byte) {
		if held(t, b) {
			right++
		}
		if len(b) == 7 {
			return
		}
		for _, c := range few {
			grow(append(b, c))
		}
	}
	for kind := range byte(8) {
		grow([]byte{kind})
	}
	if right < 1000 {
		t.Error("right ones:", right)
	}
}

// P9.2, P9.3: right bytes by chance, some of them changed, cut, or with more between.
func TestByChance(t *testing.T) {
	chance := rand.New(rand.NewSource(92))
	right, wrong := 0, 0
	for range 60000 {
		b := bytesOf(byChance(chance))
		for range chance.Intn(3) {
			at := chance.Intn(len(b))
			switch chance.Intn(4) {
			case 0:
				b[at] = byte(chance.Intn(256))
			case 1:
				b[at] ^= 1 << chance.Intn(8)
			case 2:
				b = append(b[:at], append(form(chance.Uint64()>>chance.Intn(64)), b[at:]...)...)
			default:
				b = b[:1+at]
			}
		}
		if held(t, b) {
			right++
		} else {
			wrong++
		}
	}
	for range 20000 {
		b := make([]byte, chance.Intn(30))
		chance.Read(b)
		if len(b) > 0 {
			b[0] %= 8
		}
		held(t, b)
	}
	if right < 10000 || wrong < 10000 {
		t.Error(right, wrong)
	}
}

// P9.3: no edit's bytes are the beginning of another one's.
func TestNoBeginning(t *testing.T) {
	chance := rand.New(rand.NewSource(93))
	var all []Edit
	for i, e := range those() {
		if i%5 == 0 && len(e.Seals) < 5 {
			all = append(all, e)
		}
	}
	for range 300 {
		all = append(all, byChance(chance))
	}
	var told [][]byte
	for _, e := range all {
		b, no := Put(e)
		if no != api.OK {
			t.Fatal(name(e), no)
		}
		told = append(told, b)
	}
	for i, a := range told {
		for j, b := range told {
			if !Same(all[i], all[j]) && bytes.HasPrefix(a, b) {
				t.Errorf("%s begins with %s", name(all[i]), name(all[j]))
			}
		}
	}
}

// R3: what is told is new memory, and what is handed in stays as it was.
func TestNewMemory(t *testing.T) {
	e := Edit{Kind: Merged, Seq: 9, Seals: many(5)}
	first, _ := Put(e)
	second, _ := Put(e)
	was := bytes.Clone(second)
	clear(first)
	_ = append(first, 1, 2, 3)
	if !bytes.Equal(second, was) || !equal(e, Edit{Kind: Merged, Seq: 9, Seals: many(5)}) {
		t.Error("Put shares", name(e))
	}
	b := bytes.Clone(was)
	one, _ := Get(b)
	two, _ := Get(b)
	one.Seals[0].Id, one.Seals[4] = 77, api.Seal{}
	if !equal(two, e) || !bytes.Equal(b, was) {
		t.Error("two answers share")
	}
	clear(b)
	if !equal(two, e) {
		t.Error("Get keeps its bytes")
	}
	text := row(3, 3, "abc")
	drop, _ := Get(text)
	clear(text)
	if drop.Name != "abc" {
		t.Error("Get keeps its name's bytes")
	}
	tail := append(row(4, 7), 0xee, 0xee)
	if got, no := Get(tail[:2]); no != api.OK || got.Id != 7 || tail[2] != 0xee {
		t.Error(got, no, tail)
	}
}

// R2, R7: a call that tells an error leaves nothing behind for the next one.
func TestAgain(t *testing.T) {
	e := Edit{Kind: SegSeal, Seals: many(2)[1:]}
	for range 3 {
		refused(t, row(5, 7, 16, 2, 3, 0), api.ErrForm)
		if b, no := Put(Edit{Kind: SegSeal}); len(b) != 0 || no != api.ErrArg {
			t.Error(b, no)
		}
		fine(t, bytesOf(e), e)
	}
}
