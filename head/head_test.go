package head

import (
	"bytes"
	"encoding/binary"
	"hash/crc32"
	"math"
	"math/bits"
	"math/rand"
	"testing"

	"hourbook/api"
)

// told is what a head tells.
type told struct {
	kind int
	id   uint32
}

// isHead is what the chapter's words say, with all numbers written out.
func isHead(x told) bool {
	return x.kind == 1 && x.id >= 1 && x.id <= 16777215 || x.kind == 2 && x.id == 0
}

// covered is a row with its sum behind it, told by another program's sums.
func covered(row []byte) []byte {
	sum := crc32.Checksum(row, crc32.MakeTable(crc32.Castagnoli))
	return binary.LittleEndian.AppendUint32(bytes.Clone(row), sum)
}

// row is the twelve bytes ahead of the sum, with any letters, kind and id.
func row(letters string, kind byte, id uint32) []byte {
	return binary.LittleEndian.AppendUint32(append([]byte(letters), kind), id)
}

// headOf is a head's bytes as the words tell them, with any kind of one byte and any id.
func headOf(kind byte, id uint32) []byte {
	return covered(row("hourbk1", kind, id))
}

// ids are ids at the edges, and each single bit.
func ids() []uint32 {
	out := []uint32{0, 3, 255, 257, 0x030201, 0x01020304, 1<<24 - 2, 1<<24 - 1, 1<<24 + 1, 1<<25 - 1, math.MaxInt32, math.MaxUint32 - 1, math.MaxUint32}
	for i := range 32 {
		out = append(out, 1<<i)
	}
	return out
}

// kinds are kinds at the edges, and those that a byte would take for one that may be.
func kinds() []int {
	return []int{math.MinInt, -256, -255, -254, -2, -1, 0, 1, 2, 3, 4, 127, 128, 129, 254, 255, 256, 257, 258, 65537, 1<<32 + 1, 1<<32 + 2, math.MaxInt}
}

// edges are kinds and ids, those that may be and those that may not.
func edges() []told {
	var out []told
	for _, kind := range kinds() {
		for _, id := range ids() {
			out = append(out, told{kind, id})
		}
	}
	return out
}

// those are heads that may be: the edges, and some by chance.
func those() []told {
	var out []told
	for _, x := range edges() {
		if isHead(x) {
			out = append(out, x)
		}
	}
	chance := rand.New(rand.NewSource(10))
	for range 200 {
		out = append(out, told{1, 1 + uint32(chance.Intn(1<<24-1))})
	}
	return out
}

// fine asks that b begins with the head x: by Get, and by Check of it and of others.
func fine(t *testing.T, b []byte, x told) {
	t.Helper()
	if kind, id, e := Get(b); kind != x.kind || id != x.id || e != api.OK {
		t.Errorf("Get(% x) = %d, %d, %d, want %v", b, kind, id, e, x)
	}
	if e := Check(b, x.kind, x.id); e != api.OK {
		t.Errorf("Check(% x, %v) = %d", b, x, e)
	}
	for _, other := range []told{{x.kind, x.id + 1}, {x.kind, x.id ^ 1<<24}, {3 - x.kind, x.id}, {x.kind + 256, x.id}, {x.kind + 1<<32, x.id}, {-x.kind, x.id}, {0, 0}} {
		if e := Check(b, other.kind, other.id); e != api.ErrBad {
			t.Errorf("Check(% x, %v) = %d", b, other, e)
		}
	}
}

// refused asks that b begins with no head, and that nothing is told beside that.
func refused(t *testing.T, b []byte, want api.Errno) {
	t.Helper()
	if kind, id, e := Get(b); kind != 0 || id != 0 || e != want {
		t.Errorf("Get(% x) = %d, %d, %d, want %d", b, kind, id, e, want)
	}
	for _, x := range []told{{1, 1}, {1, 258}, {2, 0}, {0, 0}, {3, 7}, {-1, 0}} {
		if e := Check(b, x.kind, x.id); e != want {
			t.Errorf("Check(% x, %v) = %d, want %d", b, x, e, want)
		}
	}
}

// slow is what b begins with, as the words tell it byte by byte.
func slow(b []byte) (told, api.Errno) {
	if len(b) < 16 {
		return told{}, api.ErrTorn
	}
	x := told{int(b[7]), uint32(b[8]) + uint32(b[9])<<8 + uint32(b[10])<<16 + uint32(b[11])<<24}
	if string(b[:7]) != "hourbk1" || !isHead(x) || !bytes.Equal(b[:16], covered(b[:12])) {
		return told{}, api.ErrBad
	}
	return x, api.OK
}

// P10.1: the chapter's examples, and the constants.
func TestExamples(t *testing.T) {
	if Size != 16 || Segment != 1 || Manifest != 2 {
		t.Error(Size, Segment, Manifest)
	}
	got, e := Put(Segment, 258)
	want := covered([]byte{0x68, 0x6f, 0x75, 0x72, 0x62, 0x6b, 0x31, 0x01, 0x02, 0x01, 0x00, 0x00})
	if e != api.OK || !bytes.Equal(got, want) {
		t.Errorf("% x, %d, want % x", got, e, want)
	}
	refused(t, make([]byte, 16), api.ErrBad)
}

// P10.1: at each edge; what is no head's has no bytes.
func TestPut(t *testing.T) {
	for _, x := range edges() {
		got, e := Put(x.kind, x.id)
		if !isHead(x) {
			if len(got) != 0 || e != api.ErrArg {
				t.Errorf("Put%v = % x, %d", x, got, e)
			}
			continue
		}
		if e != api.OK || len(got) != 16 || !bytes.Equal(got, headOf(byte(x.kind), x.id)) {
			t.Errorf("Put%v = % x, %d", x, got, e)
		}
	}
}

// P10.1, P10.2: what Put tells is told by Get, whatever stands behind it; each beginning of it is torn.
func TestBack(t *testing.T) {
	for _, x := range those() {
		b, e := Put(x.kind, x.id)
		if e != api.OK {
			t.Fatal(x, e)
		}
		for _, behind := range [][]byte{nil, {0}, {0xff, 0xff, 0xff, 0xff, 0xff}, b, headOf(2, 0), make([]byte, 3000)} {
			fine(t, append(bytes.Clone(b), behind...), x)
		}
		for n := range b {
			refused(t, b[:n], api.ErrTorn)
		}
	}
}

// P10.1: Check tells each head apart from each other one, and from what is no head's.
func TestCheck(t *testing.T) {
	all := those()
	for i, x := range all {
		b := headOf(byte(x.kind), x.id)
		for _, other := range append(edges(), all[i:]...) {
			want := api.ErrBad
			if x == other {
				want = api.OK
			}
			if e := Check(b, other.kind, other.id); e != want {
				t.Errorf("Check of %v for %v = %d, want %d", x, other, e, want)
			}
		}
	}
}

// P10.1: fewer than 16 bytes are torn, whatever they are; from there on they are bad, if they are no head.
func TestFewBytes(t *testing.T) {
	refused(t, nil, api.ErrTorn)
	for n := range 40 {
		for _, c := range []byte{0, 1, 2, 'h', 0xff} {
			b := bytes.Repeat([]byte{c}, n)
			if n < 16 {
				refused(t, b, api.ErrTorn)
			} else {
				refused(t, b, api.ErrBad)
			}
		}
	}
	// A head stands at the beginning, and nowhere else.
	refused(t, append([]byte{0}, headOf(1, 5)...), api.ErrBad)
	refused(t, append(make([]byte, 16), headOf(1, 5)...), api.ErrBad)
}

// P10.1: other letters are bad, though the sum is right.
func TestLetters(t *testing.T) {
	for _, x := range []told{{1, 258}, {2, 0}} {
		for at := range 7 {
			for c := range 256 {
				letters := []byte("hourbk1")
				if letters[at] == byte(c) {
					continue
				}
				letters[at] = byte(c)
				refused(t, covered(row(string(letters), byte(x.kind), x.id)), api.ErrBad)
			}
		}
		for _, letters := range []string{"HOURBK1", "hourbk2", "1kbruoh", "ohurbk1", "\x00\x00\x00\x00\x00\x00\x00"} {
			refused(t, covered(row(letters, byte(x.kind), x.id)), api.ErrBad)
		}
	}
}

// P10.1: each kind of one byte, with ids at the edges: those that are no head's are bad, though the sum is right.
func TestNoHeads(t *testing.T) {
	for kind := range 256 {
		for _, id := range ids() {
			b := headOf(byte(kind), id)
			if x := (told{kind, id}); isHead(x) {
				fine(t, b, x)
			} else {
				refused(t, b, api.ErrBad)
			}
		}
	}
}

// P10.1: each other sum is bad: another byte of it, its bytes turned round, a sum of fewer or of more bytes, or of the other end first.
func TestSum(t *testing.T) {
	for _, x := range []told{{1, 1}, {1, 258}, {1, 1<<24 - 1}, {2, 0}} {
		b := headOf(byte(x.kind), x.id)
		for at := 12; at < 16; at++ {
			for c := range 256 {
				wrong := bytes.Clone(b)
				wrong[at] = byte(c)
				if c == int(b[at]) {
					fine(t, wrong, x)
				} else {
					refused(t, wrong, api.ErrBad)
				}
			}
		}
		sum := binary.LittleEndian.Uint32(b[12:])
		short := covered(b[:11])
		for _, other := range []uint32{0, math.MaxUint32, ^sum, sum + 1, sum - 1, bits.ReverseBytes32(sum), crc32.ChecksumIEEE(b[:12]), binary.LittleEndian.Uint32(short[11:])} {
			refused(t, binary.LittleEndian.AppendUint32(bytes.Clone(b[:12]), other), api.ErrBad)
		}
	}
}

// turned is b with the bits from at on turned where pattern has ones; those behind b's end are left off.
func turned(b []byte, at int, pattern uint32) []byte {
	out := bytes.Clone(b)
	for i := range 32 {
		if place := at + i; pattern>>i&1 != 0 && place < 8*len(out) {
			out[place/8] ^= 1 << (place % 8)
		}
	}
	return out
}

// P10.2: at each bit, each single one, each pair, all ones of each length, and patterns by chance; some of them reach beyond the head.
func TestTurned(t *testing.T) {
	chance := rand.New(rand.NewSource(102))
	for _, x := range []told{{1, 1}, {1, 258}, {1, 0xfedcba}, {1, 1<<24 - 1}, {2, 0}} {
		b := headOf(byte(x.kind), x.id)
		for _, behind := range [][]byte{nil, b, make([]byte, 50)} {
			long := append(bytes.Clone(b), behind...)
			for at := range 8 * 16 {
				for i := range 32 {
					refused(t, turned(long, at, 1|1<<i), api.ErrBad)
					refused(t, turned(long, at, math.MaxUint32>>i), api.ErrBad)
					refused(t, turned(long, at, 1|chance.Uint32()), api.ErrBad)
				}
			}
			// Bits behind the head are nothing to it.
			for at := 8 * 16; at < 8*len(long); at++ {
				fine(t, turned(long, at, chance.Uint32()), x)
			}
		}
	}
	all := those()
	for range 20000 {
		x := all[chance.Intn(len(all))]
		refused(t, turned(headOf(byte(x.kind), x.id), chance.Intn(8*16), 1|chance.Uint32()), api.ErrBad)
	}
}

// P10.2: heads of other kinds or ids have other bytes, none of which are those of another one's.
func TestNeverOne(t *testing.T) {
	seen := map[string]told{}
	ask := func(x told) {
		b, e := Put(x.kind, x.id)
		if e != api.OK || len(b) != 16 {
			t.Fatal(x, len(b), e)
		}
		if other, is := seen[string(b)]; is && other != x {
			t.Errorf("%v and %v are one", x, other)
		}
		seen[string(b)] = x
	}
	for _, x := range those() {
		ask(x)
	}
	for id := uint32(1); id < 1<<24; id += 251 {
		ask(told{1, id})
	}
	if len(seen) < 1<<24/251 {
		t.Error(len(seen))
	}
}

// P10.1: bytes by chance, many of them nearly a head, are held against the words; what Get tells, put again, is what it read.
func TestAnyBytes(t *testing.T) {
	chance := rand.New(rand.NewSource(1))
	count := map[api.Errno]int{}
	for range 100000 {
		b := make([]byte, chance.Intn(40))
		chance.Read(b)
		if chance.Intn(4) != 0 {
			b = append(headOf(byte(chance.Intn(4)), chance.Uint32()>>chance.Intn(33)), b...)
		}
		if chance.Intn(3) == 0 {
			b = turned(b, chance.Intn(8*20), chance.Uint32())
		}
		if chance.Intn(4) == 0 {
			b = b[:min(len(b), chance.Intn(20))]
		}
		want, is := slow(b)
		count[is]++
		if is != api.OK {
			refused(t, b, is)
			continue
		}
		fine(t, b, want)
		if back, e := Put(want.kind, want.id); e != api.OK || !bytes.Equal(back, b[:16]) {
			t.Errorf("Put%v = % x, %d, want % x", want, back, e, b[:16])
		}
	}
	if len(count) != 3 || min(count[api.OK], count[api.ErrTorn], count[api.ErrBad]) < 1000 {
		t.Error(count)
	}
}

// R3: what is told is new memory, and what is handed in stays as it was.
func TestNewMemory(t *testing.T) {
	first, _ := Put(Segment, 7)
	second, _ := Put(Segment, 7)
	_ = append(first, 1, 2, 3)
	clear(first)
	third, _ := Put(Segment, 7)
	if want := headOf(1, 7); !bytes.Equal(second, want) || !bytes.Equal(third, want) {
		t.Errorf("% x, % x, want % x", second, third, want)
	}
	b := append(headOf(1, 7), 9, 9, 9)
	was := bytes.Clone(b)
	fine(t, b, told{1, 7})
	fine(t, b[:16], told{1, 7})
	refused(t, b[:15], api.ErrTorn)
	refused(t, b[1:], api.ErrBad)
	if !bytes.Equal(b, was) {
		t.Errorf("% x became % x", was, b)
	}
}
