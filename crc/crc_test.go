package crc

import (
	"bytes"
	"hash/crc32"
	"math"
	"math/big"
	"math/bits"
	"math/rand"
	"testing"

	"hourbook/api"
)

// order is the least number above 0 whose power of x is x to 0; as it is odd, x to 8 order is the least such power of x to 8, too.
const order = 1<<31 - 1

// theModulus is the modulus as the chapter's words list its powers: bit i is the coefficient of x to i.
func theModulus() *big.Int {
	m := new(big.Int)
	for _, i := range []int{32, 28, 27, 26, 25, 23, 22, 20, 19, 18, 14, 13, 11, 10, 9, 8, 6, 0} {
		m.SetBit(m, i, 1)
	}
	return m
}

// left is what a division of p by the modulus leaves, in 32 bits as the words say.
func left(p *big.Int) uint32 {
	m := theModulus()
	rest := new(big.Int).Set(p)
	for n := rest.BitLen(); n > 32; n = rest.BitLen() {
		rest.Xor(rest, new(big.Int).Lsh(m, uint(n-33)))
	}
	return bits.Reverse32(uint32(rest.Uint64()))
}

// slowTimes is Times as the words say: a product, then a division.
func slowTimes(a, b uint32) uint32 {
	p := new(big.Int)
	second := new(big.Int).SetUint64(uint64(bits.Reverse32(b)))
	for i := range 32 {
		if a>>(31-i)&1 != 0 {
			p.Xor(p, new(big.Int).Lsh(second, uint(i)))
		}
	}
	return left(p)
}

// slowPower is x to 8 n, by squares that are told by slowTimes.
func slowPower(n int) uint32 {
	p := left(big.NewInt(1))
	for i := 62; i >= 0; i-- {
		p = slowTimes(p, p)
		if n>>i&1 != 0 {
			p = slowTimes(p, left(big.NewInt(1<<8)))
		}
	}
	return p
}

// slowSum is the sum, bit by bit, as the words say.
func slowSum(b []byte) uint32 {
	row := make([]uint, 8*len(b)+32)
	for i := range 8 * len(b) {
		row[i] = uint(b[i/8]>>(i%8)) & 1
	}
	for i := range 32 {
		row[i] ^= 1
	}
	p := new(big.Int)
	for i, bit := range row {
		p.SetBit(p, len(row)-1-i, bit)
	}
	return ^left(p)
}

func anyBytes(chance *rand.Rand, n int) []byte {
	b := make([]byte, n)
	chance.Read(b)
	return b
}

// lowFirst is n in four bytes, the lowest one first.
func lowFirst(n uint32) []byte {
	return []byte{byte(n), byte(n >> 8), byte(n >> 16), byte(n >> 24)}
}

// rowOf is b and four bytes behind it that make the sum the one that is asked for.
func rowOf(t *testing.T, b []byte, sum uint32) []byte {
	back := slowPower(order - 4) // x to -32
	row := append(bytes.Clone(b), lowFirst(^slowSum(b)^slowTimes(^sum, back))...)
	if got := slowSum(row); got != sum {
		t.Fatalf("a row for %08x has the sum %08x", sum, got)
	}
	return row
}

// polynomials are all single powers, some edges and some by chance.
func polynomials() []uint32 {
	all := []uint32{0, math.MaxUint32, 0x82f63b78, 0xe3069283, 0xc0000000, 3}
	for i := range 32 {
		all = append(all, 1<<i)
	}
	chance := rand.New(rand.NewSource(3))
	for range 20 {
		all = append(all, chance.Uint32())
	}
	return all
}

// P2.1, P2.2, P2.8: the chapter's examples.
func TestExamples(t *testing.T) {
	digits := []byte("123456789")
	for _, c := range []struct {
		b   []byte
		sum uint32
	}{
		{digits, 0xe3069283},
		{nil, 0},
		{[]byte{}, 0},
		{make([]byte, 32), 0x8a9136aa},
		{bytes.Repeat([]byte{0xff}, 32), 0x62a8ab43},
		{[]byte("a"), 0xc1d04330},
	} {
		if got := Sum(c.b); got != c.sum {
			t.Errorf("Sum(% x) = %08x, want %08x", c.b, got, c.sum)
		}
	}
	for n, want := range []uint32{0x80000000, 0x800000} {
		if got, e := Power(n); got != want || e != api.OK {
			t.Errorf("Power(%d) = %08x, %d", n, got, e)
		}
	}
	if got := Cover(digits); !bytes.Equal(got, append(digits[:9:9], 0x83, 0x92, 0x06, 0xe3)) {
		t.Errorf("Cover = % x", got)
	}
}

// P2.1: rows of fewer than 32 bits and of more, and each byte alone.
func TestSum(t *testing.T) {
	chance := rand.New(rand.NewSource(1))
	var rows [][]byte
	for c := range 256 {
		rows = append(rows, []byte{byte(c)})
	}
	for n := range 70 {
		rows = append(rows, make([]byte, n), bytes.Repeat([]byte{0xff}, n), anyBytes(chance, n))
	}
	for _, b := range rows {
		before := bytes.Clone(b)
		if got, want := Sum(b), slowSum(b); got != want {
			t.Errorf("Sum(% x) = %08x, want %08x", b, got, want)
		}
		if !bytes.Equal(b, before) {
			t.Errorf("Sum changed what was handed in: % x", b)
		}
	}
	table := crc32.MakeTable(crc32.Castagnoli)
	for _, n := range []int{1000, 4096, 1 << 20} {
		b := anyBytes(chance, n)
		if got, want := Sum(b), crc32.Checksum(b, table); got != want {
			t.Errorf("Sum of %d bytes = %08x, want %08x", n, got, want)
		}
	}
}

// P2.1: of each sum, whatever row it is of; of nothing behind it nothing changes.
func TestMore(t *testing.T) {
	chance := rand.New(rand.NewSource(2))
	for _, sum := range polynomials() {
		if got := More(sum, nil); got != sum {
			t.Errorf("More(%08x, nil) = %08x", sum, got)
		}
		for _, ahead := range [][]byte{nil, {0}, anyBytes(chance, 7)} {
			row := rowOf(t, ahead, sum)
			for _, b := range [][]byte{{0}, {0xff}, {0, 0, 0, 0}, anyBytes(chance, 5)} {
				want := slowSum(append(row[:len(row):len(row)], b...))
				if got := More(sum, b); got != want {
					t.Errorf("More(%08x, % x) = %08x, want %08x", sum, b, got, want)
				}
			}
		}
	}
}

// P2.2.
func TestTimes(t *testing.T) {
	for _, c := range []struct{ a, b, want uint32 }{
		{1 << 29, 1 << 28, 1 << 26},
		{1 << 30, 1, 0x82f63b78},
		{1, 1 << 30, 0x82f63b78},
		{0, 0, 0},
		{0, math.MaxUint32, 0},
	} {
		if got := Times(c.a, c.b); got != c.want {
			t.Errorf("Times(%08x, %08x) = %08x, want %08x", c.a, c.b, got, c.want)
		}
	}
	for _, a := range polynomials() {
		for _, b := range polynomials() {
			if got, want := Times(a, b), slowTimes(a, b); got != want {
				t.Errorf("Times(%08x, %08x) = %08x, want %08x", a, b, got, want)
			}
		}
	}
}

// P2.2: small numbers against a division of x to 8 n, great ones against squares.
func TestPower(t *testing.T) {
	for n := range 200 {
		want := left(new(big.Int).Lsh(big.NewInt(1), uint(8*n)))
		if got, e := Power(n); got != want || e != api.OK {
			t.Errorf("Power(%d) = %08x, %d, want %08x", n, got, e, want)
		}
	}
	great := []int{order - 4, order - 1, order, order + 1, 1 << 60, 1 << 61, 1<<61 + 1, math.MaxInt - 1, math.MaxInt}
	for i := range 63 {
		great = append(great, 1<<i, 1<<i+1)
	}
	for _, n := range great {
		if got, e := Power(n); got != slowPower(n) || e != api.OK {
			t.Errorf("Power(%d) = %08x, %d, want %08x", n, got, e, slowPower(n))
		}
	}
	for _, n := range []int{-1, -8, math.MinInt, math.MinInt + 1} {
		if got, e := Power(n); got != 0 || e != api.ErrArg {
			t.Errorf("Power(%d) = %08x, %d", n, got, e)
		}
	}
}

// P2.3: of rows by chance, of any sum ahead, and of numbers of bytes that no row has.
func TestJoin(t *testing.T) {
	chance := rand.New(rand.NewSource(4))
	for _, sum := range polynomials() {
		ahead := rowOf(t, anyBytes(chance, 3), sum)
		for n := range 12 {
			b := anyBytes(chance, n)
			want := slowSum(append(ahead[:len(ahead):len(ahead)], b...))
			if got, e := Join(sum, slowSum(b), n); got != want || e != api.OK {
				t.Errorf("Join(%08x, sum of % x) = %08x, %d, want %08x", sum, b, got, e, want)
			}
		}
		for _, n := range []int{order, 1 << 61, math.MaxInt} {
			want := slowTimes(sum, slowPower(n)) ^ 0xe3069283
			if got, e := Join(sum, 0xe3069283, n); got != want || e != api.OK {
				t.Errorf("Join(%08x, .., %d) = %08x, %d, want %08x", sum, n, got, e, want)
			}
		}
	}
	if got, e := Join(5, 3, 0); got != 6 || e != api.OK {
		t.Errorf("Join(5, 3, 0) = %08x, %d", got, e)
	}
	for _, n := range []int{-1, math.MinInt} {
		if got, e := Join(5, 3, n); got != 0 || e != api.ErrArg {
			t.Errorf("Join(5, 3, %d) = %08x, %d", n, got, e)
		}
	}
}

// P2.4: in parts by chance, some of them empty, joined from either end.
func TestParts(t *testing.T) {
	chance := rand.New(rand.NewSource(5))
	for range 300 {
		whole := anyBytes(chance, chance.Intn(200))
		want := slowSum(whole)
		var parts [][]byte
		for rest := whole; len(rest) > 0; {
			n := min(chance.Intn(40), len(rest))
			parts = append(parts, rest[:n])
			rest = rest[n:]
		}
		var more, front, back uint32
		size := 0
		for i := range parts {
			more = More(more, parts[i])
			front = joined(t, front, Sum(parts[i]), len(parts[i]))
			last := parts[len(parts)-1-i]
			back = joined(t, Sum(last), back, size)
			size += len(last)
		}
		if more != want || front != want || back != want {
			t.Fatalf("% x: %08x by More, %08x and %08x by Join, want %08x", whole, more, front, back, want)
		}
	}
}

func joined(t *testing.T, a, b uint32, n int) uint32 {
	sum, e := Join(a, b, n)
	if e != api.OK {
		t.Fatal(e)
	}
	return sum
}

// P2.5.
func TestLaws(t *testing.T) {
	all := polynomials()
	for i, a := range all {
		if Times(a, 0x80000000) != a || Times(0x80000000, a) != a {
			t.Errorf("x to 0 changes %08x", a)
		}
		for j, b := range all {
			if Times(a, b) != Times(b, a) {
				t.Errorf("the product of %08x and %08x hangs on order", a, b)
			}
			c := all[(i+j)%len(all)]
			if Times(a, b^c) != Times(a, b)^Times(a, c) {
				t.Errorf("%08x by a sum of %08x and %08x", a, b, c)
			}
			if Times(a, Times(b, c)) != Times(Times(a, b), c) {
				t.Errorf("%08x, %08x, %08x by each other", a, b, c)
			}
		}
	}
	numbers := []int{0, 1, 2, 3, 7, 8, 100, 255, 256, 4096, 1 << 31, order, 1 << 40, 1 << 61, 1<<62 - 1}
	for _, n := range numbers {
		for _, m := range numbers {
			a, e1 := Power(n)
			b, e2 := Power(m)
			both, e3 := Power(n + m)
			if both != Times(a, b) || e1 != api.OK || e2 != api.OK || e3 != api.OK {
				t.Errorf("Power(%d + %d) = %08x, %d, %d, %d", n, m, both, e1, e2, e3)
			}
		}
	}
}

// turn turns the bits of b that are set in pattern, from the bit at on; what is behind the end is left out.
func turn(b []byte, at int, pattern uint32) []byte {
	out := bytes.Clone(b)
	for i := range 32 {
		if place := at + i; pattern>>i&1 != 0 && place < 8*len(out) {
			out[place/8] ^= 1 << (place % 8)
		}
	}
	return out
}

// P2.6: at each bit of a row and of its run, the bytes of the sum with them.
func TestTurnedBits(t *testing.T) {
	chance := rand.New(rand.NewSource(6))
	patterns := []uint32{1, 3, 5, 1<<31 | 1, math.MaxUint32, 0x82f63b79, 0x05ec76f1}
	for range 50 {
		patterns = append(patterns, chance.Uint32()|1)
	}
	for _, n := range []int{0, 1, 3, 4, 5, 9, 40} {
		b := anyBytes(chance, n)
		sum, run := Sum(b), Cover(b)
		for at := range 8 * len(run) {
			for _, pattern := range patterns {
				if at < 8*n && Sum(turn(b, at, pattern)) == sum {
					t.Errorf("% x, turned at %d by %08x, has the same sum", b, at, pattern)
				}
				if Right(turn(run, at, pattern)) {
					t.Errorf("the run % x, turned at %d by %08x, is right", run, at, pattern)
				}
			}
		}
	}
}

// P2.7: of rows shorter than 32 bits, too.
func TestXored(t *testing.T) {
	chance := rand.New(rand.NewSource(7))
	for n := range 50 {
		a, b, c := anyBytes(chance, n), anyBytes(chance, n), anyBytes(chance, n)
		all := make([]byte, n)
		for i := range all {
			all[i] = a[i] ^ b[i] ^ c[i]
		}
		if got := Sum(all); got != Sum(a)^Sum(b)^Sum(c) {
			t.Errorf("of %d bytes: %08x", n, got)
		}
	}
}

// P2.8: rows of all small lengths, and runs that are cut or go on.
func TestCoverAndRight(t *testing.T) {
	chance := rand.New(rand.NewSource(8))
	for n := range 60 {
		b := anyBytes(chance, n)
		run := Cover(b)
		if !bytes.Equal(run, append(bytes.Clone(b), lowFirst(slowSum(b))...)) {
			t.Errorf("Cover(% x) = % x", b, run)
		}
		before := bytes.Clone(run)
		if !Right(run) || !bytes.Equal(run, before) {
			t.Errorf("Right(% x) is false, or changed it", before)
		}
		for cut := range run {
			// A piece of a run may be right by chance, as 0 0 0 0 is: what the words say is asked.
			want := cut >= 4 && bytes.Equal(run[cut-4:cut], lowFirst(slowSum(run[:cut-4])))
			if Right(run[:cut]) != want {
				t.Errorf("Right(% x) = %v", run[:cut], !want)
			}
		}
		high := append(bytes.Clone(b), run[n+3], run[n+2], run[n+1], run[n])
		if Right(high) && !bytes.Equal(high, run) {
			t.Errorf("Right(% x), whose sum has its highest byte first", high)
		}
	}
}

// P2.8: what is no run: too few bytes, or another sum.
func TestNotRight(t *testing.T) {
	for _, run := range [][]byte{
		nil, {}, {0}, {0, 0}, {0, 0, 0},
		{1, 0, 0, 0}, {0, 0, 0, 1}, {0xff, 0xff, 0xff, 0xff}, {0, 0, 0, 0, 0},
		[]byte("123456789"),
		append([]byte("123456789"), 0xe3, 0x06, 0x92, 0x83),
		append([]byte("123456789"), 0x83, 0x92, 0x06, 0xe3, 0),
		append([]byte("123456788"), 0x83, 0x92, 0x06, 0xe3),
	} {
		if Right(run) {
			t.Errorf("Right(% x)", run)
		}
	}
	for _, b := range [][]byte{nil, {}} {
		if run := Cover(b); !bytes.Equal(run, make([]byte, 4)) || !Right(run) {
			t.Errorf("Cover of nothing = % x", run)
		}
	}
}

// P2.8: a run is new memory, and what was handed in is only read, the room behind it too.
func TestCoverNewMemory(t *testing.T) {
	whole := bytes.Repeat([]byte{5}, 32)
	run, again := Cover(whole[:3]), Cover(whole[:3])
	for i := range run {
		run[i] = 9
	}
	if !bytes.Equal(whole, bytes.Repeat([]byte{5}, 32)) {
		t.Errorf("Cover changed what was handed in: % x", whole)
	}
	if !bytes.Equal(again, Cover([]byte{5, 5, 5})) {
		t.Errorf("two runs share memory: % x", again)
	}
}
