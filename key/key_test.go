package key

import (
	"bytes"
	"math"
	"math/big"
	"math/rand"
	"slices"
	"strings"
	"testing"
)

// longs are how many bytes a row has: each edge that the chapter names, what is beside it, and some far away.
func longs() []int {
	return []int{0, 1, 2, 7, 8, 9, 15, 16, 17, 31, 32, 33, 55, 56, 57, 62, 63, 64, 65, 66, 127, 128, 255, 256, 257, 320, 1023, 1024, 1025, 65536, 65600, 1 << 20}
}

// of is a row of n bytes, all c.
func of(c byte, n int) []byte {
	return bytes.Repeat([]byte{c}, n)
}

// rising is a row of n bytes: 0, 1, 2 and so on.
func rising(n int) []byte {
	b := make([]byte, n)
	for i := range b {
		b[i] = byte(i)
	}
	return b
}

// rows are rows by chance of n bytes at most, whose bytes are mostly the least and the greatest ones, so that edges meet.
func rows(chance *rand.Rand, many, n int) [][]byte {
	edges := []byte{0, 0, 1, 'a', 0xfe, 0xff, 0xff, 0xff}
	var out [][]byte
	for range many {
		size := chance.Intn(n + 1)
		if chance.Intn(2) == 0 {
			size = n - chance.Intn(min(3, n+1))
		}
		b := make([]byte, size)
		tail := chance.Intn(size + 1)
		for i := range b {
			b[i] = edges[chance.Intn(len(edges))]
			if i >= tail {
				b[i] = 0xff
			}
			if chance.Intn(16) == 0 {
				b[i] = byte(chance.Intn(256))
			}
		}
		out = append(out, b)
	}
	return out
}

// P4.1, P4.2: the chapter's examples.
func TestExamples(t *testing.T) {
	for _, c := range []struct {
		key, want []byte
		is        bool
	}{
		{[]byte("ab"), []byte{'a', 'b', 0}, true},
		{append(of(0x61, 63), 0xff), append(of(0x61, 62), 0x62), true},
		{of(0xff, 64), nil, false},
	} {
		if got, is := After(c.key); !bytes.Equal(got, c.want) || is != c.is {
			t.Errorf("After(% x) = % x, %v", c.key, got, is)
		}
	}
	if !MayName("a b") || MayName("") {
		t.Error("MayName")
	}
}

// P4.1: at each edge, of bytes of any kind.
func TestMay(t *testing.T) {
	for _, n := range longs() {
		for _, c := range []byte{0, 'a', 0x80, 0xff} {
			row := of(c, n)
			if got := May(row); got != (n >= 1 && n <= 64) {
				t.Errorf("May of %d bytes %x = %v", n, c, got)
			}
			if got := MayValue(row); got != (n <= 1024) {
				t.Errorf("MayValue of %d bytes %x = %v", n, c, got)
			}
			if got := MayName(string(row)); got != (n >= 1 && n <= 32) {
				t.Errorf("MayName of %d bytes %x = %v", n, c, got)
			}
		}
	}
	if May(nil) || !MayValue(nil) {
		t.Error("nil is not as an empty one")
	}
}

// P4.1: a name's length is told in bytes, not in letters.
func TestMayNameOfLetters(t *testing.T) {
	if !MayName(strings.Repeat("é", 16)) || MayName(strings.Repeat("é", 17)) || MayName(strings.Repeat("é", 32)) {
		t.Error("letters are counted, not bytes")
	}
	if !MayName("\xff\x00\n") {
		t.Error("bytes that are no letters")
	}
}

// slowCompare is the order as the chapter's words tell it.
func slowCompare(a, b []byte) int {
	for i := range min(len(a), len(b)) {
		if int(a[i]) < int(b[i]) {
			return -1
		}
		if int(a[i]) > int(b[i]) {
			return 1
		}
	}
	switch {
	case len(a) < len(b):
		return -1
	case len(a) > len(b):
		return 1
	}
	return 0
}

// P4.1: rows in their order, each against each.
func TestCompare(t *testing.T) {
	row := [][]byte{
		nil, {0}, {0, 0}, {0, 0xff}, {1}, []byte("A"), []byte("B"), []byte("a"), []byte("a\x00"), []byte("a\x00\xff"),
		[]byte("aa"), []byte("ab"), []byte("b"), {0x7f}, {0x7f, 0xff}, {0x80}, {0x80, 0}, {0xff}, {0xff, 0}, of(0xff, 63), of(0xff, 64), of(0xff, 65), of(0xff, 300),
	}
	for i, a := range row {
		for j, b := range row {
			want := 0
			if i < j {
				want = -1
			} else if i > j {
				want = 1
			}
			if got := Compare(a, b); got != want {
				t.Errorf("Compare(% x, % x) = %d", a, b, got)
			}
		}
	}
	if Compare(nil, []byte{}) != 0 || Compare([]byte{}, nil) != 0 {
		t.Error("nil and an empty row are not one")
	}
	chance := rand.New(rand.NewSource(1))
	some := rows(chance, 300, 10)
	for _, a := range some {
		for _, b := range some {
			if got := Compare(a, b); got != slowCompare(a, b) {
				t.Errorf("Compare(% x, % x) = %d", a, b, got)
			}
		}
	}
}

// howMany is how many rows there are of n bytes at most, the empty one too.
func howMany(n int) *big.Int {
	sum := new(big.Int)
	for i := range n + 1 {
		sum.Add(sum, new(big.Int).Lsh(big.NewInt(1), uint(8*i)))
	}
	return sum
}

// rank is how many rows of 64 bytes at most are below key, in the order of rows: no two keys have one, and none is left out.
func rank(key []byte) *big.Int {
	sum := new(big.Int)
	for i, c := range key {
		below := howMany(63 - i)
		below.Mul(below, big.NewInt(int64(c)))
		sum.Add(sum, below)
		sum.Add(sum, big.NewInt(1)) // what stands ahead of this byte, as a row of its own
	}
	return sum
}

// keysToGoOn are keys at each edge of After, and some by chance.
func keysToGoOn() [][]byte {
	var out [][]byte
	for n := 1; n <= 64; n++ {
		out = append(out, of(0, n), of('z', n), of(0xfe, n), of(0xff, n), rising(n))
	}
	for cut := range 64 {
		for _, c := range []byte{0, 1, 'a', 0x7f, 0x80, 0xfe, 0xff} {
			row := of(0xff, 64)
			row[cut] = c
			out = append(out, row, append(of('a', cut), row[cut:]...))
		}
	}
	chance := rand.New(rand.NewSource(2))
	for _, row := range rows(chance, 2000, 64) {
		if len(row) > 0 {
			out = append(out, row)
		}
	}
	return out
}

// P4.2, P4.6: each key's place among all keys is told by counting them: the one above has the next place, and only the last key has none.
func TestAfterIsTheNextKey(t *testing.T) {
	last := new(big.Int).Sub(howMany(64), big.NewInt(1))
	none := 0
	for _, k := range keysToGoOn() {
		next, is := After(k)
		if rank(k).Cmp(last) == 0 {
			none++
			if len(next) != 0 || is {
				t.Errorf("After(% x) = % x, %v", k, next, is)
			}
			continue
		}
		if !is || len(next) < 1 || len(next) > 64 {
			t.Errorf("After(% x) = % x, %v", k, next, is)
			continue
		}
		if slowCompare(k, next) != -1 || rank(next).Cmp(new(big.Int).Add(rank(k), big.NewInt(1))) != 0 {
			t.Errorf("After(% x) = % x: it is not the next one", k, next)
		}
	}
	if none == 0 {
		t.Error("the last key was not asked")
	}
}

// P4.6: of many keys near each other none lies between one of them and the least one above it.
func TestNoneBetween(t *testing.T) {
	chance := rand.New(rand.NewSource(3))
	var all [][]byte
	for _, k := range rows(chance, 400, 4) {
		if len(k) > 0 {
			all = append(all, k, append(of(0xff, 60), k...), append(of('a', 60), k...))
		}
	}
	for _, k := range all {
		next, is := After(k)
		for _, m := range all {
			if slowCompare(k, m) < 0 && (!is || slowCompare(m, next) < 0) {
				t.Fatalf("% x lies above % x, below % x, %v", m, k, next, is)
			}
		}
	}
}

// P4.2: of what may not be as a key there is none above.
func TestAfterNoKey(t *testing.T) {
	for _, n := range longs() {
		if n >= 1 && n <= 64 {
			continue
		}
		for _, c := range []byte{0, 'a', 0xff} {
			if got, is := After(of(c, n)); len(got) != 0 || is {
				t.Errorf("After of %d bytes %x = % x, %v", n, c, got, is)
			}
		}
	}
	if got, is := After(nil); len(got) != 0 || is {
		t.Error(got, is)
	}
}

// P4.2: what is answered is new memory, and what is handed in is only read, the room behind it too.
func TestAfterNewMemory(t *testing.T) {
	for _, n := range []int{1, 5, 8, 63, 64} {
		whole := of('a', 80)
		one, _ := After(whole[:n])
		two, _ := After(whole[:n])
		want := bytes.Clone(two)
		for i := range one {
			one[i] = 9
		}
		if !bytes.Equal(whole, of('a', 80)) {
			t.Errorf("After of %d bytes changed what was handed in", n)
		}
		if !bytes.Equal(two, want) {
			t.Errorf("After of %d bytes: two answers share memory", n)
		}
		whole[0] = 'x'
		if !bytes.Equal(two, want) {
			t.Errorf("After of %d bytes keeps what was handed in", n)
		}
	}
}

// modulo is n modulo 2^64.
func modulo(n *big.Int) *big.Int {
	return n.And(n, new(big.Int).SetUint64(math.MaxUint64))
}

// slowHash is the hash as the chapter's words tell it, in numbers without bounds.
func slowHash(seed uint64, row []byte) uint64 {
	long, _ := new(big.Int).SetString("9e3779b97f4a7c15", 16)
	by, _ := new(big.Int).SetString("bf58476d1ce4e5b9", 16)
	long.Mul(long, big.NewInt(int64(len(row))))
	h := modulo(long).Xor(long, new(big.Int).SetUint64(seed))
	for at := 0; at < len(row); at += 8 {
		w := new(big.Int)
		for i := 7; i >= 0; i-- {
			w.Lsh(w, 8)
			if at+i < len(row) {
				w.Add(w, big.NewInt(int64(row[at+i])))
			}
		}
		h.Xor(h, w)
		modulo(h.Mul(h, by))
		h.Xor(h, new(big.Int).Rsh(h, 32))
	}
	return h.Uint64()
}

// P4.3: numbers that were told by another program, from the chapter's words.
func TestHashNumbers(t *testing.T) {
	for _, c := range []struct {
		seed uint64
		row  []byte
		want uint64
	}{
		{0, nil, 0},
		{7, nil, 7},
		{math.MaxUint64, nil, math.MaxUint64},
		{0, []byte{0}, 0xd67411c4baf265e9},
		{0, []byte("a"), 0xd8369342fd412096},
		{1, []byte("a"), 0x978edaafd5d24322},
		{math.MaxUint64, []byte("a"), 0x68712550d5d24323},
		{0, []byte("abcdefgh"), 0x51e2e4c97cf2b488},
		{0, []byte("abcdefghi"), 0x69a7a2af2147ae7b},
		{42, []byte("hourbook"), 0x3bd1da059cd3881f},
		{42, of(0xff, 64), 0x6b5d3a7cab76c735},
		{5, rising(64), 0x7ad505844652b137},
		{5, rising(65), 0xda722badb80b6b32},
		{0, rising(1000), 0xec17b0750d2a9778},
	} {
		if got := Hash(c.seed, c.row); got != c.want {
			t.Errorf("Hash(%x, %d bytes: % .12x) = %x, want %x", c.seed, len(c.row), c.row, got, c.want)
		}
	}
}

// seeds are such by which a hash is asked.
func seeds() []uint64 {
	return []uint64{0, 1, 2, 42, 1 << 31, 1 << 32, 1<<32 + 1, 1 << 63, 0x9e3779b97f4a7c15, math.MaxUint64 - 1, math.MaxUint64}
}

// P4.3: of any row, those that are no keys, too; it is only read.
func TestHash(t *testing.T) {
	chance := rand.New(rand.NewSource(4))
	some := rows(chance, 300, 80)
	for _, n := range longs() {
		if n <= 1025 {
			some = append(some, of(0, n), of(0xff, n), rising(n))
		}
	}
	for _, row := range some {
		before := bytes.Clone(row)
		for _, seed := range append(seeds(), chance.Uint64()) {
			if got, want := Hash(seed, row), slowHash(seed, row); got != want {
				t.Fatalf("Hash(%x, % x) = %x, want %x", seed, row, got, want)
			}
		}
		if !bytes.Equal(row, before) {
			t.Errorf("Hash changed % x", before)
		}
	}
	for _, n := range longs() {
		if n > 1025 {
			if got, want := Hash(3, rising(n)), slowHash(3, rising(n)); got != want {
				t.Errorf("Hash of %d bytes = %x, want %x", n, got, want)
			}
		}
	}
}

// undo is h ahead of a word's last two steps, xored with the word: what h was ahead of the word, or the word, if that is told.
func undo(h uint64) uint64 {
	h ^= h >> 32
	by := uint64(0xbf58476d1ce4e5b9)
	back := by // what by, multiplied with, is 1: each turn doubles how many bits of it are right, from 3 on
	for range 5 {
		back *= 2 - by*back
	}
	return h * back
}

// P4.7: of a row of at most eight bytes the hash, the seed and the length tell the row back: no two rows have one hash.
func TestHashTellsShortRows(t *testing.T) {
	chance := rand.New(rand.NewSource(5))
	for n := 1; n <= 8; n++ {
		for _, row := range append(rows(chance, 500, n), of(0, n), of(0xff, n), rising(n)) {
			if len(row) == 0 {
				continue
			}
			for _, seed := range seeds() {
				word := undo(Hash(seed, row)) ^ seed ^ uint64(len(row))*0x9e3779b97f4a7c15
				for i := range 8 {
					want := byte(0)
					if i < len(row) {
						want = row[i]
					}
					if byte(word>>(8*i)) != want {
						t.Fatalf("Hash(%x, % x) tells the word %x", seed, row, word)
					}
				}
			}
		}
	}
}

// P4.7: unlike rows of one length, asked directly: all of one and of two bytes, and those that differ from one in a single byte.
func TestHashUnlikeRows(t *testing.T) {
	for _, seed := range seeds() {
		seen := map[uint64]int{}
		for n := range 1 << 16 {
			h := Hash(seed, []byte{byte(n), byte(n >> 8)})
			if old, is := seen[h]; is {
				t.Fatalf("by %x, %x and %x have one hash", seed, old, n)
			}
			seen[h] = n
		}
		for n := 1; n <= 8; n++ {
			seen := map[uint64][]byte{Hash(seed, of(7, n)): of(7, n)}
			for at := range n {
				for c := range 256 {
					row := of(7, n)
					row[at] = byte(c)
					h := Hash(seed, row)
					if old, is := seen[h]; is && !bytes.Equal(old, row) {
						t.Fatalf("by %x, % x and % x have one hash", seed, old, row)
					}
					seen[h] = row
				}
			}
		}
	}
}

// P4.7: of a row of at least one byte the hash tells the seed back: no two seeds tell one hash.
func TestHashTellsSeeds(t *testing.T) {
	chance := rand.New(rand.NewSource(6))
	for _, row := range append(rows(chance, 300, 70), rising(1), rising(64), rising(200)) {
		if len(row) == 0 {
			continue
		}
		told := map[uint64]uint64{}
		for _, seed := range append(seeds(), chance.Uint64()) {
			hash := Hash(seed, row)
			if old, is := told[hash]; is && old != seed {
				t.Fatalf("%x and %x tell one hash of % x", old, seed, row)
			}
			told[hash] = seed
			h := hash
			padded := append(bytes.Clone(row), of(0, 7)...)
			for at := (len(row) - 1) / 8 * 8; at >= 0; at -= 8 {
				h = undo(h)
				for i := range 8 {
					h ^= uint64(padded[at+i]) << (8 * i)
				}
			}
			if back := h ^ uint64(len(row))*0x9e3779b97f4a7c15; back != seed {
				t.Fatalf("Hash(%x, % x) tells the seed %x", seed, row, back)
			}
		}
	}
}

// P4.4: prints that are written out.
func TestOfPrints(t *testing.T) {
	for _, c := range []struct {
		key  []byte
		want Print
	}{
		{[]byte{0}, Print{Long: 1}},
		{[]byte("a"), Print{Long: 1, Words: [8]uint64{0x61}}},
		{[]byte("ab"), Print{Long: 2, Words: [8]uint64{0x6261}}},
		{[]byte("abcdefgh"), Print{Long: 8, Words: [8]uint64{0x6867666564636261}}},
		{[]byte("abcdefghi"), Print{Long: 9, Words: [8]uint64{0x6867666564636261, 0x69}}},
		{of(0xff, 63), Print{63, [8]uint64{1<<64 - 1, 1<<64 - 1, 1<<64 - 1, 1<<64 - 1, 1<<64 - 1, 1<<64 - 1, 1<<64 - 1, 1<<56 - 1}}},
		{of(0xff, 64), Print{64, [8]uint64{1<<64 - 1, 1<<64 - 1, 1<<64 - 1, 1<<64 - 1, 1<<64 - 1, 1<<64 - 1, 1<<64 - 1, 1<<64 - 1}}},
		{of(0, 64), Print{Long: 64}},
	} {
		if got := Of(c.key); got != c.want {
			t.Errorf("Of(% x) = %x, want %x", c.key, got, c.want)
		}
	}
}

// P4.4: the print of what may not be is the zero one.
func TestOfNoKey(t *testing.T) {
	for _, n := range longs() {
		if n >= 1 && n <= 64 {
			continue
		}
		for _, c := range []byte{0, 'a', 0xff} {
			if got := Of(of(c, n)); got != (Print{}) {
				t.Errorf("Of of %d bytes %x = %x", n, c, got)
			}
		}
	}
	if got := Of(nil); got != (Print{}) {
		t.Errorf("Of(nil) = %x", got)
	}
}

// P4.4: prints of no key: by their length, and by what stands behind it.
func TestKeyOfNoPrint(t *testing.T) {
	for long := range 256 {
		full := Print{Long: uint8(long)}
		for i := range full.Words {
			full.Words[i] = math.MaxUint64
		}
		none := long < 1 || long > 64
		for _, p := range []Print{{Long: uint8(long)}, full, {Long: uint8(long), Words: [8]uint64{1}}} {
			_, is := p.Key()
			if want := !none && (long == 64 || p != full); is != want {
				t.Errorf("Key() of %x: %v", p, is)
			}
			if got, is := p.Key(); !is && len(got) != 0 {
				t.Errorf("Key() of %x = % x", p, got)
			}
		}
		if none {
			continue
		}
		for at := long; at < 64; at++ {
			for _, bit := range []int{0, 3, 7} {
				p := Of(rising(long))
				p.Words[at/8] |= 1 << (8*(at%8) + bit)
				if got, is := p.Key(); len(got) != 0 || is {
					t.Errorf("Key() of %x = % x, %v", p, got, is)
				}
			}
		}
	}
}

// someKeys are keys of each length, with 00 and ff at their ends, no two the same.
func someKeys() [][]byte {
	chance := rand.New(rand.NewSource(7))
	all := keysToGoOn()
	for n := 1; n <= 64; n++ {
		for range 20 {
			k := make([]byte, n)
			chance.Read(k)
			all = append(all, k)
		}
		for at := range n {
			one := of(0, n)
			one[at] = 1
			all = append(all, one)
		}
	}
	slices.SortFunc(all, slowCompare)
	return slices.CompactFunc(all, bytes.Equal)
}

// P4.4, P4.5: Key tells back what Of was told, and no two keys have one print.
func TestOneToOne(t *testing.T) {
	seen := map[Print][]byte{}
	for _, k := range someKeys() {
		before := bytes.Clone(k)
		p := Of(k)
		if int(p.Long) != len(k) {
			t.Errorf("Of(% x) has length %d", k, p.Long)
		}
		if old, is := seen[p]; is {
			t.Errorf("% x and % x have one print", old, k)
		}
		seen[p] = k
		if got, is := p.Key(); !bytes.Equal(got, k) || !is {
			t.Errorf("Key() of Of(% x) = % x, %v", k, got, is)
		}
		if !bytes.Equal(k, before) {
			t.Errorf("Of changed % x", before)
		}
	}
}

// P4.4, P4.5: what Key tells, asked for its print again, is the print, whatever print it was.
func TestBackFromPrints(t *testing.T) {
	chance := rand.New(rand.NewSource(8))
	taken := 0
	for range 20000 {
		p := Print{Long: uint8(chance.Intn(70))}
		for i := range p.Words {
			if 8*i < int(p.Long) || chance.Intn(64) == 0 {
				p.Words[i] = chance.Uint64() >> (8 * chance.Intn(8))
			}
		}
		k, is := p.Key()
		if !is {
			if len(k) != 0 {
				t.Errorf("Key() of %x = % x, %v", p, k, is)
			}
			continue
		}
		taken++
		if Of(k) != p {
			t.Errorf("Key() of %x = % x, whose print is %x", p, k, Of(k))
		}
	}
	if taken < 2000 {
		t.Error("only", taken, "were taken")
	}
}

// P4.4: what Key tells is new memory.
func TestKeyNewMemory(t *testing.T) {
	p := Of([]byte("abcdefghi"))
	one, _ := p.Key()
	two, _ := p.Key()
	one[0], one[8] = 'x', 'x'
	if string(two) != "abcdefghi" || p != Of([]byte("abcdefghi")) {
		t.Errorf("%q", two)
	}
}
