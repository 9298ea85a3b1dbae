package prefix

import (
	"bytes"
	"math"
	"math/bits"
	"math/rand"
	"slices"
	"testing"

	"hourbook/api"
)

// edges are the numbers next to each power of 2, and some between them: rising, each once.
func edges() []uint64 {
	all := []uint64{0, 300, 0x1234, math.MaxUint64}
	for bit := range 64 {
		p := uint64(1) << bit
		all = append(all, p-1, p, p+1)
	}
	chance := rand.New(rand.NewSource(1))
	for range 500 {
		all = append(all, chance.Uint64()>>chance.Intn(64))
	}
	slices.Sort(all)
	return slices.Compact(all)
}

// formOf writes a form of k bytes bit by bit, as the chapter's words tell it.
func formOf(n uint64, k int) []byte {
	var row []byte
	wide := 7 * k
	for range k - 1 {
		row = append(row, 1)
	}
	if k == 9 {
		row, wide = bytes.Repeat([]byte{1}, 8), 64
	} else {
		row = append(row, 0)
	}
	for i := range wide {
		row = append(row, byte(n>>(wide-1-i)&1))
	}
	out := make([]byte, len(row)/8)
	for i, bit := range row {
		out[i/8] |= bit << (7 - i%8)
	}
	return out
}

// fits is whether a form of k bytes has room for n.
func fits(n uint64, k int) bool { return k == 9 || n < 1<<(7*k) }

func shortest(n uint64) []byte {
	k := 1
	for !fits(n, k) {
		k++
	}
	return formOf(n, k)
}

// P1.1, P1.2: the chapter's examples.
func TestExamples(t *testing.T) {
	for _, c := range []struct {
		n    uint64
		form []byte
	}{
		{0, []byte{0}},
		{0x7f, []byte{0x7f}},
		{0x80, []byte{0x80, 0x80}},
		{0x3fff, []byte{0xbf, 0xff}},
		{0x4000, []byte{0xc0, 0x40, 0}},
		{1<<56 - 1, []byte{0xfe, 0xff, 0xff, 0xff, 0xff, 0xff, 0xff, 0xff}},
		{1 << 56, []byte{0xff, 1, 0, 0, 0, 0, 0, 0, 0}},
		{math.MaxUint64, bytes.Repeat([]byte{0xff}, 9)},
	} {
		if got := Put(nil, c.n); !bytes.Equal(got, c.form) {
			t.Errorf("Put(%x) = % x, want % x", c.n, got, c.form)
		}
		if got := Size(c.n); got != len(c.form) {
			t.Errorf("Size(%x) = %d, want %d", c.n, got, len(c.form))
		}
		if n, k, e := Get(c.form); n != c.n || k != len(c.form) || e != api.OK {
			t.Errorf("Get(% x) = %x, %d, %d", c.form, n, k, e)
		}
	}
	if n, k, e := Get([]byte{0x80, 0x7f}); n != 0 || k != 0 || e != api.ErrForm {
		t.Error(n, k, e)
	}
	if n, k, e := Get([]byte{0xc0, 0x40}); n != 0 || k != 0 || e != api.ErrShort {
		t.Error(n, k, e)
	}
}

// P1.1.
func TestPutAndSize(t *testing.T) {
	for _, n := range edges() {
		want := shortest(n)
		if got := Put(nil, n); !bytes.Equal(got, want) {
			t.Errorf("Put(%x) = % x, want % x", n, got, want)
		}
		if got := Put([]byte{7, 0xff}, n); !bytes.Equal(got, append([]byte{7, 0xff}, want...)) {
			t.Errorf("Put behind 07 ff of %x = % x", n, got)
		}
		if got := Size(n); got != len(want) {
			t.Errorf("Size(%x) = %d, want %d", n, got, len(want))
		}
	}
}

// P1.1, P1.4: what is told is new memory, what is handed in is only read.
func TestNewMemory(t *testing.T) {
	calls := map[string]func(b []byte) []byte{
		"Put": func(b []byte) []byte { return Put(b, 1<<40) },
		"Fixed": func(b []byte) []byte {
			out, e := Fixed(b, 0x1234, 4)
			if e != api.OK {
				t.Error(e)
			}
			return out
		},
	}
	for name, call := range calls {
		whole := bytes.Repeat([]byte{5}, 32)
		out := call(whole[:3])
		again := call(whole[:3])
		if !bytes.Equal(out, again) {
			t.Errorf("%s: % x, then % x", name, out, again)
		}
		for i := range out {
			out[i] = 9
		}
		if !bytes.Equal(whole, bytes.Repeat([]byte{5}, 32)) {
			t.Errorf("%s changed what was handed in: % x", name, whole)
		}
		if again[0] != 5 {
			t.Errorf("%s: two answers share memory", name)
		}
	}
}

// P1.2: too few bytes are told ahead of a form that is too long.
func TestGetShort(t *testing.T) {
	for _, b := range [][]byte{nil, {}, {0x80}, {0xbf}, {0xc0, 0}, {0xff}, {0xff, 0, 0, 0, 0, 0, 0, 0}} {
		if n, k, e := Get(b); n != 0 || k != 0 || e != api.ErrShort {
			t.Errorf("Get(% x) = %x, %d, %d", b, n, k, e)
		}
	}
	for _, n := range edges() {
		form := shortest(n)
		for cut := range form {
			if m, k, e := Get(form[:cut]); m != 0 || k != 0 || e != api.ErrShort {
				t.Errorf("Get(% x) = %x, %d, %d", form[:cut], m, k, e)
			}
		}
	}
}

// P1.2: each form that is longer than it has to be.
func TestGetForm(t *testing.T) {
	for _, n := range edges() {
		for k := Size(n) + 1; k <= 9; k++ {
			form := append(formOf(n, k), 0xaa)
			if m, size, e := Get(form); m != 0 || size != 0 || e != api.ErrForm {
				t.Errorf("Get(% x) = %x, %d, %d", form, m, size, e)
			}
		}
	}
}

// P1.2, P1.5: all rows of two bytes, told as the words say or refused.
func TestGetAllPairs(t *testing.T) {
	for first := range 256 {
		for second := range 256 {
			b := []byte{byte(first), byte(second)}
			n, k, e := Get(b)
			switch {
			case first < 0x80:
				if n != uint64(first) || k != 1 || e != api.OK {
					t.Errorf("Get(% x) = %x, %d, %d", b, n, k, e)
				}
			case first >= 0xc0:
				if n != 0 || k != 0 || e != api.ErrShort {
					t.Errorf("Get(% x) = %x, %d, %d", b, n, k, e)
				}
			case first == 0x80 && second < 0x80:
				if n != 0 || k != 0 || e != api.ErrForm {
					t.Errorf("Get(% x) = %x, %d, %d", b, n, k, e)
				}
			default:
				if n != uint64(first-0x80)<<8+uint64(second) || k != 2 || e != api.OK {
					t.Errorf("Get(% x) = %x, %d, %d", b, n, k, e)
				}
			}
		}
	}
}

// P1.3.
func TestFold(t *testing.T) {
	for n, want := range map[int64]uint64{
		0: 0, -1: 1, 1: 2, -2: 3, 2: 4, 150: 300, -150: 299,
		math.MaxInt64: math.MaxUint64 - 1, math.MinInt64 + 1: math.MaxUint64 - 2, math.MinInt64: math.MaxUint64,
	} {
		if got := Fold(n); got != want {
			t.Errorf("Fold(%d) = %d, want %d", n, got, want)
		}
		if got := Unfold(want); got != n {
			t.Errorf("Unfold(%d) = %d, want %d", want, got, n)
		}
	}
}

// P1.4.
func TestFixed(t *testing.T) {
	for _, c := range []struct {
		n    uint64
		size int
		want []byte
		e    api.Errno
	}{
		{0x1234, 2, []byte{0x34, 0x12}, api.OK},
		{0x1234, 4, []byte{0x34, 0x12, 0, 0}, api.OK},
		{0, 1, []byte{0}, api.OK},
		{255, 1, []byte{255}, api.OK},
		{256, 1, nil, api.ErrLong},
		{math.MaxUint64, 8, bytes.Repeat([]byte{255}, 8), api.OK},
		{math.MaxUint64, 7, nil, api.ErrLong},
		{0, 0, nil, api.ErrArg},
		{0, 9, nil, api.ErrArg},
		{0, -1, nil, api.ErrArg},
		{0, math.MaxInt, nil, api.ErrArg},
		{0, math.MinInt, nil, api.ErrArg},
		{math.MaxUint64, 0, nil, api.ErrArg},
	} {
		got, e := Fixed(nil, c.n, c.size)
		if !bytes.Equal(got, c.want) || e != c.e {
			t.Errorf("Fixed(%x, %d) = % x, %d", c.n, c.size, got, e)
		}
		got, e = Fixed([]byte{1, 2}, c.n, c.size)
		if e != c.e || e != api.OK && len(got) != 0 || e == api.OK && !bytes.Equal(got, append([]byte{1, 2}, c.want...)) {
			t.Errorf("Fixed behind 01 02 of %x, %d = % x, %d", c.n, c.size, got, e)
		}
	}
}

// P1.4: the bound of each size, and what Read tells of what Fixed wrote.
func TestFixedBounds(t *testing.T) {
	for size := 1; size <= 8; size++ {
		for _, n := range edges() {
			b, e := Fixed(nil, n, size)
			if size < 8 && n >= 1<<(8*size) {
				if len(b) != 0 || e != api.ErrLong {
					t.Errorf("Fixed(%x, %d) = % x, %d", n, size, b, e)
				}
				continue
			}
			if len(b) != size || e != api.OK {
				t.Errorf("Fixed(%x, %d) = % x, %d", n, size, b, e)
			}
			var sum uint64
			for i := len(b) - 1; i >= 0; i-- {
				sum = sum*256 + uint64(b[i])
			}
			if sum != n {
				t.Errorf("Fixed(%x, %d) = % x", n, size, b)
			}
			if got, e := Read(append(b, 0xee, 0xee), size); got != n || e != api.OK {
				t.Errorf("Read(% x, %d) = %x, %d", b, size, got, e)
			}
		}
	}
}

// P1.4.
func TestRead(t *testing.T) {
	row := []byte{1, 2, 3, 4, 5, 6, 7, 8, 9}
	for _, c := range []struct {
		b    []byte
		size int
		want uint64
		e    api.Errno
	}{
		{row, 1, 1, api.OK},
		{row, 3, 0x030201, api.OK},
		{row, 8, 0x0807060504030201, api.OK},
		{row[:8], 8, 0x0807060504030201, api.OK},
		{row[:7], 8, 0, api.ErrShort},
		{row[:1], 2, 0, api.ErrShort},
		{nil, 1, 0, api.ErrShort},
		{nil, 8, 0, api.ErrShort},
		{row, 9, 0, api.ErrArg},
		{row, 0, 0, api.ErrArg},
		{nil, 0, 0, api.ErrArg},
		{nil, 9, 0, api.ErrArg},
		{row, -1, 0, api.ErrArg},
		{row, math.MaxInt, 0, api.ErrArg},
		{row, math.MinInt, 0, api.ErrArg},
	} {
		if got, e := Read(c.b, c.size); got != c.want || e != c.e {
			t.Errorf("Read(% x, %d) = %x, %d", c.b, c.size, got, e)
		}
	}
}

// P1.4.
func TestNarrow(t *testing.T) {
	for _, c := range []struct {
		n    uint64
		bits int
		want uint32
		e    api.Errno
	}{
		{0, 1, 0, api.OK},
		{1, 1, 1, api.OK},
		{2, 1, 0, api.ErrLong},
		{1<<24 - 1, 24, 1<<24 - 1, api.OK},
		{1 << 24, 24, 0, api.ErrLong},
		{math.MaxUint32, 32, math.MaxUint32, api.OK},
		{1 << 32, 32, 0, api.ErrLong},
		{math.MaxUint64, 32, 0, api.ErrLong},
		{0, 0, 0, api.ErrArg},
		{0, 33, 0, api.ErrArg},
		{math.MaxUint64, 33, 0, api.ErrArg},
		{0, -1, 0, api.ErrArg},
		{0, math.MaxInt, 0, api.ErrArg},
		{0, math.MinInt, 0, api.ErrArg},
	} {
		if got, e := Narrow(c.n, c.bits); got != c.want || e != c.e {
			t.Errorf("Narrow(%x, %d) = %x, %d", c.n, c.bits, got, e)
		}
	}
	for wide := 1; wide <= 32; wide++ {
		for _, n := range edges() {
			got, e := Narrow(n, wide)
			if n < 1<<wide && (uint64(got) != n || e != api.OK) || n >= 1<<wide && (got != 0 || e != api.ErrLong) {
				t.Errorf("Narrow(%x, %d) = %x, %d", n, wide, got, e)
			}
		}
	}
}

// P1.5: there and back, whatever stands behind.
func TestBack(t *testing.T) {
	behind := [][]byte{nil, {0}, {0xff}, {0x80, 0x7f}, bytes.Repeat([]byte{0xff}, 12)}
	for _, n := range edges() {
		form := Put(nil, n)
		for _, more := range behind {
			if m, k, e := Get(append(form[:len(form):len(form)], more...)); m != n || k != len(form) || e != api.OK {
				t.Errorf("Get(% x % x) = %x, %d, %d", form, more, m, k, e)
			}
		}
	}
}

// P1.5: of any bytes that Get takes, Put tells these again.
func TestBackFromBytes(t *testing.T) {
	chance := rand.New(rand.NewSource(2))
	taken := [10]int{}
	for range 20000 {
		b := make([]byte, 12)
		for i := range b {
			b[i] = byte(chance.Uint32())
		}
		b[0] |= 0xff << (8 - chance.Intn(9)) // or the long ones would hardly come
		n, k, e := Get(b)
		if e != api.OK {
			continue
		}
		taken[k]++
		if got := Put(nil, n); !bytes.Equal(got, b[:k]) {
			t.Errorf("Get(% x) = %x, %d; Put = % x", b, n, k, got)
		}
	}
	for k := 1; k <= 9; k++ {
		if taken[k] == 0 {
			t.Errorf("no form of %d bytes was tried", k)
		}
	}
}

// P1.5: no form begins another one. P1.6: forms stand in the order of numbers.
func TestOrderOfForms(t *testing.T) {
	all := edges()
	for i, n := range all {
		for _, m := range all[i+1:] {
			a, b := Put(nil, n), Put(nil, m)
			if bytes.Compare(a, b) >= 0 {
				t.Fatalf("%x: % x, %x: % x", n, a, m, b)
			}
			if bytes.HasPrefix(b, a) || bytes.HasPrefix(a, b) {
				t.Fatalf("% x begins % x", a, b)
			}
		}
	}
}

// P1.6: how many bits the number of a form of k bytes has: 64 at most of 9 bytes, whose first one holds none of them.
func TestBitsOfForms(t *testing.T) {
	for _, n := range edges() {
		k, long := Size(n), bits.Len64(n)
		if k < 9 && long > 7*k || k > 1 && long <= 7*(k-1) {
			t.Errorf("Size(%x) = %d, but it has %d bits", n, k, long)
		}
		if k != len(Put(nil, n)) {
			t.Errorf("Size(%x) = %d, but its form is % x", n, k, Put(nil, n))
		}
	}
}

// away is how far from 0 n is.
func away(n int64) uint64 {
	if n < 0 {
		return -uint64(n)
	}
	return uint64(n)
}

// P1.7.
func TestFolds(t *testing.T) {
	all := edges()
	for _, n := range all {
		if got := Fold(Unfold(n)); got != n {
			t.Errorf("Fold(Unfold(%x)) = %x", n, got)
		}
		if m := int64(n); Unfold(Fold(m)) != m {
			t.Errorf("Unfold(Fold(%d)) = %d", m, Unfold(Fold(m)))
		}
	}
	for _, n := range all {
		for _, m := range all {
			a, b := int64(n), int64(m)
			if away(a) < away(b) && Fold(a) >= Fold(b) {
				t.Fatalf("Fold(%d) = %d, Fold(%d) = %d", a, Fold(a), b, Fold(b))
			}
		}
	}
}
