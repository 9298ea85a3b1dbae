package file

import (
	"bytes"
	"math"
	"math/rand"
	"slices"
	"testing"

	"hourbook/api"
)

// slow is a file as the chapter's words tell it: safe bytes, and units one by one: a byte to append, or, below 0, -1 less the size to cut to.
type slow struct {
	safe  []byte
	units []int
}

// behind is what the first k units make of the safe bytes.
func (s *slow) behind(k int) []byte {
	b := bytes.Clone(s.safe)
	for _, u := range s.units[:k] {
		if u >= 0 {
			b = append(b, byte(u))
		} else {
			b = b[:-1-u]
		}
	}
	return b
}

func (s *slow) bytes() []byte { return s.behind(len(s.units)) }

func (s *slow) add(b []byte) {
	for _, c := range b {
		s.units = append(s.units, int(c))
	}
}

func (s *slow) cut(size int) {
	if size < len(s.bytes()) {
		s.units = append(s.units, -1-size)
	}
}

func (s *slow) crash(k int) int {
	k = min(k, len(s.units))
	s.safe, s.units = s.behind(k), nil
	return k
}

func (s *slow) copy() *slow {
	return &slow{safe: bytes.Clone(s.safe), units: slices.Clone(s.units)}
}

// same asks all that a file tells against what it should have.
func same(t *testing.T, f *File, s *slow) {
	t.Helper()
	want := s.bytes()
	if f.Size() != len(want) || f.Safe() != len(s.safe) || f.Loose() != len(s.units) {
		t.Fatalf("Size, Safe, Loose: %d, %d, %d, want %d, %d, %d", f.Size(), f.Safe(), f.Loose(), len(want), len(s.safe), len(s.units))
	}
	if got, e := f.Read(0, len(want)); !bytes.Equal(got, want) || e != api.OK {
		t.Fatalf("it has %q, %d, want %q", got, e, want)
	}
}

// fine fails, unless each of the calls was.
func fine(t *testing.T, calls ...api.Errno) {
	t.Helper()
	for i, e := range calls {
		if e != api.OK {
			t.Fatalf("call %d tells %d", i, e)
		}
	}
}

// whole is all that f has.
func whole(t *testing.T, f *File) string {
	t.Helper()
	b, e := f.Read(0, f.Size())
	fine(t, e)
	return string(b)
}

// crashed is what f would have behind a crash.
func crashed(t *testing.T, f *File, keep int) string {
	t.Helper()
	c := f.Copy()
	_, e := c.Crash(keep)
	fine(t, e)
	return whole(t, c)
}

// mixed is a file with safe bytes, some of them cut off, and others appended behind: abcx and y, behind abcdef.
func mixed(t *testing.T) (*File, *slow) {
	t.Helper()
	f, s := New([]byte("abcdef")), &slow{safe: []byte("abcdef")}
	fine(t, f.Append([]byte("gh")), f.Cut(3), f.Append([]byte("x")), f.Append([]byte("yz")), f.Cut(5))
	s.add([]byte("gh"))
	s.cut(3)
	s.add([]byte("x"))
	s.add([]byte("yz"))
	s.cut(5)
	same(t, f, s)
	return f, s
}

// P5.1 to P5.4: the chapter's examples.
func TestExamples(t *testing.T) {
	f := New([]byte("abc"))
	fine(t, f.Append([]byte("de")), f.Cut(4), f.Append([]byte("fg")))
	if f.Size() != 6 || f.Safe() != 3 || f.Loose() != 5 {
		t.Error(f.Size(), f.Safe(), f.Loose())
	}
	if got := whole(t, f); got != "abcdfg" {
		t.Error(got)
	}
	for _, c := range []struct {
		keep, kept int
		want       string
	}{
		{0, 0, "abc"},
		{1, 1, "abcd"},
		{3, 3, "abcd"},
		{4, 4, "abcdf"},
		{9, 5, "abcdfg"},
	} {
		g := f.Copy()
		kept, e := g.Crash(c.keep)
		if kept != c.kept || e != api.OK || whole(t, g) != c.want || g.Safe() != len(c.want) || g.Loose() != 0 {
			t.Errorf("Crash(%d) = %d, %d: %q, %d safe, %d loose", c.keep, kept, e, whole(t, g), g.Safe(), g.Loose())
		}
	}
}

// P5.1: what is new is safe, of any number of bytes.
func TestNew(t *testing.T) {
	for _, b := range [][]byte{nil, {}, {0}, []byte("abc"), bytes.Repeat([]byte{0xff, 0, 7}, 5000)} {
		f := New(b)
		same(t, f, &slow{safe: b})
		if got := crashed(t, f, 0); got != string(b) {
			t.Errorf("of %d bytes a crash left %d", len(b), len(got))
		}
	}
}

// P5.1: a file as it is declared is one without bytes, to which all can be done.
func TestDeclared(t *testing.T) {
	calls := map[string]func(f *File) api.Errno{
		"Append": func(f *File) api.Errno { return f.Append([]byte("ab")) },
		"Cut":    func(f *File) api.Errno { return f.Cut(0) },
		"Sync":   (*File).Sync,
		"Crash":  func(f *File) api.Errno { _, e := f.Crash(3); return e },
		"Read":   func(f *File) api.Errno { _, e := f.Read(0, 0); return e },
	}
	for name, call := range calls {
		var f File
		same(t, &f, &slow{})
		same(t, f.Copy(), &slow{})
		s := &slow{}
		if e := call(&f); e != api.OK {
			t.Errorf("%s of one as it is declared = %d", name, e)
		}
		if name == "Append" {
			s.add([]byte("ab"))
		}
		same(t, &f, s)
	}
	var f File
	fine(t, f.Append([]byte("ab")), f.Sync(), f.Append([]byte("c")))
	if got := crashed(t, &f, 0); got != "ab" {
		t.Error(got)
	}
	if e := new(File).Flip(0, 1); e != api.ErrArg {
		t.Error("Flip of no byte:", e)
	}
}

// P5.1 to P5.4: of no file all is ErrNil, ahead of whatever else is wrong, or nothing.
func TestNone(t *testing.T) {
	var f *File
	if f.Size() != 0 || f.Safe() != 0 || f.Loose() != 0 || f.Copy() != nil {
		t.Error("something of no file")
	}
	for _, b := range [][]byte{nil, {}, {1}} {
		if e := f.Append(b); e != api.ErrNil {
			t.Error("Append:", e)
		}
	}
	if e := f.Sync(); e != api.ErrNil {
		t.Error("Sync:", e)
	}
	for _, n := range []int{math.MinInt, -1, 0, 1, math.MaxInt} {
		if e := f.Cut(n); e != api.ErrNil {
			t.Error("Cut:", n, e)
		}
		if kept, e := f.Crash(n); kept != 0 || e != api.ErrNil {
			t.Error("Crash:", n, kept, e)
		}
		if e := f.Flip(n, 1); e != api.ErrNil {
			t.Error("Flip:", n, e)
		}
		for _, m := range []int{math.MinInt, -1, 0, 1, math.MaxInt} {
			if b, e := f.Read(n, m); len(b) != 0 || e != api.ErrNil {
				t.Error("Read:", n, m, b, e)
			}
		}
	}
}

// P5.2: to append nothing, and to cut to what there is, is no deed.
func TestNoDeed(t *testing.T) {
	for _, b := range []string{"", "a", "abc"} {
		f := New([]byte(b))
		fine(t, f.Append(nil), f.Append([]byte{}), f.Cut(len(b)), f.Cut(f.Size()))
		same(t, f, &slow{safe: []byte(b)})
		if want := map[bool]api.Errno{true: api.OK, false: api.ErrArg}[len(b) > 0]; f.Flip(0, 0) != want {
			t.Errorf("of %q there is a deed", b)
		}
	}
	f, s := mixed(t)
	fine(t, f.Append(nil), f.Append([]byte{}), f.Cut(5))
	same(t, f, s)
}

// P5.2, P5.4: deeds that undo each other are there all the same.
func TestDeedsThatUndoEachOther(t *testing.T) {
	f := New([]byte("abc"))
	fine(t, f.Append([]byte("d")), f.Cut(3))
	if f.Loose() != 2 || f.Flip(0, 1) != api.ErrArg || crashed(t, f, 1) != "abcd" {
		t.Error(f.Loose(), crashed(t, f, 1))
	}
	f = New([]byte("abc"))
	fine(t, f.Cut(2), f.Append([]byte("c")))
	if f.Loose() != 2 || f.Flip(0, 1) != api.ErrArg || crashed(t, f, 1) != "ab" {
		t.Error(f.Loose(), crashed(t, f, 1))
	}
	fine(t, f.Sync(), f.Flip(0, 1))
}

// P5.2: a cut to each size, of safe bytes, of those behind them, and of both; and sizes that may not be, behind which nothing has changed.
func TestCut(t *testing.T) {
	for size := range 6 {
		f, s := mixed(t)
		fine(t, f.Cut(size))
		s.cut(size)
		same(t, f, s)
		fine(t, f.Append([]byte("QRSTUVWXYZ")))
		s.add([]byte("QRSTUVWXYZ"))
		same(t, f, s)
		fine(t, f.Sync())
		s.crash(len(s.units))
		same(t, f, s)
	}
	f, s := mixed(t)
	for _, size := range []int{math.MinInt, -6, -1, 6, 7, 8, 9, math.MaxInt} {
		if e := f.Cut(size); e != api.ErrArg {
			t.Errorf("Cut(%d) of 5 bytes = %d", size, e)
		}
		same(t, f, s)
	}
	if e := New(nil).Cut(1); e != api.ErrArg {
		t.Error("Cut(1) of no bytes:", e)
	}
}

// P5.2: behind a Sync all is safe, and deeds are counted anew.
func TestSync(t *testing.T) {
	f, s := mixed(t)
	for range 3 {
		fine(t, f.Sync())
		s.crash(len(s.units))
		same(t, f, s)
		if got := crashed(t, f, 0); got != "abcxy" {
			t.Error(got)
		}
	}
	fine(t, f.Cut(1), f.Append([]byte("Q")))
	if f.Loose() != 2 || f.Safe() != 5 || crashed(t, f, 0) != "abcxy" || crashed(t, f, 1) != "a" {
		t.Error(f.Loose(), f.Safe(), crashed(t, f, 0), crashed(t, f, 1))
	}
}

// P5.3: each number of units, and numbers that may not be, behind which nothing has changed.
func TestCrash(t *testing.T) {
	wants := []string{"abcdef", "abcdefg", "abcdefgh", "abc", "abcx", "abcxy", "abcxyz", "abcxy"}
	for keep, want := range wants {
		f, _ := mixed(t)
		if kept, e := f.Crash(keep); kept != keep || e != api.OK {
			t.Errorf("Crash(%d) = %d, %d", keep, kept, e)
		}
		same(t, f, &slow{safe: []byte(want)})
	}
	for _, keep := range []int{7, 8, 1000, math.MaxInt} {
		f, _ := mixed(t)
		if kept, e := f.Crash(keep); kept != 7 || e != api.OK {
			t.Errorf("Crash(%d) = %d, %d", keep, kept, e)
		}
		same(t, f, &slow{safe: []byte("abcxy")})
	}
	f, s := mixed(t)
	for _, keep := range []int{-1, -7, math.MinInt} {
		if kept, e := f.Crash(keep); kept != 0 || e != api.ErrArg {
			t.Errorf("Crash(%d) = %d, %d", keep, kept, e)
		}
		same(t, f, s)
	}
	safe := New([]byte("abc"))
	for _, keep := range []int{0, 1, math.MaxInt} {
		if kept, e := safe.Crash(keep); kept != 0 || e != api.OK {
			t.Errorf("Crash(%d) of no deed = %d, %d", keep, kept, e)
		}
		same(t, safe, &slow{safe: []byte("abc")})
	}
}

// P5.4: each stretch, of safe bytes, of those behind them, and of both; also of bytes that were cut off.
func TestRead(t *testing.T) {
	files := map[string]*File{"abcdef": New([]byte("abcdef")), "": New(nil)}
	files["abcxy"], _ = mixed(t)
	loose := New(nil)
	fine(t, loose.Append([]byte("pq")), loose.Append([]byte("r")))
	files["pqr"] = loose
	short := New([]byte("stuvw"))
	fine(t, short.Cut(2))
	files["st"] = short
	for want, f := range files {
		for at := range len(want) + 10 {
			for n := range len(want) + 10 {
				b, e := f.Read(at, n)
				if at+n <= len(want) {
					if string(b) != want[at:at+n] || e != api.OK {
						t.Errorf("of %q, Read(%d, %d) = %q, %d", want, at, n, b, e)
					}
				} else if len(b) != 0 || e != api.ErrShort {
					t.Errorf("of %q, Read(%d, %d) = %q, %d", want, at, n, b, e)
				}
			}
		}
	}
}

// P5.4: what may not be is told ahead of what there is not; great numbers do not wrap round.
func TestReadWrong(t *testing.T) {
	f, s := mixed(t)
	for _, c := range []struct {
		at, n int
		e     api.Errno
	}{
		{-1, 0, api.ErrArg},
		{-1, 1, api.ErrArg},
		{0, -1, api.ErrArg},
		{5, -1, api.ErrArg},
		{-1, -1, api.ErrArg},
		{math.MinInt, 0, api.ErrArg},
		{0, math.MinInt, api.ErrArg},
		{-1, 7, api.ErrArg},
		{-1, math.MaxInt, api.ErrArg},
		{6, -1, api.ErrArg},
		{math.MaxInt, -1, api.ErrArg},
		{6, 0, api.ErrShort},
		{5, 1, api.ErrShort},
		{0, 6, api.ErrShort},
		{0, math.MaxInt, api.ErrShort},
		{1, math.MaxInt, api.ErrShort},
		{5, math.MaxInt, api.ErrShort},
		{math.MaxInt, 0, api.ErrShort},
		{math.MaxInt, 1, api.ErrShort},
		{math.MaxInt, math.MaxInt, api.ErrShort},
	} {
		if b, e := f.Read(c.at, c.n); len(b) != 0 || e != c.e {
			t.Errorf("Read(%d, %d) = %q, %d, want %d", c.at, c.n, b, e, c.e)
		}
		same(t, f, s)
	}
}

// P5.4: each byte by each bits, twice: what was flipped is safe at once, and only that byte.
func TestFlip(t *testing.T) {
	row := []byte{0, 0xff, 'a', 0x80}
	f := New(row)
	for at := range row {
		for bits := range 256 {
			want := bytes.Clone(row)
			want[at] ^= byte(bits)
			fine(t, f.Flip(at, byte(bits)))
			same(t, f, &slow{safe: want})
			if got := crashed(t, f, 0); got != string(want) {
				t.Errorf("a crash left % x, want % x", got, want)
			}
			fine(t, f.Flip(at, byte(bits)))
			same(t, f, &slow{safe: row})
		}
	}
	for _, at := range []int{math.MinInt, -4, -1, 4, 5, math.MaxInt} {
		for _, bits := range []byte{0, 1, 0xff} {
			if e := f.Flip(at, bits); e != api.ErrArg {
				t.Errorf("Flip(%d, %x) of 4 bytes = %d", at, bits, e)
			}
		}
		same(t, f, &slow{safe: row})
	}
}

// P5.4: while there is a deed nothing is flipped, the safe bytes neither; behind a Sync, or a crash, it can be.
func TestFlipBehindDeeds(t *testing.T) {
	f, s := mixed(t)
	for at := -1; at < 9; at++ {
		if e := f.Flip(at, 1); e != api.ErrArg {
			t.Errorf("Flip(%d) = %d", at, e)
		}
	}
	same(t, f, s)
	if got := crashed(t, f, 0); got != "abcdef" {
		t.Error(got)
	}
	calls := map[string]func(f *File) api.Errno{
		"abcxy":  (*File).Sync,
		"abcdef": func(f *File) api.Errno { _, e := f.Crash(0); return e },
	}
	for want, call := range calls {
		g := f.Copy()
		fine(t, call(g))
		if e := g.Flip(len(want), 1); e != api.ErrArg {
			t.Errorf("Flip behind the end of %q = %d", want, e)
		}
		for at := range want {
			fine(t, g.Flip(at, 0x20))
		}
		if got := whole(t, g); got != string(bytes.ToUpper([]byte(want))) {
			t.Errorf("%q, flipped, is %q", want, got)
		}
	}
}

// P5.1 to P5.4: what is handed in stays, and is not kept; what is told is new memory.
func TestNewMemory(t *testing.T) {
	room := []byte("abcdefgh")
	f := New(room[:3])
	fine(t, f.Append(room[3:5]), f.Append(room[5:6]), f.Cut(4), f.Append([]byte("XY")))
	if string(room) != "abcdefgh" {
		t.Errorf("what was handed in is %q", room)
	}
	clear(room)
	wants := []string{"abc", "abcd", "abcde", "abcdef", "abcd", "abcdX", "abcdXY"}
	for keep, want := range wants {
		if got := crashed(t, f, keep); got != want {
			t.Errorf("Crash(%d) left %q, want %q", keep, got, want)
		}
	}
	for range 2 {
		b, _ := f.Read(0, 6)
		again, _ := f.Read(0, 6)
		_ = append(b[:2], "QQQQQQQQ"...)
		clear(b)
		if string(again) != "abcdXY" || whole(t, f) != "abcdXY" {
			t.Errorf("what was told is kept: %q, %q", again, whole(t, f))
		}
		fine(t, f.Sync())
	}
	b, _ := f.Read(0, 4)
	_ = append(b, "QQ"...)
	b, _ = f.Read(1, 0)
	_ = append(b, "QQ"...)
	if got := whole(t, f); got != "abcdXY" {
		t.Errorf("what was told has room in the file: %q", got)
	}
}

// P5.1: a copy has the same, and each of the two lives apart, whatever is done to either.
func TestCopy(t *testing.T) {
	calls := []func(f *File, s *slow){
		func(f *File, s *slow) { f.Append([]byte("Q")); s.add([]byte("Q")) },
		func(f *File, s *slow) { f.Cut(4); s.cut(4); f.Append([]byte("RS")); s.add([]byte("RS")) },
		func(f *File, s *slow) { f.Cut(1); s.cut(1); f.Append([]byte("TUVWX")); s.add([]byte("TUVWX")) },
		func(f *File, s *slow) { f.Sync(); s.crash(len(s.units)) },
		func(f *File, s *slow) { f.Crash(0); s.crash(0) },
		func(f *File, s *slow) { f.Crash(4); s.crash(4); f.Flip(2, 0xff); s.safe[2] ^= 0xff },
	}
	for _, first := range calls {
		for _, second := range calls {
			f, s := mixed(t)
			g, r := f.Copy(), s.copy()
			same(t, g, r)
			first(f, s)
			same(t, g, r)
			second(g, r)
			same(t, f, s)
			same(t, g, r)
			for keep := range 12 {
				eachBehind(t, f, s, keep)
				eachBehind(t, g, r, keep)
			}
		}
	}
	f := New([]byte("abc"))
	g := f.Copy()
	fine(t, f.Flip(0, 1), g.Flip(1, 1))
	if whole(t, f) != "`bc" || whole(t, g) != "acc" {
		t.Error(whole(t, f), whole(t, g))
	}
}

// P5.2, P5.3, P5.5, P5.6: each row of some deeds, of some safe bytes, by each crash, and each crash behind it.
func TestEachCrash(t *testing.T) {
	rows := []string{"p", "qr"}
	sizes := []int{0, 1, 2, 3, 4}
	var try func(f *File, s *slow, left int)
	try = func(f *File, s *slow, left int) {
		same(t, f, s)
		for keep := range len(s.units) + 2 {
			eachBehind(t, f, s, keep)
		}
		if left == 0 {
			return
		}
		for _, row := range rows {
			g, r := f.Copy(), s.copy()
			fine(t, g.Append([]byte(row)))
			r.add([]byte(row))
			try(g, r, left-1)
		}
		for _, size := range sizes {
			if size >= f.Size() {
				continue
			}
			g, r := f.Copy(), s.copy()
			fine(t, g.Cut(size))
			r.cut(size)
			try(g, r, left-1)
		}
	}
	for _, b := range []string{"", "a", "abc"} {
		try(New([]byte(b)), &slow{safe: []byte(b)}, 4)
	}
}

// eachBehind asks what a crash leaves, and that one behind it leaves the same.
func eachBehind(t *testing.T, f *File, s *slow, keep int) {
	t.Helper()
	g, r := f.Copy(), s.copy()
	want := r.crash(keep)
	if kept, e := g.Crash(keep); kept != want || e != api.OK {
		t.Fatalf("Crash(%d) = %d, %d, want %d", keep, kept, e, want)
	}
	same(t, g, r)
	for _, again := range []int{0, 1, math.MaxInt} {
		if kept, e := g.Crash(again); kept != 0 || e != api.OK {
			t.Fatalf("Crash(%d) behind a crash = %d, %d", again, kept, e)
		}
		same(t, g, r)
	}
}

// P5.5: of a file to which was only appended a crash leaves a beginning, at least the safe bytes; one that keeps all is a Sync, one that keeps nothing undoes all.
func TestBeginning(t *testing.T) {
	chance := rand.New(rand.NewSource(1))
	for range 300 {
		safe := make([]byte, chance.Intn(20))
		chance.Read(safe)
		f := New(safe)
		for range chance.Intn(6) {
			more := make([]byte, chance.Intn(5))
			chance.Read(more)
			fine(t, f.Append(more))
		}
		all := whole(t, f)
		for keep := range f.Loose() + 3 {
			want := all[:min(len(safe)+keep, len(all))]
			if got := crashed(t, f, keep); got != want {
				t.Fatalf("of %x a crash that keeps %d left %x", all, keep, got)
			}
		}
		g := f.Copy()
		fine(t, g.Sync())
		if whole(t, g) != crashed(t, f, f.Loose()) || crashed(t, f, 0) != string(safe) {
			t.Fatalf("of %x all is %x, nothing %x", all, crashed(t, f, f.Loose()), crashed(t, f, 0))
		}
	}
}

// P5.1 to P5.6: calls by chance, those that may not be among them, against the chapter's words.
func TestByChance(t *testing.T) {
	chance := rand.New(rand.NewSource(2))
	var f *File
	var s *slow
	done, refused := [6]int{}, [6]int{}
	for step := range 30000 {
		if step%200 == 0 {
			b := make([]byte, chance.Intn(40))
			chance.Read(b)
			f, s = New(b), &slow{safe: b}
		}
		size := len(s.bytes())
		n := chance.Intn(size+6) - 3
		// Syncs and crashes come seldom, or there would hardly be deeds.
		call := chance.Intn(4)
		if call == 3 && chance.Intn(3) == 0 {
			call = 4 + chance.Intn(2)
		}
		var got, want api.Errno
		switch call {
		case 0:
			b := make([]byte, chance.Intn(8))
			chance.Read(b)
			got = f.Append(b)
			s.add(b)
		case 1:
			got = f.Cut(n)
			if n < 0 || n > size {
				want = api.ErrArg
			} else {
				s.cut(n)
			}
		case 2:
			var b []byte
			m := chance.Intn(size+6) - 3
			b, got = f.Read(n, m)
			switch {
			case n < 0 || m < 0:
				want = api.ErrArg
			case n+m > size:
				want = api.ErrShort
			default:
				if row := s.bytes()[n : n+m]; !bytes.Equal(b, row) {
					t.Fatalf("step %d: Read(%d, %d) = %x, want %x", step, n, m, b, row)
				}
			}
		case 3:
			got = f.Flip(n, byte(step))
			if len(s.units) > 0 || n < 0 || n >= size {
				want = api.ErrArg
			} else {
				s.safe[n] ^= byte(step)
			}
		case 4:
			got = f.Sync()
			s.crash(len(s.units))
		case 5:
			keep := chance.Intn(len(s.units)+3) - 1
			var kept, should int
			kept, got = f.Crash(keep)
			if keep < 0 {
				want = api.ErrArg
			} else {
				should = s.crash(keep)
			}
			if kept != should {
				t.Fatalf("step %d: Crash(%d) = %d, want %d", step, keep, kept, should)
			}
		}
		if got != want {
			t.Fatalf("step %d, call %d of %d: %d, want %d", step, call, n, got, want)
		}
		if got == api.OK {
			done[call]++
		} else {
			refused[call]++
		}
		same(t, f, s)
	}
	for call := range done {
		may := call != 0 && call != 4
		if done[call] < 200 || may && refused[call] < 100 {
			t.Error("too few calls were done, or refused:", done, refused)
		}
	}
}

// P5.2, P5.3: of a great file many deeds, some of them of many units.
func TestGreat(t *testing.T) {
	row := bytes.Repeat([]byte("0123456789"), 100000)
	f := New(row)
	for i := range 20000 {
		fine(t, f.Append(row[:10]), f.Cut(len(row)-i-1))
	}
	fine(t, f.Append(row))
	if f.Size() != len(row)-20000+len(row) || f.Loose() != 20000*11+len(row) || f.Safe() != len(row) {
		t.Fatal(f.Size(), f.Loose(), f.Safe())
	}
	for _, c := range []struct {
		keep, cut int
		more      int
	}{
		{0, 0, 0},
		{10, 0, 10},
		{11, 1, 0},
		{11 * 10000, 10000, 0},
		{11*10000 + 7, 10000, 7},
		{11 * 20000, 20000, 0},
		{11*20000 + 123456, 20000, 123456},
		{math.MaxInt, 20000, len(row)},
	} {
		want := string(row[:len(row)-c.cut]) + string(row[:c.more])
		if got := crashed(t, f, c.keep); got != want {
			t.Errorf("Crash(%d) left %d bytes, want %d, or others", c.keep, len(got), len(want))
		}
	}
}
