package seg

import (
	"bytes"
	"encoding/binary"
	"fmt"
	"hash/crc32"
	"math"
	"math/rand"
	"reflect"
	"slices"
	"strings"
	"testing"

	"hourbook/api"
	"hourbook/folder"
	"hourbook/fs"
	"hourbook/scan"
)

// covered is a row with its sum behind it, told by another program's sums.
func covered(row []byte) []byte {
	sum := crc32.Checksum(row, crc32.MakeTable(crc32.Castagnoli))
	return binary.LittleEndian.AppendUint32(bytes.Clone(row), sum)
}

// topOf is the head of a segment's file, as chapter 10 tells it.
func topOf(id uint32) []byte {
	return covered(binary.LittleEndian.AppendUint32([]byte("hourbk1\x01"), id))
}

// runOf is a record's run, as chapter 8 tells it.
func runOf(r api.Record) []byte {
	row := []byte{byte(r.Kind), byte(len(r.Key))}
	row = binary.LittleEndian.AppendUint16(row, uint16(len(r.Value)))
	row = append(row, binary.LittleEndian.AppendUint64(nil, r.Seq)[:6]...)
	row = append(row, binary.LittleEndian.AppendUint32(nil, r.Prev.Seg)[:3]...)
	row = binary.LittleEndian.AppendUint32(row, r.Prev.Off)
	row = append(covered(row), r.Key...)
	return covered(append(row, r.Value...))
}

// nameOf is a segment's name, with its digits told by another program.
func nameOf(id uint32) string { return fmt.Sprintf("seg-%06x", id) }

// ids are ids at the edges, and each single bit; isId tells which of them are ids.
func ids() []uint32 {
	out := []uint32{0, 3, 9, 10, 15, 255, 257, 0xabcdef, 0x012345, 1<<24 - 2, 1<<24 - 1, 1<<24 + 1, 1<<25 - 1, math.MaxInt32, math.MaxUint32}
	for i := range 32 {
		out = append(out, 1<<i)
	}
	return out
}

func isId(id uint32) bool { return id >= 1 && id <= 16777215 }

// disk is a file system without files.
func disk(t *testing.T, quota int) *fs.FS {
	t.Helper()
	f, e := fs.New(quota)
	if e != api.OK {
		t.Fatal(e)
	}
	return f
}

// created is a new segment on f.
func created(t *testing.T, f *fs.FS, id uint32) *Seg {
	t.Helper()
	x, e := Create(f, id)
	if e != api.OK || x == nil {
		t.Fatalf("Create %d = %v, %d", id, x, e)
	}
	return x
}

// known is the segment of which that seal is known.
func known(t *testing.T, f *fs.FS, s api.Seal) *Seg {
	t.Helper()
	x, e := Of(f, s)
	if e != api.OK || x == nil {
		t.Fatalf("Of %v = %v, %d", s, x, e)
	}
	return x
}

// put lays a file of these bytes, all of it safe, without any call of the package.
func put(t *testing.T, f *fs.FS, name string, b []byte) {
	t.Helper()
	if e := f.Create(name); e != api.OK {
		t.Fatal(name, e)
	}
	if e := f.Append(name, b); e != api.OK {
		t.Fatal(name, e)
	}
	if f.Sync(name) != api.OK || f.SyncDir() != api.OK {
		t.Fatal(name)
	}
}

// bytesOf is all that the file has.
func bytesOf(t *testing.T, f *fs.FS, name string) []byte {
	t.Helper()
	size, e := f.Size(name)
	if e != api.OK {
		t.Fatal(name, e)
	}
	b, e := f.ReadAt(name, 0, size)
	if e != api.OK {
		t.Fatal(name, e)
	}
	return b
}

// is asks what is known of x, and what of it is safe.
func is(t *testing.T, x *Seg, want api.Seal, safe uint64) {
	t.Helper()
	if x.Seal() != want || x.Safe() != safe {
		t.Errorf("%v, safe %d, want %v, %d", x.Seal(), x.Safe(), want, safe)
	}
}

// appended appends r, and asks that it is told to stand behind all that is known.
func appended(t *testing.T, x *Seg, r api.Record) api.Loc {
	t.Helper()
	ahead, safe := x.Seal(), x.Safe()
	l, e := x.Append(r)
	if e != api.OK || l != (api.Loc{Seg: ahead.Id, Off: ahead.Size}) {
		t.Fatalf("Append of %d behind %v = %v, %d", r.Seq, ahead, l, e)
	}
	want := api.Seal{Id: ahead.Id, Size: ahead.Size + uint32(len(runOf(r))), Many: ahead.Many + 1, First: ahead.First, Last: r.Seq}
	if ahead.Many == 0 {
		want.First = r.Seq
	}
	is(t, x, want, safe)
	return l
}

// notAppended asks that Append of r tells that error, and leaves all as it was.
func notAppended(t *testing.T, x *Seg, r api.Record, want api.Errno) {
	t.Helper()
	ahead, safe := x.Seal(), x.Safe()
	if l, e := x.Append(r); e != want || l != (api.Loc{}) {
		t.Errorf("Append of %d behind %v = %v, %d, want %d", r.Seq, ahead, l, e, want)
	}
	is(t, x, ahead, safe)
}

// found asks that r is read at l.
func found(t *testing.T, x *Seg, l api.Loc, r api.Record) {
	t.Helper()
	got, e := x.Read(l)
	if e != api.OK || got.Seq != r.Seq || got.Kind != r.Kind || got.Prev != r.Prev || !bytes.Equal(got.Key, r.Key) || !bytes.Equal(got.Value, r.Value) {
		t.Errorf("Read %v = %v, %d, want %v", l, got, e, r)
	}
}

// notFound asks that Read tells that error at l, and nothing else.
func notFound(t *testing.T, x *Seg, l api.Loc, want api.Errno) {
	t.Helper()
	r, e := x.Read(l)
	if e != want || r.Seq != 0 || r.Kind != 0 || len(r.Key) != 0 || len(r.Value) != 0 || r.Prev != (api.Loc{}) {
		t.Errorf("Read %v = %v, %d, want %d", l, r, e, want)
	}
}

// laid is a record, and where it was told to stand.
type laid struct {
	at api.Loc
	r  api.Record
}

// scanned asks that Load tells a scan that found just these, in order, passed over the bad ones at passed, and stopped at end for that reason.
func scanned(t *testing.T, f *fs.FS, id uint32, all []laid, passed []int, end int, why api.Errno) scan.Scan {
	t.Helper()
	got, e := Load(f, id)
	if e != api.OK || got.Id != id || !slices.Equal(got.Passed, passed) || got.End != end || got.Why != why {
		t.Errorf("Load %d = %d, passed %v, end %d, why %d, %d, want %v, %d, %d", id, got.Id, got.Passed, got.End, got.Why, e, passed, end, why)
	}
	same := func(x scan.Found, y laid) bool {
		r := x.Record
		return x.At == y.at && x.Size == len(runOf(y.r)) && r.Seq == y.r.Seq && r.Kind == y.r.Kind && r.Prev == y.r.Prev && bytes.Equal(r.Key, y.r.Key) && bytes.Equal(r.Value, y.r.Value)
	}
	if !slices.EqualFunc(got.Found, all, same) {
		t.Errorf("Load %d found %d records, %v, want %d, %v", id, len(got.Found), got.Found, len(all), all)
	}
	return got
}

// laidOf is these records, one behind the other from byte 16 on, and the bytes of such a segment.
func laidOf(id uint32, records ...api.Record) ([]laid, []byte) {
	var all []laid
	b := topOf(id)
	for _, r := range records {
		all = append(all, laid{api.Loc{Seg: id, Off: uint32(len(b))}, r})
		b = append(b, runOf(r)...)
	}
	return all, b
}

// notLoaded asks that Load tells that error, and nothing else.
func notLoaded(t *testing.T, f *fs.FS, id uint32, want api.Errno) {
	t.Helper()
	if got, e := Load(f, id); e != want || !reflect.DeepEqual(got, scan.Scan{}) {
		t.Errorf("Load %d = %v, %d, want %d", id, got, e, want)
	}
}

// small is a record whose run has 26 bytes.
func small(seq uint64) api.Record {
	return api.Record{Seq: seq, Kind: api.Put, Key: []byte{byte(seq)}}
}

// great is a record whose run has 1113 bytes: none has more.
func great(seq uint64) api.Record {
	return api.Record{Seq: seq, Kind: api.Put, Key: bytes.Repeat([]byte{1}, 64), Value: bytes.Repeat([]byte{2}, 1024), Prev: api.Loc{Seg: 1<<24 - 1, Off: 1 << 24}}
}

// byChance is a record of that number.
func byChance(chance *rand.Rand, seq uint64) api.Record {
	r := api.Record{Seq: seq, Kind: api.Put, Key: make([]byte, 1+chance.Intn(64))}
	chance.Read(r.Key)
	if chance.Intn(4) == 0 {
		r.Kind = api.Delete
	} else {
		r.Value = make([]byte, chance.Intn(1+chance.Intn(1025)))
		chance.Read(r.Value)
	}
	if chance.Intn(2) == 0 {
		r.Prev = api.Loc{Seg: 1 + uint32(chance.Intn(1<<24-1)), Off: 16 + uint32(chance.Intn(1<<24-15))}
	}
	return r
}

// P11.1, P11.2, P11.4: the chapter's examples.
func TestExamples(t *testing.T) {
	if Name(1) != "seg-000001" || Name(255) != "seg-0000ff" {
		t.Error(Name(1), Name(255))
	}
	if id, ok := Id("seg-0000ff"); id != 255 || !ok {
		t.Error(id, ok)
	}
	if id, ok := Id("seg-0000FF"); id != 0 || ok {
		t.Error(id, ok)
	}
	x := created(t, disk(t, 100), 1)
	l, e := x.Append(api.Record{Seq: 7, Kind: api.Put, Key: []byte("abc")})
	if e != api.OK || l != (api.Loc{Seg: 1, Off: 16}) || x.Seal().Size != 44 {
		t.Error(l, e, x.Seal())
	}
}

// P11.1: names of ids at the edges and by chance, and back.
func TestName(t *testing.T) {
	all := ids()
	chance := rand.New(rand.NewSource(11))
	for range 2000 {
		all = append(all, uint32(chance.Intn(1<<24)))
	}
	for _, id := range all {
		want := nameOf(id)
		if !isId(id) {
			if Name(id) != "" {
				t.Errorf("Name(%d) = %q", id, Name(id))
			}
			if back, ok := Id(want); back != 0 || ok {
				t.Errorf("Id(%q) = %d", want, back)
			}
			continue
		}
		if Name(id) != want || !folder.May(want) {
			t.Errorf("Name(%d) = %q, want %q", id, Name(id), want)
		}
		if back, ok := Id(want); back != id || !ok {
			t.Errorf("Id(%q) = %d, %v", want, back, ok)
		}
	}
}

// P11.1: what is no segment's name, though it is near one.
func TestNoName(t *testing.T) {
	names := []string{
		"", "0", "1", "ff", "0000ff", "seg-", "seg-0", "seg-1", "seg-ff", "seg-000000", "seg-00000", "seg-0000001", "seg-00000ff", "seg-1000000", "seg-1000001",
		"seg-100000001", "seg-10000000000000001", "seg-00001", "seg-+00001", "seg--00001", "seg-0x0001", "seg-0X0001", "seg-00_001", "seg-00000g", "seg-00000`", "seg-00000/", "seg-00000:",
		"seg-00000A", "seg-00000F", "SEG-000001", "Seg-000001", "seg_000001", "seg000001", "seg-seg-000001", " seg-000001", "seg-000001 ", "seg- 00001", "seg-00001 ", "seg-000001\x00", "seg-\x0000001",
		"sef-000001", "sgg-000001", "manifest", "seg-٠٠٠٠٠١", "seg-000001.", "x000001", strings.Repeat("0", 100000) + "1", "seg-" + strings.Repeat("0", 100000) + "1",
	}
	for _, name := range names {
		if id, ok := Id(name); id != 0 || ok {
			t.Errorf("Id(%q) = %d, %v", name, id, ok)
		}
	}
	// Each byte changed to each other one: it is a name still just where the digits are to the base 16.
	one := "seg-0a1b9f"
	for at := range len(one) {
		for c := range 256 {
			b := []byte(one)
			b[at] = byte(c)
			digit := strings.IndexByte("0123456789abcdef", byte(c))
			is := string(b) == one || at >= 4 && digit >= 0
			want := uint32(0)
			if is {
				fmt.Sscanf(string(b[4:]), "%x", &want)
			}
			if id, ok := Id(string(b)); id != want || ok != is {
				t.Errorf("Id(%q) = %d, %v, want %d", b, id, ok, want)
			}
		}
	}
}

// P11.2: what is there behind Create: a file that has the head alone, safe, and its name too; four steps.
func TestCreate(t *testing.T) {
	for _, id := range ids() {
		f := disk(t, 1000)
		if !isId(id) {
			if x, e := Create(f, id); x != nil || e != api.ErrArg || f.Steps() != 0 {
				t.Errorf("Create %d = %v, %d", id, x, e)
			}
			continue
		}
		x := created(t, f, id)
		is(t, x, api.Seal{Id: id, Size: 16}, 0)
		if f.Steps() != 4 || !slices.Equal(f.List(), []string{nameOf(id)}) {
			t.Error(f.Steps(), f.List())
		}
		// Nothing of it is loose: a crash that keeps nothing takes nothing.
		if e := f.Crash(nil); e != api.OK || !slices.Equal(f.List(), []string{nameOf(id)}) {
			t.Fatal(e, f.List())
		}
		if b := bytesOf(t, f, nameOf(id)); !bytes.Equal(b, topOf(id)) {
			t.Errorf("%d: % x", id, b)
		}
		notFound(t, x, api.Loc{Seg: id, Off: 16}, api.ErrArg)
		scanned(t, f, id, nil, nil, 16, api.OK)
	}
}

// P11.2: errors, and their order; a file that was there is another one's, and stays.
func TestCreateErrors(t *testing.T) {
	ask := func(f *fs.FS, id uint32, want api.Errno) {
		t.Helper()
		if x, e := Create(f, id); x != nil || e != want {
			t.Errorf("Create %d = %v, %d, want %d", id, x, e, want)
		}
	}
	ask(nil, 1, api.ErrNil)
	ask(nil, 0, api.ErrNil)
	ask(&fs.FS{}, 1, api.ErrNil)
	f := disk(t, 1000)
	put(t, f, nameOf(3), []byte("other"))
	steps := f.Steps()
	ask(f, 3, api.ErrThere)
	if f.Steps() != steps+1 || string(bytesOf(t, f, nameOf(3))) != "other" {
		t.Error(f.Steps(), f.List())
	}
	f.Fuse(0)
	ask(f, 0, api.ErrArg)
	ask(f, 1<<24, api.ErrArg)
	if !f.On() {
		t.Error("a step was done")
	}
	ask(f, 4, api.ErrOff)
	ask(f, 0, api.ErrArg)
	ask(f, 4, api.ErrOff)
	// All names are given away.
	f = disk(t, 1000)
	for i := range api.MaxFiles {
		if e := f.Create(fmt.Sprintf("other-%d", i)); e != api.OK {
			t.Fatal(e)
		}
	}
	names := f.List()
	ask(f, 1, api.ErrFull)
	if !slices.Equal(f.List(), names) || f.Steps() != len(names)+1 {
		t.Error(f.Steps())
	}
}

// P11.2: where there is no room for the head, the file is removed again.
func TestCreateNoRoom(t *testing.T) {
	for quota := range 40 {
		f := disk(t, 100)
		put(t, f, "other", make([]byte, 20))
		f.Quota(quota)
		steps := f.Steps()
		x, e := Create(f, 5)
		if quota >= 36 {
			if e != api.OK || x == nil || f.Used() != 36 {
				t.Errorf("quota %d: %d", quota, e)
			}
			continue
		}
		if x != nil || e != api.ErrSpace || f.Steps() != steps+3 || !slices.Equal(f.List(), []string{"other"}) || f.Used() != 20 {
			t.Errorf("quota %d: %v, %d, %d steps, %v", quota, x, e, f.Steps()-steps, f.List())
		}
		// The id is no worse for it.
		f.Quota(100)
		is(t, created(t, f, 5), api.Seal{Id: 5, Size: 16}, 0)
	}
}

// P11.2: the power goes off at each of the steps: those ahead of it are done, and each in its place.
func TestCreateOff(t *testing.T) {
	top := string(topOf(9))
	// There are at most one loose deed of the folder, and 16 loose units of the file; a crash keeps of them what its picks say.
	behind := func(steps int, picks ...int) (string, bool) {
		f := disk(t, 1000)
		f.Fuse(steps)
		x, e := Create(f, 9)
		if (e == api.OK) != (steps >= 4) || e != api.OK && (e != api.ErrOff || x != nil) || f.On() != (e == api.OK) {
			t.Errorf("%d steps: %v, %d", steps, x, e)
		}
		if e := f.Crash(picks); e != api.OK {
			t.Fatal(e)
		}
		if f.Steps() != min(steps+1, 4) {
			t.Errorf("%d steps: %d", steps, f.Steps())
		}
		if len(f.List()) == 0 {
			return "", false
		}
		return string(bytesOf(t, f, nameOf(9))), true
	}
	for _, c := range []struct {
		steps int
		picks []int
		want  string
		there bool
	}{
		{0, []int{1, 16}, "", false}, // nothing was done
		{1, []int{1, 16}, "", true},  // Create
		{1, nil, "", false},
		{2, []int{1, 16}, top, true}, // Append
		{2, []int{1, 5}, top[:5], true},
		{2, []int{1}, "", true},
		{2, nil, "", false},
		{3, []int{1}, top, true}, // Sync
		{3, nil, "", false},
		{4, nil, top, true}, // SyncDir
		{5, nil, top, true},
	} {
		if b, there := behind(c.steps, c.picks...); b != c.want || there != c.there {
			t.Errorf("%d steps, picks %v: %q, %v, want %q, %v", c.steps, c.picks, b, there, c.want, c.there)
		}
	}
}

// P11.3: all that a seal tells is known, and safe; nothing is read, so that it is nothing to it what is there.
func TestOf(t *testing.T) {
	empty := disk(t, 1000)
	off := disk(t, 1000)
	off.Fuse(0)
	off.SyncDir()
	for _, f := range []*fs.FS{empty, off} {
		for _, id := range ids() {
			for _, size := range []uint32{0, 1, 15, 16, 17, 44, 4096, 1<<24 - 1, 1 << 24, 1<<24 + 1, 1 << 31, math.MaxUint32} {
				for _, s := range []api.Seal{{Id: id, Size: size}, {Id: id, Size: size, Many: 2, First: 5, Last: 9}, {Id: id, Size: size, Many: 1, First: 1 << 40, Last: 1 << 40}} {
					x, e := Of(f, s)
					if !isId(id) || size < 16 || size > 1<<24 {
						if x != nil || e != api.ErrArg {
							t.Errorf("Of %v = %v, %d", s, x, e)
						}
						continue
					}
					if e != api.OK || x == nil {
						t.Fatalf("Of %v = %d", s, e)
					}
					is(t, x, s, s.Last)
				}
			}
		}
	}
	if empty.Steps() != 0 || len(empty.List()) != 0 {
		t.Error(empty.Steps(), empty.List())
	}
	for _, s := range []api.Seal{{}, {Id: 1, Size: 16}, {Id: 1, Size: 15}, {Id: 1 << 24, Size: 16}} {
		if x, e := Of(nil, s); x != nil || e != api.ErrNil {
			t.Errorf("Of none, %v = %v, %d", s, x, e)
		}
	}
}

// P11.3: a segment of a seal goes on where the one left off that told it.
func TestOfGoesOn(t *testing.T) {
	f := disk(t, 1000)
	x := created(t, f, 2)
	a := appended(t, x, small(3))
	y := known(t, f, x.Seal())
	is(t, y, x.Seal(), 3)
	notAppended(t, y, small(3), api.ErrArg)
	b := appended(t, y, small(4))
	if e := y.Sync(); e != api.OK || y.Safe() != 4 {
		t.Error(e, y.Safe())
	}
	found(t, y, a, small(3))
	found(t, y, b, small(4))
	// They have nothing in common but the file.
	is(t, x, api.Seal{Id: 2, Size: 42, Many: 1, First: 3, Last: 3}, 0)
	notFound(t, x, b, api.ErrArg)
}

// P11.3: Load's errors, and their order.
func TestLoadErrors(t *testing.T) {
	f := disk(t, 1000)
	notLoaded(t, nil, 1, api.ErrNil)
	notLoaded(t, nil, 0, api.ErrNil)
	notLoaded(t, &fs.FS{}, 1, api.ErrNil)
	for _, id := range ids() {
		if isId(id) {
			notLoaded(t, f, id, api.ErrNone)
		} else {
			notLoaded(t, f, id, api.ErrArg)
		}
	}
	put(t, f, nameOf(1), topOf(1))
	notLoaded(t, f, 2, api.ErrNone)
	f.Fuse(0)
	f.SyncDir()
	notLoaded(t, f, 1, api.ErrOff)
	notLoaded(t, f, 0, api.ErrArg)
}

// P11.3: Load tells the scan of all that the file has, whatever that is, and changes nothing.
func TestLoad(t *testing.T) {
	f := disk(t, api.MaxBytes)
	two, whole := laidOf(1, small(1), great(2), small(3))
	bad := bytes.Clone(whole)
	bad[42+500] ^= 1
	order, wrongOrder := laidOf(7, small(5), small(5))
	var greats []api.Record
	for n := range 16000 {
		greats = append(greats, great(uint64(n)+1))
	}
	long, longBytes := laidOf(8, greats...)
	// The last one that begins at a byte up to 2^24.
	past := (1<<24-16)/1113 + 1
	as := func(id uint32, b []byte) []byte { return append(topOf(id), b[16:]...) }
	moved := func(id uint32, all []laid) []laid {
		all = slices.Clone(all)
		for i := range all {
			all[i].at.Seg = id
		}
		return all
	}
	files := []struct {
		b      []byte
		all    []laid
		passed []int
		end    int
		why    api.Errno
	}{
		1:  {whole, two, nil, len(whole), api.OK},
		2:  {as(2, whole[:60]), moved(2, two[:1]), nil, 42, api.ErrTorn},
		3:  {as(3, bad), moved(3, []laid{two[0], two[2]}), []int{42}, len(bad), api.OK},
		4:  {whole, nil, nil, 0, api.ErrBad},
		5:  {nil, nil, nil, 0, api.ErrTorn},
		6:  {[]byte("other"), nil, nil, 0, api.ErrTorn},
		7:  {wrongOrder, order[:1], nil, 42, api.ErrBad},
		8:  {longBytes, long[:past], nil, 16 + past*1113, api.ErrBad},
		9:  {append(as(9, whole), make([]byte, 100)...), moved(9, two), nil, len(whole), api.ErrBad},
		10: {as(10, whole[:42]), moved(10, two[:1]), nil, 42, api.OK},
	}
	for id, c := range files[1:] {
		put(t, f, nameOf(uint32(id+1)), c.b)
	}
	steps, used := f.Steps(), f.Used()
	for id, c := range files[1:] {
		scanned(t, f, uint32(id+1), c.all, c.passed, c.end, c.why)
		if b := bytesOf(t, f, nameOf(uint32(id+1))); !bytes.Equal(b, c.b) {
			t.Error(id+1, "is changed")
		}
	}
	if f.Steps() != steps || f.Used() != used {
		t.Error(f.Steps(), f.Used())
	}
}

// P11.3: what is loose is of the file's bytes as well; a record that was flipped is passed over.
func TestLoadFlipped(t *testing.T) {
	f := disk(t, 10000)
	x := created(t, f, 12)
	var all []laid
	for seq := uint64(1); seq <= 5; seq++ {
		all = append(all, laid{appended(t, x, small(seq)), small(seq)})
		scanned(t, f, 12, all, nil, int(x.Seal().Size), api.OK)
	}
	x.Sync()
	f.Flip(nameOf(12), 16+26+21, 4)
	s := scanned(t, f, 12, []laid{all[0], all[2], all[3], all[4]}, []int{42}, 16+5*26, api.OK)
	if lost := s.Lost(x.Seal()); s.Seal() != x.Seal() || !slices.Equal(lost, []scan.Period{{From: 2, To: 2}}) {
		t.Error(s.Seal(), lost)
	}
	f.Flip(nameOf(12), 16+3*26+3, 4)
	s = scanned(t, f, 12, []laid{all[0], all[2]}, []int{42}, 16+3*26, api.ErrBad)
	if lost := s.Lost(x.Seal()); !slices.Equal(lost, []scan.Period{{From: 2, To: 2}, {From: 4, To: 5}}) {
		t.Error(lost)
	}
}

// P11.4: what may not be appended, by the record and by its number.
func TestAppendArg(t *testing.T) {
	f := disk(t, 100000)
	x := created(t, f, 1)
	ask := func(change func(r *api.Record)) {
		t.Helper()
		r := small(x.Seal().Last + 1)
		change(&r)
		steps := f.Steps()
		notAppended(t, x, r, api.ErrArg)
		if f.Steps() != steps {
			t.Error("a step was done")
		}
	}
	all := func() {
		t.Helper()
		last := x.Seal().Last
		for _, seq := range []uint64{0, last, last - 1, last / 2, 1<<40 + 1, math.MaxUint64} {
			if seq <= last || seq > 1<<40 {
				ask(func(r *api.Record) { r.Seq = seq })
			}
		}
		ask(func(r *api.Record) { r.Kind = 0 })
		ask(func(r *api.Record) { r.Kind = 3 })
		ask(func(r *api.Record) { r.Key = nil })
		ask(func(r *api.Record) { r.Key = make([]byte, 65) })
		ask(func(r *api.Record) { r.Value = make([]byte, 1025) })
		ask(func(r *api.Record) { r.Kind, r.Value = api.Delete, []byte{1} })
		ask(func(r *api.Record) { r.Prev = api.Loc{Seg: 1, Off: 15} })
		ask(func(r *api.Record) { r.Prev = api.Loc{Seg: 1 << 24, Off: 16} })
		ask(func(r *api.Record) { *r = api.Record{} })
	}
	all()
	for _, seq := range []uint64{1, 2, 3, 255, 256, 1 << 20, 1<<40 - 1} {
		appended(t, x, small(seq))
		all()
	}
	appended(t, x, api.Record{Seq: 1 << 40, Kind: api.Delete, Key: make([]byte, 64)})
	notAppended(t, x, small(1<<40), api.ErrArg)
	notAppended(t, x, small(1<<40+1), api.ErrArg)
	// The file has just what was appended.
	want := topOf(1)
	for _, seq := range []uint64{1, 2, 3, 255, 256, 1 << 20, 1<<40 - 1} {
		want = append(want, runOf(small(seq))...)
	}
	want = append(want, runOf(api.Record{Seq: 1 << 40, Kind: api.Delete, Key: make([]byte, 64)})...)
	if b := bytesOf(t, f, nameOf(1)); !bytes.Equal(b, want) {
		t.Errorf("% x, want % x", b, want)
	}
}

// P11.4: full is what would have one byte more than MaxSegment, told ahead of what the file system tells, and behind ErrArg.
func TestAppendFull(t *testing.T) {
	const most = 16777216
	for _, r := range []api.Record{small(8), great(8), {Seq: 8, Kind: api.Delete, Key: []byte("abc")}} {
		size := uint32(len(runOf(r)))
		for _, over := range []uint32{0, 1, 2, size - 1, size} {
			f := disk(t, 5000)
			put(t, f, nameOf(7), topOf(7))
			x := known(t, f, api.Seal{Id: 7, Size: most - size + over, Many: 1, First: 7, Last: 7})
			if over == 0 {
				appended(t, x, r)
				notAppended(t, x, small(9), api.ErrFull)
				continue
			}
			steps := f.Steps()
			notAppended(t, x, r, api.ErrFull)
			wrong := r
			wrong.Seq = 7
			notAppended(t, x, wrong, api.ErrArg)
			if f.Steps() != steps {
				t.Error("a step was done")
			}
			f.Fuse(0)
			f.SyncDir()
			notAppended(t, x, r, api.ErrFull)
			notAppended(t, x, wrong, api.ErrArg)
		}
	}
}

// P11.4: a segment that is written till it is full, which does not keep a smaller record out.
func TestWrittenFull(t *testing.T) {
	f := disk(t, api.MaxBytes)
	x := created(t, f, 1)
	var last api.Loc
	seq := uint64(0)
	for x.Seal().Size+1113 <= 1<<24 {
		seq++
		last = appended(t, x, great(seq))
	}
	notAppended(t, x, great(seq+1), api.ErrFull)
	left := 1<<24 - int(x.Seal().Size)
	if left < 27 || left > 1000 {
		t.Fatal(left)
	}
	rest := api.Record{Seq: seq + 1, Kind: api.Put, Key: []byte("k"), Value: make([]byte, left-26)}
	notAppended(t, x, api.Record{Seq: seq + 1, Kind: api.Put, Key: []byte("kk"), Value: rest.Value}, api.ErrFull)
	end := appended(t, x, rest)
	notAppended(t, x, small(seq+2), api.ErrFull)
	found(t, x, last, great(seq))
	found(t, x, end, rest)
	if size, _ := f.Size(nameOf(1)); size != 1<<24 {
		t.Error(size)
	}
}

// P11.4: the file system's errors; the same record can be appended behind them.
func TestAppendErrors(t *testing.T) {
	f := disk(t, 16+26+26)
	x := created(t, f, 4)
	appended(t, x, small(1))
	notAppended(t, x, great(2), api.ErrSpace)
	f.Fuse(0)
	notAppended(t, x, small(2), api.ErrOff)
	notAppended(t, x, small(2), api.ErrOff)
	notAppended(t, x, small(1), api.ErrArg)
	// The first one was not safe: what is known of the segment is more than there is.
	if e := f.Crash([]int{0, 26}); e != api.OK {
		t.Fatal(e)
	}
	l := appended(t, x, small(2))
	found(t, x, l, small(2))
	notAppended(t, x, small(3), api.ErrSpace)
	f.Remove(nameOf(4))
	notAppended(t, x, small(3), api.ErrNone)
}

// P11.5: what is no place of the segment, told ahead of what the file system tells.
func TestReadArg(t *testing.T) {
	f := disk(t, 100000)
	x := created(t, f, 5)
	others := created(t, f, 6)
	var locs []api.Loc
	for seq := uint64(1); seq <= 3; seq++ {
		locs = append(locs, appended(t, x, small(seq)))
		appended(t, others, small(seq))
	}
	all := func() {
		t.Helper()
		for _, seg := range []uint32{0, 1, 4, 6, 1<<24 + 5, math.MaxUint32} {
			for _, off := range []uint32{0, 15, 16, 42, 68, 94, math.MaxUint32} {
				notFound(t, x, api.Loc{Seg: seg, Off: off}, api.ErrArg)
			}
		}
		for _, off := range []uint32{0, 1, 8, 15, 94, 95, 96, 1 << 24, 1 << 31, math.MaxUint32 - 5, math.MaxUint32} {
			notFound(t, x, api.Loc{Seg: 5, Off: off}, api.ErrArg)
		}
	}
	all()
	for i, l := range locs {
		found(t, x, l, small(uint64(i+1)))
	}
	f.Fuse(0)
	f.SyncDir()
	all()
	for _, l := range locs {
		notFound(t, x, l, api.ErrOff)
	}
}

// P11.5: at each byte of the segment but where a record begins.
func TestReadCorrupt(t *testing.T) {
	f := disk(t, 100000)
	x := created(t, f, 5)
	at := map[uint32]api.Record{}
	for _, r := range []api.Record{small(1), great(2), small(3), {Seq: 9, Kind: api.Delete, Key: []byte("abc")}} {
		at[appended(t, x, r).Off] = r
	}
	size := x.Seal().Size
	for off := uint32(16); off < size; off++ {
		l := api.Loc{Seg: 5, Off: off}
		if r, is := at[off]; is {
			found(t, x, l, r)
		} else {
			notFound(t, x, l, api.ErrCorrupt)
		}
	}
	// Each byte turned: the record in which it is, and no other one, is told as corrupt; the head is nothing to it.
	if e := x.Sync(); e != api.OK {
		t.Fatal(e)
	}
	for place := range int(size) {
		if e := f.Flip(nameOf(5), place, 0x10); e != api.OK {
			t.Fatal(e)
		}
		for off, r := range at {
			if l := (api.Loc{Seg: 5, Off: off}); place >= int(off) && place < int(off)+len(runOf(r)) {
				notFound(t, x, l, api.ErrCorrupt)
			} else {
				found(t, x, l, r)
			}
		}
		f.Flip(nameOf(5), place, 0x10)
	}
}

// P11.5: the file was cut, or is gone: ErrCorrupt where it is short, ErrNone where there is none.
func TestReadShort(t *testing.T) {
	f := disk(t, 100000)
	x := created(t, f, 5)
	first := appended(t, x, small(1))
	second := appended(t, x, small(2))
	if e := f.Truncate(nameOf(5), 67); e != api.OK {
		t.Fatal(e)
	}
	// The first one is whole, but the bytes that are known to be there are not.
	notFound(t, x, first, api.ErrCorrupt)
	notFound(t, x, second, api.ErrCorrupt)
	f.Truncate(nameOf(5), 20)
	notFound(t, x, first, api.ErrCorrupt)
	notFound(t, x, second, api.ErrCorrupt)
	f.Truncate(nameOf(5), 0)
	notFound(t, x, first, api.ErrCorrupt)
	notFound(t, x, api.Loc{Seg: 5, Off: 15}, api.ErrArg)
	f.Remove(nameOf(5))
	notFound(t, x, first, api.ErrNone)
	notFound(t, x, second, api.ErrNone)
	notFound(t, x, api.Loc{Seg: 5, Off: 68}, api.ErrArg)
}

// P11.5: at most 1113 bytes are read, so that it is nothing to a record what is wanting behind these.
func TestReadMost(t *testing.T) {
	for _, r := range []api.Record{small(1), great(1), {Seq: 1, Kind: api.Delete, Key: []byte("abc")}} {
		for _, size := range []uint32{16 + 1113, 16 + 1114, 5000, 1 << 24} {
			f := disk(t, 100000)
			b := append(topOf(8), runOf(r)...)
			b = append(b, make([]byte, 1113)...)[:16+1113]
			put(t, f, nameOf(8), b)
			x := known(t, f, api.Seal{Id: 8, Size: size, Many: 1, First: 1, Last: 1})
			found(t, x, api.Loc{Seg: 8, Off: 16}, r)
			f.Truncate(nameOf(8), 16+1112)
			notFound(t, x, api.Loc{Seg: 8, Off: 16}, api.ErrCorrupt)
		}
	}
}

// P11.5: bytes from Size on are none of the segment's, though the file has them.
func TestReadUpToSize(t *testing.T) {
	f := disk(t, 100000)
	put(t, f, nameOf(8), append(append(topOf(8), runOf(small(1))...), runOf(small(2))...))
	first, second := api.Loc{Seg: 8, Off: 16}, api.Loc{Seg: 8, Off: 42}
	for size := uint32(16); size <= 68; size++ {
		x := known(t, f, api.Seal{Id: 8, Size: size})
		ask := func(l api.Loc, r api.Record) {
			switch {
			case size <= l.Off:
				notFound(t, x, l, api.ErrArg)
			case size < l.Off+26:
				notFound(t, x, l, api.ErrCorrupt)
			default:
				found(t, x, l, r)
			}
		}
		ask(first, small(1))
		ask(second, small(2))
	}
}

// P11.5: Sync makes all safe that was appended; where it tells an error, nothing more is safe.
func TestSync(t *testing.T) {
	f := disk(t, 100000)
	x := created(t, f, 3)
	ask := func(want api.Errno, safe uint64) {
		t.Helper()
		ahead := x.Seal()
		if e := x.Sync(); e != want {
			t.Errorf("Sync = %d, want %d", e, want)
		}
		is(t, x, ahead, safe)
	}
	ask(api.OK, 0)
	appended(t, x, small(5))
	appended(t, x, small(7))
	is(t, x, api.Seal{Id: 3, Size: 68, Many: 2, First: 5, Last: 7}, 0)
	steps := f.Steps()
	ask(api.OK, 7)
	ask(api.OK, 7)
	if f.Steps() != steps+2 {
		t.Error(f.Steps() - steps)
	}
	// The bytes themselves are safe, and what comes behind is not.
	appended(t, x, small(9))
	is(t, x, api.Seal{Id: 3, Size: 94, Many: 3, First: 5, Last: 9}, 7)
	behind := f.Copy()
	if e := behind.Crash(nil); e != api.OK || len(bytesOf(t, behind, nameOf(3))) != 68 {
		t.Error(e)
	}
	f.Fuse(0)
	ask(api.ErrOff, 7)
	ask(api.ErrOff, 7)
	f.Crash([]int{0, 26})
	ask(api.OK, 9)
	f.Remove(nameOf(3))
	ask(api.ErrNone, 9)
}

// P11.4, P11.5: a segment that no call here made, or none.
func TestNone(t *testing.T) {
	for _, x := range []*Seg{nil, {}, new(Seg)} {
		notAppended(t, x, small(1), api.ErrNil)
		notAppended(t, x, api.Record{}, api.ErrNil)
		notFound(t, x, api.Loc{Seg: 1, Off: 16}, api.ErrNil)
		notFound(t, x, api.Loc{}, api.ErrNil)
		if e := x.Sync(); e != api.ErrNil {
			t.Error(e)
		}
		is(t, x, api.Seal{}, 0)
	}
}

// P11.6: segments that are written side by side: each record is read as it was, all the while and behind; the files have the heads and the runs, in order, at the locs that were told; a seal is all that one need know.
func TestBack(t *testing.T) {
	chance := rand.New(rand.NewSource(116))
	for range 40 {
		f := disk(t, 1<<20)
		all := map[*Seg][]laid{}
		var segs []*Seg
		for range 1 + chance.Intn(4) {
			x := created(t, f, 1+uint32(chance.Intn(1<<24-1)))
			segs = append(segs, x)
		}
		for range chance.Intn(150) {
			x := segs[chance.Intn(len(segs))]
			r := byChance(chance, x.Seal().Last+1+uint64(chance.Intn(1+chance.Intn(1<<30))))
			all[x] = append(all[x], laid{appended(t, x, r), r})
			some := all[x][chance.Intn(len(all[x]))]
			found(t, x, some.at, some.r)
			if chance.Intn(10) == 0 {
				x.Sync()
			}
		}
		for _, x := range segs {
			s := x.Seal()
			want, seal := topOf(s.Id), api.Seal{Id: s.Id, Many: uint32(len(all[x]))}
			again := known(t, f, s)
			for i, one := range all[x] {
				if one.at != (api.Loc{Seg: s.Id, Off: uint32(len(want))}) {
					t.Errorf("record %d at %v, want %d", i, one.at, len(want))
				}
				if i == 0 {
					seal.First = one.r.Seq
				}
				seal.Last = one.r.Seq
				want = append(want, runOf(one.r)...)
				found(t, x, one.at, one.r)
				found(t, again, one.at, one.r)
			}
			seal.Size = uint32(len(want))
			if s != seal {
				t.Errorf("%v, want %v", s, seal)
			}
			if b := bytesOf(t, f, nameOf(s.Id)); !bytes.Equal(b, want) {
				t.Errorf("% x, want % x", b, want)
			}
			whole := scanned(t, f, s.Id, all[x], nil, len(want), api.OK)
			if whole.Seal() != seal || len(whole.Lost(seal)) != 0 {
				t.Errorf("%v, want %v, lost %v", whole.Seal(), seal, whole.Lost(seal))
			}
		}
	}
}

// P11.7: behind each crash the file has a beginning of what was appended, all that was safe within it; a scan finds just what of that is whole, and stops with OK or ErrTorn.
func TestCrash(t *testing.T) {
	chance := rand.New(rand.NewSource(117))
	whys := map[api.Errno]int{}
	for range 60 {
		f := disk(t, 1<<20)
		x := created(t, f, 1+uint32(chance.Intn(1<<24-1)))
		id := x.Seal().Id
		if chance.Intn(2) == 0 {
			f.Fuse(chance.Intn(30))
		}
		all, safe, safeSize := topOf(id), uint64(0), 16
		var told []laid
		// Where a record ends, as much is found as there are ahead of it.
		ends := map[int]bool{16: true}
		for seq := uint64(1); seq <= 20; seq++ {
			if r := byChance(chance, seq); chance.Intn(4) != 0 {
				if l, e := x.Append(r); e == api.OK {
					all, told = append(all, runOf(r)...), append(told, laid{l, r})
					ends[len(all)] = true
				}
			} else if x.Sync() == api.OK {
				safe, safeSize = x.Seal().Last, len(all)
			}
		}
		is(t, x, api.Seal{Id: id, Size: uint32(len(all)), Many: x.Seal().Many, First: x.Seal().First, Last: x.Seal().Last}, safe)
		for keep := range len(all) - safeSize + 1 {
			behind := f.Copy()
			if e := behind.Crash([]int{0, keep}); e != api.OK {
				t.Fatal(e)
			}
			size := safeSize + keep
			if b := bytesOf(t, behind, nameOf(id)); !bytes.Equal(b, all[:size]) {
				t.Errorf("%d kept: %d bytes, want %d", keep, len(b), size)
			}
			if keep%50 == 0 || ends[size-1] || ends[size] || ends[size+1] {
				whys[crashIsFound(t, behind, id, told, safe, size)]++
			}
		}
	}
	if len(whys) != 2 || min(whys[api.OK], whys[api.ErrTorn]) < 100 {
		t.Error(whys)
	}
}

// crashIsFound asks that a scan of the first size bytes finds those records that are whole, up to the safe number at least; it is told why it stopped.
func crashIsFound(t *testing.T, f *fs.FS, id uint32, told []laid, safe uint64, size int) api.Errno {
	t.Helper()
	whole, end, why := 0, 16, api.OK
	for whole < len(told) && end+len(runOf(told[whole].r)) <= size {
		end += len(runOf(told[whole].r))
		whole++
	}
	if end < size {
		why = api.ErrTorn
	}
	if s := scanned(t, f, id, told[:whole], nil, end, why); s.Seal().Last < safe {
		t.Errorf("up to %d, though %d was safe", s.Seal().Last, safe)
	}
	return why
}

// R3: what is handed in stays as it was, and is not kept; what is told is new memory.
func TestNewMemory(t *testing.T) {
	f := disk(t, 1000)
	x := created(t, f, 1)
	r := api.Record{Seq: 1, Kind: api.Put, Key: append(make([]byte, 0, 50), "key"...), Value: append(make([]byte, 0, 50), "value"...)}
	was := api.Record{Seq: 1, Kind: api.Put, Key: []byte("key"), Value: []byte("value")}
	l := appended(t, x, r)
	if !reflect.DeepEqual(r, was) || !bytes.Equal(r.Key[:50], append([]byte("key"), make([]byte, 47)...)) {
		t.Error(r)
	}
	clear(r.Key)
	clear(r.Value)
	found(t, x, l, was)
	one, _ := x.Read(l)
	_ = append(one.Key, 1, 2, 3)
	if !bytes.Equal(one.Value, was.Value) {
		t.Error(one)
	}
	clear(one.Key)
	clear(one.Value)
	found(t, x, l, was)
}
