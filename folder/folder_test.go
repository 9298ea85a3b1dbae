package folder

import (
	"fmt"
	"maps"
	"math"
	"math/rand"
	"slices"
	"strings"
	"testing"

	"hourbook/api"
)

// letters is what a file's name may have.
const letters = "abcdefghijklmnopqrstuvwxyz0123456789-."

// slow is a folder as the chapter's words tell it: the state behind each number of loose deeds, the safe one first.
type slow struct {
	states []map[string]uint64
	last   uint64
}

func newSlow() *slow { return &slow{states: []map[string]uint64{{}}} }

func (s *slow) now() map[string]uint64 { return s.states[len(s.states)-1] }

func (s *slow) loose() int { return len(s.states) - 1 }

// next is a deed: a state more, which is changed.
func (s *slow) next(change func(m map[string]uint64)) {
	m := maps.Clone(s.now())
	change(m)
	s.states = append(s.states, m)
}

func (s *slow) create(name string) (uint64, api.Errno) {
	if !slowMay(name) {
		return 0, api.ErrArg
	}
	if s.now()[name] != 0 {
		return 0, api.ErrThere
	}
	if len(s.now()) == 256 {
		return 0, api.ErrFull
	}
	s.last++
	s.next(func(m map[string]uint64) { m[name] = s.last })
	return s.last, api.OK
}

func (s *slow) rename(from, to string) api.Errno {
	if !slowMay(from) || !slowMay(to) {
		return api.ErrArg
	}
	inode := s.now()[from]
	if inode == 0 {
		return api.ErrNone
	}
	if from != to {
		s.next(func(m map[string]uint64) { m[to] = inode; delete(m, from) })
	}
	return api.OK
}

func (s *slow) remove(name string) api.Errno {
	if !slowMay(name) {
		return api.ErrArg
	}
	if s.now()[name] == 0 {
		return api.ErrNone
	}
	s.next(func(m map[string]uint64) { delete(m, name) })
	return api.OK
}

func (s *slow) crash(keep int) {
	keep = max(0, min(keep, s.loose()))
	s.states = []map[string]uint64{s.states[keep]}
}

func (s *slow) live() []uint64 {
	all := map[uint64]int{}
	for _, m := range s.states {
		for _, inode := range m {
			all[inode] = 1
		}
	}
	return slices.Sorted(maps.Keys(all))
}

// copy shares the states: none of them is changed once it is there.
func (s *slow) copy() *slow { return &slow{states: slices.Clone(s.states), last: s.last} }

func slowMay(name string) bool {
	for _, c := range []byte(name) {
		if strings.IndexByte(letters, c) < 0 {
			return false
		}
	}
	return len(name) >= 1 && len(name) <= 32
}

// listed is m as List tells it.
func listed(m map[string]uint64) []Entry {
	var all []Entry
	for name, inode := range m {
		all = append(all, Entry{name, inode})
	}
	slices.SortFunc(all, func(a, b Entry) int { return strings.Compare(a.Name, b.Name) })
	return all
}

// same asks all that a folder tells against what it should have.
func same(t *testing.T, f *Folder, s *slow) {
	t.Helper()
	if got, want := f.List(), listed(s.now()); !slices.Equal(got, want) {
		t.Fatalf("List: %v, want %v", got, want)
	}
	if got, want := f.Loose(), s.loose(); got != want {
		t.Fatalf("Loose: %d, want %d", got, want)
	}
	if got, want := f.Live(), s.live(); !slices.Equal(got, want) {
		t.Fatalf("Live: %d, want %d", got, want)
	}
	for _, m := range s.states {
		for name := range m {
			inode, is := f.Find(name)
			want, there := s.now()[name]
			if inode != want || is != there {
				t.Fatalf("Find(%q): %d, %v, want %d, %v", name, inode, is, want, there)
			}
		}
	}
}

// eachCrash asks what a crash leaves, that what comes behind it has new inodes, and that no crash behind it changes anything.
func eachCrash(t *testing.T, f *Folder, s *slow) {
	t.Helper()
	for keep := -1; keep <= s.loose()+1; keep++ {
		g, r := f.Copy(), s.copy()
		fine(t, g.Crash(keep))
		r.crash(keep)
		same(t, g, r)
		for _, again := range []int{0, 1, math.MaxInt} {
			fine(t, g.Crash(again))
			same(t, g, r)
		}
		made(t, g, r, "z")
		same(t, g, r)
	}
	same(t, f, s)
}

// fine fails, unless each of the calls was.
func fine(t *testing.T, calls ...api.Errno) {
	t.Helper()
	for i, e := range calls {
		if e != api.OK {
			t.Fatalf("call %d tells %d", i, e)
		}
	}
}

// made creates a name in both, with the same answer.
func made(t *testing.T, f *Folder, s *slow, name string) {
	t.Helper()
	inode, e := f.Create(name)
	want, should := s.create(name)
	if inode != want || e != should {
		t.Fatalf("Create(%q) = %d, %d, want %d, %d", name, inode, e, want, should)
	}
}

func renamed(t *testing.T, f *Folder, s *slow, from, to string) {
	t.Helper()
	if e, want := f.Rename(from, to), s.rename(from, to); e != want {
		t.Fatalf("Rename(%q, %q) = %d, want %d", from, to, e, want)
	}
}

func removed(t *testing.T, f *Folder, s *slow, name string) {
	t.Helper()
	if e, want := f.Remove(name), s.remove(name); e != want {
		t.Fatalf("Remove(%q) = %d, want %d", name, e, want)
	}
}

// mixed is a folder with two safe names, of which loose deeds change one, take the other away, and make new ones.
func mixed(t *testing.T) (*Folder, *slow) {
	t.Helper()
	f, s := New(), newSlow()
	made(t, f, s, "old")
	made(t, f, s, "gone")
	fine(t, f.Sync())
	s.crash(s.loose())
	made(t, f, s, "new")
	renamed(t, f, s, "new", "old")
	removed(t, f, s, "gone")
	made(t, f, s, "gone")
	renamed(t, f, s, "old", "last")
	same(t, f, s)
	return f, s
}

// full is a folder of 256 names, all loose: f0 to f255.
func full(t *testing.T) (*Folder, *slow) {
	t.Helper()
	f, s := New(), newSlow()
	for i := range 256 {
		made(t, f, s, fmt.Sprint("f", i))
	}
	if len(f.List()) != 256 {
		t.Fatal("names:", len(f.List()))
	}
	return f, s
}

// wrongNames are no file's names.
var wrongNames = []string{
	"", " ", "A", "aB", "Z9", "a b", " a", "a ", "a/b", "/", "a_b", "\x00", "a\x00", "seg\n", "seg+1",
	"\xff", "a\x80", "\u00e9", "a\u0131", "\u0661", "\uff41", "\u2010", "a\ufffd", "`", "{", ",", ":",
	strings.Repeat("a", 33), strings.Repeat(".", 1000), strings.Repeat("a", 32) + "\x00", strings.Repeat("a", 31) + "B",
}

// rightNames are.
var rightNames = []string{
	"a", "z", "0", "9", "-", ".", "..", "--", "-.", "manifest", "manifest.new", "seg-0000ff", "az09-.",
	strings.Repeat("a", 31), strings.Repeat("z", 32), strings.Repeat(".", 32), strings.Repeat("-9", 16),
}

// P6.1 to P6.4: the chapter's examples.
func TestExamples(t *testing.T) {
	f := New()
	a, e := f.Create("a")
	b, e2 := f.Create("b")
	if a != 1 || b != 2 || e != api.OK || e2 != api.OK || f.Rename("a", "b") != api.OK {
		t.Error(a, b, e, e2)
	}
	if f.Loose() != 3 || !slices.Equal(f.Live(), []uint64{1, 2}) {
		t.Error(f.Loose(), f.Live())
	}
	if e := f.Crash(2); e != api.OK || !slices.Equal(f.List(), []Entry{{"a", 1}, {"b", 2}}) {
		t.Error(e, f.List())
	}
}

// P6.1: each byte, alone and ahead of, between and behind others; each length.
func TestMay(t *testing.T) {
	for c := range 256 {
		want := strings.IndexByte(letters, byte(c)) >= 0
		one := string([]byte{byte(c)})
		for _, name := range []string{one, one + "a", "a" + one, "a" + one + "a", strings.Repeat("a", 31) + one, one + strings.Repeat("-", 31)} {
			if May(name) != want {
				t.Errorf("May(%q) = %v", name, !want)
			}
		}
	}
	for n := range 100 {
		if got := May(strings.Repeat("q", n)); got != (n >= 1 && n <= 32) {
			t.Errorf("May of %d bytes = %v", n, got)
		}
	}
	for _, name := range wrongNames {
		if May(name) {
			t.Errorf("May(%q)", name)
		}
	}
	for _, name := range rightNames {
		if !May(name) {
			t.Errorf("not May(%q)", name)
		}
	}
	if May(strings.Repeat("a", 1<<20)) || May(strings.Repeat("a", 32+256)) || May(strings.Repeat("a", 32+65536)) {
		t.Error("May of a great name")
	}
}

// P6.1: what is new has nothing.
func TestNew(t *testing.T) {
	f := New()
	same(t, f, newSlow())
	if f == New() || len(f.List()) != 0 || f.Loose() != 0 || len(f.Live()) != 0 {
		t.Error(f.List(), f.Loose(), f.Live())
	}
	for _, name := range append(rightNames, wrongNames...) {
		if inode, is := f.Find(name); inode != 0 || is {
			t.Errorf("Find(%q) = %d, %v", name, inode, is)
		}
	}
}

// P6.1 to P6.4: of none, and of one that New did not make, all is ErrNil, ahead of whatever else is wrong, and nothing is there.
func TestNone(t *testing.T) {
	for _, f := range []*Folder{nil, new(Folder), {}} {
		for range 2 {
			if f.Copy() != nil || len(f.List()) != 0 || f.Loose() != 0 || len(f.Live()) != 0 {
				t.Error("something of none")
			}
			for _, name := range append(rightNames, wrongNames...) {
				if inode, is := f.Find(name); inode != 0 || is {
					t.Errorf("Find(%q) = %d, %v", name, inode, is)
				}
				if inode, e := f.Create(name); inode != 0 || e != api.ErrNil {
					t.Errorf("Create(%q) = %d, %d", name, inode, e)
				}
				if e := f.Remove(name); e != api.ErrNil {
					t.Errorf("Remove(%q) = %d", name, e)
				}
				for _, to := range []string{name, "a", "b", ""} {
					if e := f.Rename(name, to); e != api.ErrNil {
						t.Errorf("Rename(%q, %q) = %d", name, to, e)
					}
				}
			}
			if e := f.Sync(); e != api.ErrNil {
				t.Error("Sync:", e)
			}
			for _, keep := range []int{math.MinInt, -1, 0, 1, math.MaxInt} {
				if e := f.Crash(keep); e != api.ErrNil {
					t.Error("Crash:", keep, e)
				}
			}
		}
	}
}

// P6.1: names by their bytes, whatever the order in which they came.
func TestList(t *testing.T) {
	chance := rand.New(rand.NewSource(1))
	sorted := []string{"-", "-a", ".", "..", "0", "00", "1", "10", "2", "9", "a", "a-", "a.", "a0", "aa", "ab", "b", "z", "zz"}
	for range 50 {
		names := slices.Clone(sorted)
		chance.Shuffle(len(names), func(i, j int) { names[i], names[j] = names[j], names[i] })
		f := New()
		for i, name := range names {
			if inode, e := f.Create(name); inode != uint64(i+1) || e != api.OK {
				t.Fatal(name, inode, e)
			}
		}
		for i, x := range f.List() {
			at := slices.Index(names, x.Name)
			if x.Name != sorted[i] || x.Inode != uint64(at+1) {
				t.Fatalf("at %d: %v, want %q", i, x, sorted[i])
			}
			if inode, is := f.Find(x.Name); inode != x.Inode || !is {
				t.Fatalf("Find(%q) = %d, %v", x.Name, inode, is)
			}
		}
		if len(f.List()) != len(sorted) {
			t.Fatal(f.List())
		}
	}
}

// P6.2: inodes rise by one with each file that is made; one that is refused takes none, and is no deed.
func TestCreate(t *testing.T) {
	f, s := New(), newSlow()
	for _, name := range rightNames {
		made(t, f, s, name)
		for _, again := range []string{name, rightNames[0]} {
			if inode, e := f.Create(again); inode != 0 || e != api.ErrThere {
				t.Errorf("Create(%q) again = %d, %d", again, inode, e)
			}
		}
		for _, wrong := range wrongNames {
			if inode, e := f.Create(wrong); inode != 0 || e != api.ErrArg {
				t.Errorf("Create(%q) = %d, %d", wrong, inode, e)
			}
		}
		same(t, f, s)
	}
	if inode, _ := f.Find(rightNames[len(rightNames)-1]); inode != uint64(len(rightNames)) {
		t.Error("the last inode is", inode)
	}
}

// P6.2: 256 names may be, not one more; of several errors the first one is told.
func TestFull(t *testing.T) {
	f, s := full(t)
	refused := func() {
		t.Helper()
		for name, want := range map[string]api.Errno{"new": api.ErrFull, "f7": api.ErrThere, "": api.ErrArg, "NEW": api.ErrArg} {
			if inode, e := f.Create(name); inode != 0 || e != want {
				t.Fatalf("Create(%q) of a full one = %d, %d, want %d", name, inode, e, want)
			}
		}
		same(t, f, s)
	}
	refused()
	renamed(t, f, s, "f9", "new-name")
	refused()
	renamed(t, f, s, "f1", "f2")
	same(t, f, s)
	made(t, f, s, "f1")
	refused()
	removed(t, f, s, "f5")
	fine(t, f.Sync())
	s.crash(s.loose())
	made(t, f, s, "f6.new")
	refused()
	// What is safe may be more than what is there now, and the other way round.
	for i := 10; i < 20; i++ {
		removed(t, f, s, fmt.Sprint("f", i))
	}
	for i := 10; i < 20; i++ {
		made(t, f, s, fmt.Sprint("g", i))
	}
	refused()
	eachCrash(t, f, s)
	fine(t, f.Crash(5))
	s.crash(5)
	for i := range 4 {
		made(t, f, s, fmt.Sprint("h", i))
	}
	refused()
}

// P6.2: names that may not be, or are not there, behind which nothing has changed.
func TestRefused(t *testing.T) {
	f, s := mixed(t)
	for _, wrong := range wrongNames {
		if e := f.Remove(wrong); e != api.ErrArg {
			t.Errorf("Remove(%q) = %d", wrong, e)
		}
		for _, name := range []string{"last", "gone", "old", "none", "", "A", wrong} {
			if e := f.Rename(wrong, name); e != api.ErrArg {
				t.Errorf("Rename(%q, %q) = %d", wrong, name, e)
			}
			if e := f.Rename(name, wrong); e != api.ErrArg {
				t.Errorf("Rename(%q, %q) = %d", name, wrong, e)
			}
		}
	}
	// Some of these were there once, and are there behind a crash.
	for _, none := range []string{"none", "old", "new", "las", "lastt", "las.", "."} {
		if e := f.Remove(none); e != api.ErrNone {
			t.Errorf("Remove(%q) = %d", none, e)
		}
		for _, to := range []string{"last", "gone", "old", none} {
			if e := f.Rename(none, to); e != api.ErrNone {
				t.Errorf("Rename(%q, %q) = %d", none, to, e)
			}
		}
		if inode, is := f.Find(none); inode != 0 || is {
			t.Errorf("Find(%q) = %d, %v", none, inode, is)
		}
	}
	same(t, f, s)
	eachCrash(t, f, s)
}

// P6.2: to a name that is not there, to one that is, and to itself.
func TestRename(t *testing.T) {
	f, s := New(), newSlow()
	made(t, f, s, "a")
	made(t, f, s, "b")
	made(t, f, s, "c")
	for range 2 {
		if e := f.Rename("b", "b"); e != api.OK {
			t.Error("to itself:", e)
		}
		same(t, f, s)
	}
	fine(t, f.Rename("a", "d"))
	if !slices.Equal(f.List(), []Entry{{"b", 2}, {"c", 3}, {"d", 1}}) || f.Loose() != 4 {
		t.Error(f.List(), f.Loose())
	}
	fine(t, f.Rename("d", "b"))
	if !slices.Equal(f.List(), []Entry{{"b", 1}, {"c", 3}}) || f.Loose() != 5 {
		t.Error(f.List(), f.Loose())
	}
	// What stood under the name is gone from it, and does not come back.
	fine(t, f.Rename("b", "a"))
	if _, is := f.Find("b"); is || !slices.Equal(f.List(), []Entry{{"a", 1}, {"c", 3}}) {
		t.Error(f.List())
	}
	fine(t, f.Sync())
	if e := f.Rename("a", "a"); e != api.OK || f.Loose() != 0 {
		t.Error("to itself, behind a Sync:", e, f.Loose())
	}
}

// P6.2: what is taken away is there no more, and its inode is not given again.
func TestRemove(t *testing.T) {
	f, s := New(), newSlow()
	for i := range 5 {
		made(t, f, s, "a")
		if inode, is := f.Find("a"); inode != uint64(i+1) || !is {
			t.Error(i, inode, is)
		}
		removed(t, f, s, "a")
		if inode, is := f.Find("a"); inode != 0 || is || len(f.List()) != 0 {
			t.Error(i, inode, is)
		}
		if e := f.Remove("a"); e != api.ErrNone {
			t.Error("once more:", e)
		}
		same(t, f, s)
	}
	if f.Loose() != 10 || !slices.Equal(f.Live(), []uint64{1, 2, 3, 4, 5}) {
		t.Error(f.Loose(), f.Live())
	}
	eachCrash(t, f, s)
}

// P6.3, P6.7: behind a Sync all is safe, nothing is loose, and crashes change nothing.
func TestSync(t *testing.T) {
	f, s := mixed(t)
	for range 3 {
		fine(t, f.Sync())
		s.crash(s.loose())
		same(t, f, s)
		if f.Loose() != 0 {
			t.Error("loose:", f.Loose())
		}
		for _, keep := range []int{math.MinInt, -1, 0, 1, 2, math.MaxInt} {
			fine(t, f.Crash(keep))
			same(t, f, s)
		}
	}
	if !slices.Equal(f.List(), []Entry{{"gone", 4}, {"last", 3}}) || !slices.Equal(f.Live(), []uint64{3, 4}) {
		t.Error(f.List(), f.Live())
	}
	fine(t, New().Sync())
}

// P6.3: each number of deeds, those below 0 and above all of them too.
func TestCrash(t *testing.T) {
	wants := [][]Entry{
		{{"gone", 2}, {"old", 1}},
		{{"gone", 2}, {"new", 3}, {"old", 1}},
		{{"gone", 2}, {"old", 3}},
		{{"old", 3}},
		{{"gone", 4}, {"old", 3}},
		{{"gone", 4}, {"last", 3}},
	}
	ask := func(keep, as int) {
		t.Helper()
		f, _ := mixed(t)
		if e := f.Crash(keep); e != api.OK || !slices.Equal(f.List(), wants[as]) || f.Loose() != 0 {
			t.Errorf("Crash(%d) = %d: %v, %d loose, want %v", keep, e, f.List(), f.Loose(), wants[as])
		}
		for _, x := range wants[as] {
			if inode, is := f.Find(x.Name); inode != x.Inode || !is {
				t.Errorf("behind Crash(%d) Find(%q) = %d, %v", keep, x.Name, inode, is)
			}
		}
	}
	for keep := range wants {
		ask(keep, keep)
	}
	for _, keep := range []int{6, 7, 1000, math.MaxInt} {
		ask(keep, 5)
	}
	for _, keep := range []int{-1, -5, math.MinInt} {
		ask(keep, 0)
	}
	f := New()
	for _, keep := range []int{-1, 0, 1} {
		fine(t, f.Crash(keep))
		same(t, f, newSlow())
	}
}

// P6.3: inodes that were told are never told again, though a crash undid them all, or they were removed.
func TestNeverTwice(t *testing.T) {
	f := New()
	for i := range 40 {
		inode, e := f.Create("a")
		if inode != uint64(i+1) || e != api.OK {
			t.Fatalf("behind %d inodes: %d, %d", i, inode, e)
		}
		switch i % 4 {
		case 0:
			fine(t, f.Crash(0))
		case 1:
			fine(t, f.Rename("a", "b"))
		case 2:
			fine(t, f.Sync(), f.Remove("a"))
		case 3:
			fine(t, f.Rename("b", "a"), f.Crash(-1), f.Remove("a"), f.Remove("b"), f.Sync())
		}
	}
}

// P6.4: what was taken away lives as long as a crash may bring it back, and no longer.
func TestLive(t *testing.T) {
	f := New()
	ask := func(want ...uint64) {
		t.Helper()
		if got := f.Live(); !slices.Equal(got, want) {
			t.Errorf("Live: %d, want %d", got, want)
		}
	}
	ask()
	f.Create("b")
	f.Create("a")
	ask(1, 2)
	f.Remove("a")
	ask(1, 2)
	fine(t, f.Sync())
	ask(1)
	f.Create("c")
	f.Rename("c", "b")
	ask(1, 3)
	f.Create("d")
	ask(1, 3, 4)
	g := f.Copy()
	fine(t, f.Crash(0))
	ask(1)
	f = g.Copy()
	fine(t, f.Crash(1))
	ask(1, 3)
	f = g.Copy()
	fine(t, f.Crash(2))
	ask(3)
	f = g
	fine(t, f.Sync())
	ask(3, 4)
	// Of the number that a crash took back nothing lives, nor of those that were refused.
	f.Create("e")
	fine(t, f.Crash(0))
	f.Create("d")
	f.Create("D")
	ask(3, 4)
	f.Create("f")
	ask(3, 4, 6)
	f.Remove("b")
	f.Remove("d")
	f.Remove("f")
	ask(3, 4, 6)
	fine(t, f.Sync())
	ask()
}

// P6.2 to P6.7: each row of some calls of few names, behind some safe ones, by each crash.
func TestEachRow(t *testing.T) {
	names := []string{"a", "b", "c"}
	rows := 0
	var try func(f *Folder, s *slow, left int)
	try = func(f *Folder, s *slow, left int) {
		rows++
		same(t, f, s)
		eachCrash(t, f, s)
		if left == 0 {
			return
		}
		for _, name := range names {
			g, r := f.Copy(), s.copy()
			made(t, g, r, name)
			if r.loose() > s.loose() {
				try(g, r, left-1)
			}
			g, r = f.Copy(), s.copy()
			removed(t, g, r, name)
			if r.loose() > s.loose() {
				try(g, r, left-1)
			}
			for _, to := range names {
				g, r := f.Copy(), s.copy()
				renamed(t, g, r, name, to)
				if r.loose() > s.loose() {
					try(g, r, left-1)
				}
			}
		}
	}
	for _, safe := range [][]string{nil, {"a"}, {"b", "a"}, {"c", "a", "b"}} {
		f, s := New(), newSlow()
		for _, name := range safe {
			made(t, f, s, name)
		}
		fine(t, f.Sync())
		s.crash(s.loose())
		try(f, s, 4)
	}
	if rows < 5000 {
		t.Error("too few rows:", rows)
	}
}

// P6.1: a copy has the same, and each of the two lives apart, whatever is done to either.
func TestCopy(t *testing.T) {
	calls := []func(t *testing.T, f *Folder, s *slow){
		func(t *testing.T, f *Folder, s *slow) { made(t, f, s, "more") },
		func(t *testing.T, f *Folder, s *slow) { made(t, f, s, "other"); removed(t, f, s, "gone") },
		func(t *testing.T, f *Folder, s *slow) { renamed(t, f, s, "last", "gone"); made(t, f, s, "last") },
		func(t *testing.T, f *Folder, s *slow) { removed(t, f, s, "last"); removed(t, f, s, "gone") },
		func(t *testing.T, f *Folder, s *slow) { fine(t, f.Sync()); s.crash(s.loose()); made(t, f, s, "x") },
		func(t *testing.T, f *Folder, s *slow) { fine(t, f.Crash(0)); s.crash(0); removed(t, f, s, "old") },
		func(t *testing.T, f *Folder, s *slow) { fine(t, f.Crash(3)); s.crash(3); renamed(t, f, s, "old", "y") },
	}
	for _, first := range calls {
		for _, second := range calls {
			f, s := mixed(t)
			g, r := f.Copy(), s.copy()
			same(t, g, r)
			first(t, f, s)
			same(t, g, r)
			second(t, g, r)
			same(t, f, s)
			same(t, g, r)
			eachCrash(t, f, s)
			eachCrash(t, g, r)
			same(t, f, s)
		}
	}
	f := New().Copy()
	if inode, e := f.Create("a"); inode != 1 || e != api.OK {
		t.Error("of a copy of a new one:", inode, e)
	}
}

// P6.1, P6.4: what is told is new memory.
func TestNewMemory(t *testing.T) {
	f, s := mixed(t)
	for range 2 {
		clear(f.List())
		clear(f.Live())
		_ = append(f.List()[:1], Entry{"x", 9}, Entry{"y", 9})
		_ = append(f.Live()[:1], 9, 9, 9)
		same(t, f, s)
		eachCrash(t, f, s)
		fine(t, f.Sync())
		s.crash(s.loose())
	}
}

// P6.1 to P6.7: calls by chance, those that may not be among them, against the chapter's words.
func TestByChance(t *testing.T) {
	chance := rand.New(rand.NewSource(2))
	names := []string{"a", "b", "c", "d", "e", "f", "A", ""}
	name := func() string { return names[chance.Intn(len(names))] }
	var f *Folder
	var s *slow
	told := map[uint64]int{}
	done, refused := [5]int{}, [5]int{}
	for step := range 30000 {
		if step%100 == 0 {
			f, s = New(), newSlow()
			clear(told)
		}
		// Syncs and crashes come seldom, or there would hardly be deeds.
		call := chance.Intn(12)
		if call > 2 && call < 10 {
			call %= 3
		}
		ahead := s.loose()
		var got, want api.Errno
		switch call {
		case 0:
			x := name()
			var inode, should uint64
			inode, got = f.Create(x)
			should, want = s.create(x)
			if inode != should || told[inode] > 0 && inode > 0 {
				t.Fatalf("step %d: Create(%q) = %d, want %d", step, x, inode, should)
			}
			told[inode]++
		case 1:
			x, y := name(), name()
			got, want = f.Rename(x, y), s.rename(x, y)
		case 2:
			x := name()
			got, want = f.Remove(x), s.remove(x)
		case 10:
			call = 3
			got = f.Sync()
			s.crash(s.loose())
		case 11:
			call = 4
			keep := chance.Intn(ahead+4) - 2
			got = f.Crash(keep)
			s.crash(keep)
		}
		if got != want {
			t.Fatalf("step %d, call %d: %d, want %d", step, call, got, want)
		}
		if got == api.OK {
			done[call]++
		} else {
			refused[call]++
		}
		same(t, f, s)
		if step%7 == 0 {
			eachCrash(t, f, s)
		}
	}
	for call := range done {
		if done[call] < 1000 || call < 3 && refused[call] < 1000 {
			t.Error("too few calls were done, or refused:", done, refused)
		}
	}
}

// P6.5, P6.6: a crash leaves what was there at some moment since the last Sync, the later the more it keeps, and only live inodes, all of which were told ahead of it.
func TestBeginning(t *testing.T) {
	chance := rand.New(rand.NewSource(3))
	for range 200 {
		f := New()
		for i := range chance.Intn(6) {
			f.Create(fmt.Sprint("n", i))
		}
		fine(t, f.Sync())
		moments := [][]Entry{f.List()}
		for range chance.Intn(30) {
			ahead := f.Loose()
			x, y := fmt.Sprint("n", chance.Intn(8)), fmt.Sprint("n", chance.Intn(8))
			[]func(){func() { f.Create(x) }, func() { f.Remove(x) }, func() { f.Rename(x, y) }}[chance.Intn(3)]()
			if f.Loose() > ahead {
				moments = append(moments, f.List())
			}
		}
		if f.Loose() != len(moments)-1 {
			t.Fatal("loose:", f.Loose(), "moments:", len(moments))
		}
		live := f.Live()
		if !slices.IsSorted(live) || len(slices.Compact(slices.Clone(live))) != len(live) {
			t.Fatal("Live:", live)
		}
		brought := map[uint64]int{}
		for keep, want := range moments {
			g := f.Copy()
			fine(t, g.Crash(keep))
			if !slices.Equal(g.List(), want) {
				t.Fatalf("Crash(%d): %v, want %v", keep, g.List(), want)
			}
			one := map[uint64]int{}
			for _, x := range g.List() {
				brought[x.Inode]++
				one[x.Inode]++
				if one[x.Inode] > 1 || !slices.Contains(live, x.Inode) || !slices.Contains(g.Live(), x.Inode) {
					t.Fatalf("Crash(%d): %v, of the live %d", keep, x, live)
				}
			}
		}
		if len(brought) != len(live) {
			t.Fatalf("alive are %d, crashes bring %v", live, brought)
		}
	}
}

// P6.2 to P6.4: of very many loose deeds.
func TestGreat(t *testing.T) {
	const many = 100000
	f := New()
	for range many {
		f.Create("a")
		fine(t, f.Rename("a", "b"))
	}
	if f.Loose() != 2*many || !slices.Equal(f.List(), []Entry{{"b", many}}) {
		t.Fatal(f.Loose(), f.List())
	}
	if live := f.Live(); len(live) != many || live[0] != 1 || live[many-1] != many {
		t.Error("alive:", len(live))
	}
	for keep, want := range map[int][]Entry{0: nil, 1: {{"a", 1}}, many: {{"b", many / 2}}, many + 1: {{"a", many/2 + 1}, {"b", many / 2}}, math.MaxInt: {{"b", many}}} {
		g := f.Copy()
		fine(t, g.Crash(keep))
		if !slices.Equal(g.List(), want) || len(g.Live()) != len(want) {
			t.Errorf("Crash(%d): %v, want %v", keep, g.List(), want)
		}
	}
	fine(t, f.Sync())
	if !slices.Equal(f.Live(), []uint64{many}) {
		t.Error(f.Live())
	}
}
