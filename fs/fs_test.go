package fs

import (
	"bytes"
	"fmt"
	"maps"
	"math"
	"math/rand"
	"slices"
	"strings"
	"testing"

	"hourbook/api"
)

// slowFile is a file as chapter 5 tells it: safe bytes, and units one by one: a byte to append, or, below 0, -1 less the size to cut to.
type slowFile struct {
	safe  []byte
	units []int
}

func (x *slowFile) behind(k int) []byte {
	b := bytes.Clone(x.safe)
	for _, u := range x.units[:k] {
		if u >= 0 {
			b = append(b, byte(u))
		} else {
			b = b[:-1-u]
		}
	}
	return b
}

func (x *slowFile) bytes() []byte { return x.behind(len(x.units)) }

func (x *slowFile) crash(k int) { x.safe, x.units = x.behind(k), nil }

// slow is a file system as the chapter's words tell it: the names behind each number of loose deeds, the safe ones first; all files that ever were; a fuse below 0 is none.
type slow struct {
	states      []map[string]int
	files       map[int]*slowFile
	quota, fuse int
	steps       int
	off         bool
}

func newSlow(quota int) *slow {
	return &slow{states: []map[string]int{{}}, files: map[int]*slowFile{}, quota: quota, fuse: -1}
}

func (s *slow) copy() *slow {
	c := *s
	c.states = slices.Clone(s.states)
	c.files = map[int]*slowFile{}
	for inode, x := range s.files {
		c.files[inode] = &slowFile{bytes.Clone(x.safe), slices.Clone(x.units)}
	}
	return &c
}

func (s *slow) now() map[string]int { return s.states[len(s.states)-1] }

func (s *slow) at(name string) *slowFile { return s.files[s.now()[name]] }

func (s *slow) next(change func(m map[string]int)) {
	m := maps.Clone(s.now())
	change(m)
	s.states = append(s.states, m)
}

func (s *slow) used() int {
	sum := 0
	for _, inode := range s.now() {
		sum += len(s.files[inode].bytes())
	}
	return sum
}

func slowMay(name string) bool {
	for _, c := range []byte(name) {
		if !strings.Contains("abcdefghijklmnopqrstuvwxyz0123456789-.", string(rune(c))) {
			return false
		}
	}
	return len(name) >= 1 && len(name) <= 32
}

// event is a call, told by its kind.
type event struct {
	kind     string
	name, to string
	b        []byte
	at, n    int
	picks    []int
}

// asked is ErrOff, ErrArg, ErrNone, in this order, of a call of the file of that name.
func (s *slow) asked(name string) api.Errno {
	switch {
	case s.off:
		return api.ErrOff
	case !slowMay(name):
		return api.ErrArg
	case s.at(name) == nil:
		return api.ErrNone
	}
	return api.OK
}

// isStep tells of each kind whether it is a step.
var isStep = map[string]int{"create": 1, "append": 1, "truncate": 1, "sync": 1, "syncdir": 1, "rename": 1, "remove": 1}

// do does the event as the chapter's words tell it.
func (s *slow) do(e event) ([]byte, int, api.Errno) {
	if isStep[e.kind] == 0 {
		return s.other(e)
	}
	if s.off {
		return nil, 0, api.ErrOff
	}
	s.steps++
	if s.fuse == 0 {
		s.off = true
		return nil, 0, api.ErrOff
	}
	if s.fuse > 0 {
		s.fuse--
	}
	return nil, 0, s.step(e)
}

func (s *slow) step(e event) api.Errno {
	switch e.kind {
	case "create":
		if slowMay(e.name) && s.at(e.name) != nil {
			return api.ErrThere
		}
		if slowMay(e.name) && len(s.now()) >= 256 {
			return api.ErrFull
		}
		if slowMay(e.name) {
			inode := len(s.files) + 1
			s.files[inode] = &slowFile{}
			s.next(func(m map[string]int) { m[e.name] = inode })
			return api.OK
		}
		return api.ErrArg
	case "syncdir":
		s.states = s.states[len(s.states)-1:]
		return api.OK
	case "rename":
		if !slowMay(e.to) {
			return api.ErrArg
		}
	}
	if wrong := s.asked(e.name); wrong != api.OK {
		return wrong
	}
	return s.stepOf(s.at(e.name), e)
}

func (s *slow) stepOf(x *slowFile, e event) api.Errno {
	switch e.kind {
	case "append":
		if s.used()+len(e.b) > s.quota {
			return api.ErrSpace
		}
		for _, c := range e.b {
			x.units = append(x.units, int(c))
		}
	case "truncate":
		if e.at < 0 || e.at > len(x.bytes()) {
			return api.ErrArg
		}
		if e.at < len(x.bytes()) {
			x.units = append(x.units, -1-e.at)
		}
	case "sync":
		x.crash(len(x.units))
	case "rename":
		inode := s.now()[e.name]
		if e.name != e.to {
			s.next(func(m map[string]int) { m[e.to] = inode; delete(m, e.name) })
		}
	case "remove":
		s.next(func(m map[string]int) { delete(m, e.name) })
	}
	return api.OK
}

func (s *slow) other(e event) ([]byte, int, api.Errno) {
	switch e.kind {
	case "crash":
		return nil, 0, s.crash(e.picks)
	case "quota":
		if e.at < 0 || e.at > 1<<30 {
			return nil, 0, api.ErrArg
		}
		s.quota = e.at
		return nil, 0, api.OK
	case "fuse":
		if s.off {
			return nil, 0, api.ErrOff
		}
		s.fuse = max(e.at, -1)
		return nil, 0, api.OK
	}
	if wrong := s.asked(e.name); wrong != api.OK {
		return nil, 0, wrong
	}
	x := s.at(e.name)
	b := x.bytes()
	switch e.kind {
	case "read":
		if e.at < 0 || e.n < 0 {
			return nil, 0, api.ErrArg
		}
		if e.at > len(b) || e.n > len(b)-e.at {
			return nil, 0, api.ErrShort
		}
		return b[e.at:][:e.n], 0, api.OK
	case "size":
		return nil, len(b), api.OK
	case "flip":
		if len(x.units) > 0 || e.at < 0 || e.at >= len(b) {
			return nil, 0, api.ErrArg
		}
		x.safe[e.at] ^= byte(e.n)
	}
	return nil, 0, api.OK
}

func (s *slow) crash(picks []int) api.Errno {
	for _, p := range picks {
		if p < 0 {
			return api.ErrArg
		}
	}
	pick := func(i, loose int) int {
		if i >= len(picks) {
			return 0
		}
		return picks[i] % (loose + 1)
	}
	s.states = s.states[pick(0, len(s.states)-1):][:1]
	for i, inode := range slices.Sorted(maps.Values(s.now())) {
		x := s.files[inode]
		x.crash(pick(i+1, len(x.units)))
	}
	s.off, s.fuse = false, -1
	return api.OK
}

// call does the event with a file system.
func call(f *FS, e event) ([]byte, int, api.Errno) {
	switch e.kind {
	case "create":
		return nil, 0, f.Create(e.name)
	case "append":
		return nil, 0, f.Append(e.name, e.b)
	case "truncate":
		return nil, 0, f.Truncate(e.name, e.at)
	case "sync":
		return nil, 0, f.Sync(e.name)
	case "syncdir":
		return nil, 0, f.SyncDir()
	case "rename":
		return nil, 0, f.Rename(e.name, e.to)
	case "remove":
		return nil, 0, f.Remove(e.name)
	case "read":
		b, wrong := f.ReadAt(e.name, e.at, e.n)
		return b, 0, wrong
	case "size":
		n, wrong := f.Size(e.name)
		return nil, n, wrong
	case "fuse":
		return nil, 0, f.Fuse(e.at)
	case "quota":
		return nil, 0, f.Quota(e.at)
	case "crash":
		return nil, 0, f.Crash(e.picks)
	case "flip":
		return nil, 0, f.Flip(e.name, e.at, byte(e.n))
	}
	panic("no such event: " + e.kind)
}

// both does the event with both, and fails, unless they tell the same.
func both(t *testing.T, f *FS, s *slow, e event) api.Errno {
	t.Helper()
	b, n, wrong := call(f, e)
	b2, n2, want := s.do(e)
	if wrong != want || n != n2 || !bytes.Equal(b, b2) {
		t.Fatalf("%+v tells %q, %d, %d, want %q, %d, %d", e, b, n, wrong, b2, n2, want)
	}
	return wrong
}

// all does some events with both, all of which are to be OK.
func all(t *testing.T, f *FS, s *slow, events ...event) {
	t.Helper()
	for _, e := range events {
		if wrong := both(t, f, s, e); wrong != api.OK {
			t.Fatalf("%+v tells %d", e, wrong)
		}
	}
}

// same asks all that a file system tells against what it should have.
func same(t *testing.T, f *FS, s *slow) {
	t.Helper()
	names, used, steps := slices.Sorted(maps.Keys(s.now())), s.used(), s.steps
	if s.off {
		names, used, steps = nil, 0, 0
	}
	if got := f.List(); !slices.Equal(got, names) {
		t.Fatalf("List: %q, want %q", got, names)
	}
	if f.Used() != used || f.Steps() != steps || f.On() == s.off {
		t.Fatalf("Used, Steps, On: %d, %d, %v, want %d, %d, %v", f.Used(), f.Steps(), f.On(), used, steps, !s.off)
	}
	for name := range s.now() {
		want, e := s.at(name).bytes(), api.OK
		if s.off {
			want, e = nil, api.ErrOff
		}
		if n, wrong := f.Size(name); n != len(want) || wrong != e {
			t.Fatalf("Size(%q) = %d, %d, want %d, %d", name, n, wrong, len(want), e)
		}
		if b, wrong := f.ReadAt(name, 0, len(want)); !bytes.Equal(b, want) || wrong != e {
			t.Fatalf("%q has %q, %d, want %q, %d", name, b, wrong, want, e)
		}
	}
	// Others are gone, and not kept.
	live := map[int]int{}
	for _, m := range s.states {
		for _, inode := range m {
			live[inode]++
		}
	}
	if len(f.files) != len(live) {
		t.Fatalf("%d files are kept, of which %d live", len(f.files), len(live))
	}
}

// crashes asks crashes of copies: some picks, and one behind it that keeps nothing.
func crashes(t *testing.T, f *FS, s *slow, rows ...[]int) {
	t.Helper()
	for _, picks := range rows {
		g, r := f.Copy(), s.copy()
		all(t, g, r, event{kind: "crash", picks: picks})
		same(t, g, r)
		all(t, g, r, event{kind: "crash"})
		same(t, g, r)
	}
	same(t, f, s)
}

// made is a new file system of that quota, and a slow one.
func made(t *testing.T, quota int) (*FS, *slow) {
	t.Helper()
	f, e := New(quota)
	fine(t, e)
	return f, newSlow(quota)
}

// fine fails, unless each of the calls was.
func fine(t *testing.T, calls ...api.Errno) {
	t.Helper()
	for i, e := range calls {
		if e != api.OK {
			t.Fatalf("call %d tells %d", i, e)
		}
	}
}

// refused fails, unless each of the calls tells that error.
func refused(t *testing.T, want api.Errno, calls ...api.Errno) {
	t.Helper()
	for i, e := range calls {
		if e != want {
			t.Fatalf("call %d tells %d, want %d", i, e, want)
		}
	}
}

// whole is all that the file of that name has.
func whole(t *testing.T, f *FS, name string) string {
	t.Helper()
	n, e := f.Size(name)
	b, e2 := f.ReadAt(name, 0, n)
	fine(t, e, e2)
	return string(b)
}

// crashed is a copy of f behind a crash by picks.
func crashed(t *testing.T, f *FS, picks ...int) *FS {
	t.Helper()
	c := f.Copy()
	fine(t, c.Crash(picks))
	return c
}

// mixed is a file system with safe files and names, and with loose ones of each kind. By inodes: 1 old, renamed to moved; 2 gone, removed; 3 cut, cut and appended to; 4 late, whose name is loose; 5 over, renamed over late.
func mixed(t *testing.T) (*FS, *slow) {
	t.Helper()
	f, s := made(t, 1000)
	all(t, f, s,
		event{kind: "create", name: "old"},
		event{kind: "create", name: "gone"},
		event{kind: "create", name: "cut"},
		event{kind: "append", name: "old", b: []byte("older")},
		event{kind: "append", name: "gone", b: []byte("gone with it")},
		event{kind: "append", name: "cut", b: []byte("cut here")},
		event{kind: "sync", name: "old"},
		event{kind: "sync", name: "cut"},
		event{kind: "syncdir"},
		event{kind: "append", name: "old", b: []byte(" and older")},
		event{kind: "rename", name: "old", to: "moved"},
		event{kind: "remove", name: "gone"},
		event{kind: "truncate", name: "cut", at: 4},
		event{kind: "append", name: "cut", b: []byte("off")},
		event{kind: "create", name: "late"},
		event{kind: "append", name: "late", b: []byte("too late")},
		event{kind: "create", name: "over"},
		event{kind: "append", name: "over", b: []byte("it is over")},
		event{kind: "rename", name: "over", to: "late"},
	)
	same(t, f, s)
	return f, s
}

var wrongNames = []string{"", " ", "A", "a b", "a/b", "a_b", "\x00", "a\x00", "\xff", "a\u0131", strings.Repeat("a", 33), strings.Repeat("a", 32) + "\x00"}

var numbers = []int{math.MinInt, math.MinInt + 1, -1, 0, 1, 2, 5, 1000, 1 << 30, 1<<30 + 1, math.MaxInt - 1, math.MaxInt}

// P7.1 to P7.4: the chapter's examples.
func TestExamples(t *testing.T) {
	f, e := New(10)
	fine(t, e, f.Create("a"), f.Append("a", []byte("abcdef")))
	refused(t, api.ErrSpace, f.Append("a", []byte("ghijk")))
	fine(t, f.Sync("a"), f.Crash([]int{0}))
	if len(f.List()) != 0 {
		t.Error(f.List())
	}
	fine(t, f.Create("a"), f.SyncDir(), f.Append("a", []byte("xyz")), f.Crash([]int{0, 2}))
	if b, e := f.ReadAt("a", 0, 2); string(b) != "xy" || e != api.OK {
		t.Errorf("%q, %d", b, e)
	}
	if n, e := f.Size("a"); n != 2 || e != api.OK {
		t.Error(n, e)
	}
	fine(t, f.Fuse(1), f.Create("b"))
	refused(t, api.ErrOff, f.Create("c"))
	if f.On() {
		t.Error("the power is on")
	}
}

// P7.1: each quota that may be, and those that may not.
func TestNew(t *testing.T) {
	for _, quota := range []int{0, 1, 10, 1<<30 - 1, 1 << 30} {
		f, s := made(t, quota)
		same(t, f, s)
		if other, _ := New(quota); other == f {
			t.Error("two are one")
		}
		// No fuse is there.
		for range 100 {
			all(t, f, s, event{kind: "syncdir"})
		}
		same(t, f, s)
	}
	for _, quota := range []int{math.MinInt, -1 << 30, -1, 1<<30 + 1, 1 << 31, 1 << 32, 1<<32 + 10, math.MaxInt} {
		if f, e := New(quota); f != nil || e != api.ErrArg {
			t.Errorf("New(%d) = %v, %d", quota, f, e)
		}
	}
}

// P7.1 to P7.4: of none, and of one that New did not make, all is ErrNil, ahead of whatever else is wrong, and nothing is there.
func TestNone(t *testing.T) {
	for _, f := range []*FS{nil, new(FS), {}} {
		for range 2 {
			if f.Copy() != nil || len(f.List()) != 0 || f.Used() != 0 || f.Steps() != 0 || f.On() {
				t.Fatal("something of none")
			}
			for _, name := range append([]string{"a", "manifest"}, wrongNames...) {
				refused(t, api.ErrNil, f.Create(name), f.Append(name, nil), f.Append(name, []byte("abc")), f.Sync(name), f.Rename(name, "b"), f.Rename("b", name), f.Rename(name, name), f.Remove(name))
				for _, n := range numbers {
					refused(t, api.ErrNil, f.Truncate(name, n), f.Flip(name, n, 1))
					if b, e := f.ReadAt(name, n, 1); len(b) != 0 || e != api.ErrNil {
						t.Fatal("ReadAt:", b, e)
					}
					if b, e := f.ReadAt(name, 1, n); len(b) != 0 || e != api.ErrNil {
						t.Fatal("ReadAt:", b, e)
					}
				}
				if n, e := f.Size(name); n != 0 || e != api.ErrNil {
					t.Fatal("Size:", n, e)
				}
			}
			refused(t, api.ErrNil, f.SyncDir(), f.Crash(nil), f.Crash([]int{1, 2}), f.Crash([]int{-1}))
			for _, n := range numbers {
				refused(t, api.ErrNil, f.Fuse(n), f.Quota(n))
			}
		}
	}
}

// P7.1: names rising by their bytes, whatever the order in which they came; used is what is there now.
func TestListAndUsed(t *testing.T) {
	names := []string{"b", "seg-000001", "a", "manifest", "a.b", "-", "9", "ab", ".", "0", strings.Repeat("z", 32)}
	f, s := made(t, 1<<20)
	for i, name := range names {
		all(t, f, s, event{kind: "create", name: name}, event{kind: "append", name: name, b: make([]byte, 1<<i)})
		same(t, f, s)
	}
	if got, want := f.List(), slices.Sorted(slices.Values(names)); !slices.Equal(got, want) || f.Used() != 1<<len(names)-1 {
		t.Error(got, f.Used())
	}
	all(t, f, s, event{kind: "remove", name: "a"})
	same(t, f, s)
	all(t, f, s, event{kind: "rename", name: "b", to: "manifest"})
	same(t, f, s)
	all(t, f, s, event{kind: "truncate", name: "9", at: 3})
	same(t, f, s)
	all(t, f, s, event{kind: "rename", name: "9", to: "9"}, event{kind: "rename", name: "9", to: "a"})
	same(t, f, s)
	if f.Used() != 1<<len(names)-1-4-8-61 {
		t.Error(f.Used())
	}
	all(t, f, s, event{kind: "crash"})
	same(t, f, s)
	if f.Used() != 0 || len(f.List()) != 0 {
		t.Error(f.Used(), f.List())
	}
}

// tells fails, unless List, Used, Steps and On tell that.
func tells(t *testing.T, f *FS, names []string, used, steps int, on bool) {
	t.Helper()
	if !slices.Equal(f.List(), names) || f.Used() != used || f.Steps() != steps || f.On() != on {
		t.Fatalf("List, Used, Steps, On: %q, %d, %d, %v, want %q, %d, %d, %v", f.List(), f.Used(), f.Steps(), f.On(), names, used, steps, on)
	}
}

// P7.1: while the power is off nothing is told, as of none; what is there stays, and is told again behind a crash.
func TestAskedWhileOff(t *testing.T) {
	f, s := mixed(t)
	all(t, f, s, event{kind: "fuse", at: 0})
	tells(t, f, []string{"cut", "late", "moved"}, 32, 19, true)
	refused(t, api.ErrOff, both(t, f, s, event{kind: "syncdir"}))
	tells(t, f, nil, 0, 0, false)
	g := f.Copy()
	tells(t, g, nil, 0, 0, false)
	// What is refused then, or done by Quota, brings nothing back.
	refused(t, api.ErrOff, f.Create("new"), f.Fuse(9))
	refused(t, api.ErrArg, f.Crash([]int{-1}), f.Quota(-1))
	fine(t, f.Quota(100))
	tells(t, f, nil, 0, 0, false)
	for _, off := range []*FS{f, g, f.Copy(), g.Copy().Copy()} {
		tells(t, crashed(t, off, keepAll(s)...), []string{"cut", "late", "moved"}, 32, 20, true)
		tells(t, crashed(t, off, 1, 5), []string{"cut", "gone", "moved"}, 18, 20, true)
		tells(t, off, nil, 0, 0, false)
		fine(t, off.Crash(nil))
		tells(t, off, []string{"cut", "gone", "old"}, 13, 20, true)
		fine(t, off.SyncDir(), off.Append("old", []byte("est")))
		tells(t, off, []string{"cut", "gone", "old"}, 16, 22, true)
	}
}

// P7.1: that the power goes off with the first step of all, and in a file system of no files.
func TestOffAtOnce(t *testing.T) {
	f, _ := made(t, 100)
	fine(t, f.Fuse(0))
	tells(t, f, nil, 0, 0, true)
	refused(t, api.ErrOff, f.Create("new"))
	tells(t, f, nil, 0, 0, false)
	fine(t, f.Crash(nil))
	tells(t, f, nil, 0, 1, true)
	fine(t, f.Create("2"), f.Fuse(0))
	refused(t, api.ErrOff, f.Create("new"))
	tells(t, f, nil, 0, 0, false)
	tells(t, crashed(t, f, 1), []string{"2"}, 0, 3, true)
	tells(t, crashed(t, f), nil, 0, 3, true)
}

// P7.2, P7.3: a name that may not be is ErrArg, one that is not there ErrNone, whatever else is wrong.
func TestNames(t *testing.T) {
	f, s := mixed(t)
	all(t, f, s, event{kind: "quota", at: 0})
	ask := func(name string, want api.Errno) {
		t.Helper()
		for _, kind := range []string{"append", "truncate", "sync", "remove", "read", "size", "flip"} {
			for _, n := range numbers {
				e := event{kind: kind, name: name, b: []byte("some"), at: n, n: -n}
				refused(t, want, both(t, f, s, e))
			}
		}
		for _, to := range []string{"cut", "moved", "none", name} {
			refused(t, want, both(t, f, s, event{kind: "rename", name: name, to: to}))
		}
		same(t, f, s)
	}
	for _, name := range wrongNames {
		ask(name, api.ErrArg)
		for _, from := range []string{"cut", "moved", "none", "A"} {
			refused(t, api.ErrArg, both(t, f, s, event{kind: "rename", name: from, to: name}))
		}
		refused(t, api.ErrArg, both(t, f, s, event{kind: "create", name: name}))
	}
	for _, name := range []string{"none", "a", "old", "gone", "over", strings.Repeat("z", 32)} {
		ask(name, api.ErrNone)
	}
	crashes(t, f, s, nil, []int{9}, []int{1, 1, 1, 1})
}

// P7.2: what is created is empty, and what is there, or too much, is refused.
func TestCreate(t *testing.T) {
	f, s := mixed(t)
	for _, name := range f.List() {
		refused(t, api.ErrThere, both(t, f, s, event{kind: "create", name: name}))
		same(t, f, s)
	}
	// Under the name of another file that is gone, or moved, or over, stands a new one.
	for _, name := range []string{"gone", "old", "over", "new"} {
		all(t, f, s, event{kind: "create", name: name})
		if whole(t, f, name) != "" {
			t.Error(name, whole(t, f, name))
		}
		same(t, f, s)
	}
	crashes(t, f, s, nil, []int{1}, []int{8, 1, 2, 3, 4, 5, 6, 7}, []int{9, 100, 100, 100, 100})
	for i := len(f.List()); i < 256; i++ {
		all(t, f, s, event{kind: "create", name: fmt.Sprint("f", i)})
	}
	same(t, f, s)
	refused(t, api.ErrFull, both(t, f, s, event{kind: "create", name: "more"}))
	refused(t, api.ErrThere, both(t, f, s, event{kind: "create", name: "f100"}))
	refused(t, api.ErrArg, both(t, f, s, event{kind: "create", name: "F100"}))
	same(t, f, s)
	all(t, f, s, event{kind: "remove", name: "f100"}, event{kind: "create", name: "more"})
	same(t, f, s)
}

// P7.2, P7.4: room is the quota's, for all files together, those that are gone not counted.
func TestSpace(t *testing.T) {
	f, s := made(t, 10)
	add := func(name string, n int) event { return event{kind: "append", name: name, b: make([]byte, n)} }
	full := func(name string, n int) {
		t.Helper()
		refused(t, api.ErrSpace, both(t, f, s, add(name, n)))
		same(t, f, s)
	}
	all(t, f, s, event{kind: "create", name: "a"}, event{kind: "create", name: "b"}, add("a", 0))
	full("a", 11)
	full("a", 1000)
	all(t, f, s, add("a", 10), add("a", 0), add("b", 0))
	full("a", 1)
	full("b", 1)
	all(t, f, s, event{kind: "truncate", name: "a", at: 6}, add("b", 4))
	full("b", 1)
	all(t, f, s, event{kind: "remove", name: "a"})
	full("b", 7)
	all(t, f, s, add("b", 6))
	all(t, f, s, event{kind: "create", name: "c"}, event{kind: "rename", name: "c", to: "b"})
	full("b", 11)
	all(t, f, s, add("b", 10))
	full("b", 1)
	// What is there stays, and nothing more comes, not even nothing.
	for _, quota := range []int{9, 5, 1, 0} {
		all(t, f, s, event{kind: "quota", at: quota})
		full("b", 1)
		full("b", 0)
	}
	all(t, f, s, event{kind: "truncate", name: "b", at: 0}, add("b", 0))
	full("b", 1)
	all(t, f, s, event{kind: "quota", at: 1 << 30}, add("b", 5000))
	same(t, f, s)
	for _, quota := range []int{-1, math.MinInt, 1<<30 + 1, 1 << 32, math.MaxInt} {
		refused(t, api.ErrArg, both(t, f, s, event{kind: "quota", at: quota}))
		all(t, f, s, add("b", 1))
		same(t, f, s)
	}
}

// P7.2, P7.4: a crash may bring back more than the quota lets; that stays, and counts.
func TestSpaceBehindACrash(t *testing.T) {
	f, s := made(t, 10)
	all(t, f, s,
		event{kind: "create", name: "a"},
		event{kind: "append", name: "a", b: make([]byte, 8)},
		event{kind: "sync", name: "a"},
		event{kind: "syncdir"},
		event{kind: "truncate", name: "a", at: 0},
		event{kind: "create", name: "b"},
		event{kind: "append", name: "b", b: make([]byte, 10)},
		event{kind: "crash", picks: []int{1, 0, 10}},
	)
	same(t, f, s)
	if f.Used() != 18 {
		t.Error(f.Used())
	}
	refused(t, api.ErrSpace, both(t, f, s, event{kind: "append", name: "b", b: []byte("x")}))
	all(t, f, s, event{kind: "remove", name: "a"})
	refused(t, api.ErrSpace, both(t, f, s, event{kind: "append", name: "b", b: []byte("x")}))
	all(t, f, s, event{kind: "truncate", name: "b", at: 9}, event{kind: "append", name: "b", b: []byte("x")})
	same(t, f, s)
}

// P7.2, P7.3: sizes, places and lengths, those that may not be too.
func TestCutReadFlip(t *testing.T) {
	places := []int{math.MinInt, -1, 0, 1, 3, 6, 7, 8, 9, 14, 15, 16, 1000, math.MaxInt}
	for _, name := range []string{"cut", "moved", "late"} {
		for _, at := range places {
			f, s := mixed(t)
			both(t, f, s, event{kind: "truncate", name: name, at: at})
			same(t, f, s)
			for _, n := range places {
				both(t, f, s, event{kind: "read", name: name, at: at, n: n})
			}
			both(t, f, s, event{kind: "flip", name: name, at: at, n: 0x81})
			same(t, f, s)
			all(t, f, s, event{kind: "sync", name: name})
			for _, bits := range []int{0, 1, 0x80, 0xff} {
				both(t, f, s, event{kind: "flip", name: name, at: at, n: bits})
				same(t, f, s)
			}
			crashes(t, f, s, nil, []int{2, 1, 1, 1}, []int{math.MaxInt, math.MaxInt, math.MaxInt})
		}
	}
	f, s := mixed(t)
	all(t, f, s, event{kind: "crash", picks: []int{1, 4}}, event{kind: "flip", name: "moved", at: 4, n: 0x20})
	if got := whole(t, f, "moved"); got != "oldeR and" {
		t.Errorf("%q", got)
	}
	same(t, crashed(t, f), s)
}

// P7.1, P7.4: each kind of step is one, whatever it tells, also that the power goes off; nothing else is, and nothing while the power is off.
func TestSteps(t *testing.T) {
	steps := []event{
		{kind: "create", name: "new"}, {kind: "append", name: "cut", b: []byte("x")}, {kind: "append", name: "cut"},
		{kind: "truncate", name: "cut", at: 1}, {kind: "sync", name: "cut"}, {kind: "syncdir"},
		{kind: "rename", name: "cut", to: "new"}, {kind: "rename", name: "cut", to: "cut"}, {kind: "remove", name: "late"},
		{kind: "create", name: "cut"}, {kind: "create", name: "A"}, {kind: "append", name: "none"}, {kind: "append", name: ""},
		{kind: "append", name: "cut", b: make([]byte, 1000)}, {kind: "truncate", name: "cut", at: 99}, {kind: "truncate", name: "none"},
		{kind: "truncate", name: "cut", at: -1}, {kind: "sync", name: "none"}, {kind: "sync", name: "N"},
		{kind: "rename", name: "none", to: "a"}, {kind: "rename", name: "cut", to: ""}, {kind: "remove", name: "none"}, {kind: "remove", name: "-_"},
	}
	others := []event{
		{kind: "read", name: "cut", n: 2}, {kind: "read", name: "none"}, {kind: "read", name: ""}, {kind: "size", name: "cut"}, {kind: "size", name: "none"},
		{kind: "flip", name: "cut", n: 1}, {kind: "flip", name: "none"}, {kind: "quota", at: 100}, {kind: "quota", at: -1}, {kind: "crash", picks: []int{-1}},
	}
	for _, e := range steps {
		f, s := mixed(t)
		both(t, f, s, e)
		if f.Steps() != 20 {
			t.Errorf("%+v: %d steps", e, f.Steps())
		}
		same(t, f, s)
		// The fuse lets one step be done, and not the next one.
		f, s = mixed(t)
		all(t, f, s, event{kind: "fuse", at: 1})
		for _, other := range others {
			both(t, f, s, other)
		}
		if both(t, f, s, e) == api.ErrOff || !f.On() || f.Steps() != 20 {
			t.Errorf("%+v took the power", e)
		}
		same(t, f, s)
		for _, other := range others {
			both(t, f, s, other)
		}
		ahead := s.copy()
		if both(t, f, s, e) != api.ErrOff || f.On() || f.Steps() != 0 {
			t.Errorf("%+v left the power: %v, %d", e, f.On(), f.Steps())
		}
		if n := crashed(t, f).Steps(); n != 21 {
			t.Errorf("%+v: %d steps behind a crash", e, n)
		}
		same(t, f, s)
		// Steps are none while the power is off.
		for _, next := range append(steps, others...) {
			both(t, f, s, next)
		}
		refused(t, api.ErrOff, f.Fuse(5), f.Fuse(0), f.Fuse(-1))
		if n := crashed(t, f).Steps(); f.On() || n != 21 {
			t.Error(f.On(), n)
		}
		same(t, f, s)
		// It was not done: a crash that keeps all tells what was there.
		ahead.steps = 21
		keep := event{kind: "crash", picks: slices.Repeat([]int{0}, 9)}
		keep.picks[0] = len(ahead.states) - 1
		for i, inode := range slices.Sorted(maps.Values(ahead.now())) {
			keep.picks[i+1] = len(ahead.files[inode].units)
		}
		all(t, f, ahead, keep)
		same(t, f, ahead)
	}
}

// P7.4: a fuse of each length, laid anew, or taken away; the power comes back without one.
func TestFuse(t *testing.T) {
	for _, n := range []int{0, 1, 2, 3, 10, 100} {
		f, s := made(t, 10)
		all(t, f, s, event{kind: "syncdir"}, event{kind: "syncdir"}, event{kind: "fuse", at: n})
		for range n {
			all(t, f, s, event{kind: "syncdir"})
		}
		for range 3 {
			if !s.off != f.On() {
				t.Error(n, f.On())
			}
			refused(t, api.ErrOff, both(t, f, s, event{kind: "syncdir"}), both(t, f, s, event{kind: "fuse", at: 100}))
			same(t, f, s)
		}
		all(t, f, s, event{kind: "crash"})
		if f.Steps() != n+3 {
			t.Error(n, f.Steps())
		}
		for range n + 50 {
			all(t, f, s, event{kind: "syncdir"})
		}
		same(t, f, s)
	}
	for _, last := range []int{-1, math.MinInt, math.MaxInt, math.MaxInt - 1, 60} {
		f, s := made(t, 10)
		all(t, f, s, event{kind: "fuse", at: 2}, event{kind: "syncdir"}, event{kind: "fuse", at: 3}, event{kind: "syncdir"}, event{kind: "syncdir"}, event{kind: "fuse", at: last})
		for range 60 {
			all(t, f, s, event{kind: "syncdir"})
		}
		same(t, f, s)
	}
	// A crash takes the fuse away also while the power is on, one that is refused does not.
	f, s := made(t, 10)
	all(t, f, s, event{kind: "fuse", at: 1})
	refused(t, api.ErrArg, both(t, f, s, event{kind: "crash", picks: []int{0, -1}}))
	all(t, f, s, event{kind: "syncdir"})
	g, r := f.Copy(), s.copy()
	all(t, f, s, event{kind: "crash"}, event{kind: "syncdir"}, event{kind: "syncdir"})
	refused(t, api.ErrOff, both(t, g, r, event{kind: "syncdir"}))
	refused(t, api.ErrArg, both(t, g, r, event{kind: "crash", picks: []int{math.MinInt}}))
	same(t, g, r)
	all(t, g, r, event{kind: "quota", at: 3}, event{kind: "crash"}, event{kind: "create", name: "a"}, event{kind: "append", name: "a", b: []byte("abc")})
	refused(t, api.ErrSpace, both(t, g, r, event{kind: "append", name: "a", b: []byte("d")}))
}

// P7.4: picks go by inodes, not by names; modulo one more than what is loose; those that want are 0, and those beyond do nothing.
func TestPicks(t *testing.T) {
	f, s := made(t, 1000)
	for _, name := range []string{"z", "m", "a"} {
		all(t, f, s, event{kind: "create", name: name})
	}
	all(t, f, s, event{kind: "syncdir"})
	for i, name := range []string{"a", "m", "z"} {
		all(t, f, s, event{kind: "append", name: name, b: []byte("abcdef")[:6-i]})
	}
	all(t, f, s, event{kind: "rename", name: "z", to: "b"}, event{kind: "create", name: "last"}, event{kind: "append", name: "last", b: []byte("xy")})
	for _, c := range []struct {
		picks []int
		want  map[string]string
	}{
		{nil, map[string]string{"z": "", "m": "", "a": ""}},
		{[]int{0, 1}, map[string]string{"z": "a", "m": "", "a": ""}},
		{[]int{0, 4, 5, 6}, map[string]string{"z": "abcd", "m": "abcde", "a": "abcdef"}},
		{[]int{0, 5, 6, 7}, map[string]string{"z": "", "m": "", "a": ""}},
		{[]int{0, 6, 8, 10, 2, 2, 2}, map[string]string{"z": "a", "m": "ab", "a": "abc"}},
		{[]int{1, 1, 2, 3, 2}, map[string]string{"b": "a", "m": "ab", "a": "abc"}},
		{[]int{2, 1, 2, 3, 1}, map[string]string{"b": "a", "m": "ab", "a": "abc", "last": "x"}},
		{[]int{2, 1, 2, 3, 4}, map[string]string{"b": "a", "m": "ab", "a": "abc", "last": "x"}},
		{[]int{3, 1, 2, 3, 2}, map[string]string{"z": "a", "m": "ab", "a": "abc"}},
		{[]int{5}, map[string]string{"b": "", "m": "", "a": "", "last": ""}},
		{[]int{0, math.MaxInt, math.MaxInt}, map[string]string{"z": "abcdef"[:math.MaxInt%5], "m": "abcdef"[:math.MaxInt%6], "a": ""}},
	} {
		for _, off := range []bool{false, true} {
			g := f.Copy()
			if off {
				fine(t, g.Fuse(0))
				refused(t, api.ErrOff, g.Remove("m"))
			}
			picks := slices.Clone(c.picks)
			fine(t, g.Crash(picks))
			if !slices.Equal(picks, c.picks) || !g.On() {
				t.Error(picks, g.On())
			}
			got := map[string]string{}
			for _, name := range g.List() {
				got[name] = whole(t, g, name)
			}
			if !maps.Equal(got, c.want) {
				t.Errorf("Crash(%d): %q, want %q", c.picks, got, c.want)
			}
		}
		crashes(t, f, s, c.picks)
	}
	for _, picks := range [][]int{{-1}, {0, -1}, {1, 1, 1, 1, 1, 1, 1, 1, -1}, {math.MinInt}} {
		refused(t, api.ErrArg, both(t, f, s, event{kind: "crash", picks: picks}))
		same(t, f, s)
	}
	crashes(t, f, s, []int{2, 1, 2, 3, 1})
}

// P7.2 to P7.4: of a removed file, and of one over which another was renamed, a crash may bring back name and bytes, with its own units.
func TestBroughtBack(t *testing.T) {
	f, s := mixed(t)
	for _, c := range []struct {
		picks []int
		want  map[string]string
	}{
		{nil, map[string]string{"old": "older", "gone": "", "cut": "cut here"}},
		{[]int{0, 3, 4, 1}, map[string]string{"old": "older an", "gone": "gone", "cut": "cut "}},
		{[]int{1, 0, 12, 4}, map[string]string{"moved": "older", "gone": "gone with it", "cut": "cut off"}},
		{[]int{2, 10, 2}, map[string]string{"moved": "older and older", "cut": "cut o"}},
		{[]int{3, 0, 0, 3}, map[string]string{"moved": "older", "cut": "cut here", "late": "too"}},
		{[]int{4, 0, 0, 3, 2}, map[string]string{"moved": "older", "cut": "cut here", "late": "too", "over": "it"}},
		{[]int{5, 0, 0, 5}, map[string]string{"moved": "older", "cut": "cut here", "late": "it is"}},
	} {
		g := crashed(t, f, c.picks...)
		got := map[string]string{}
		for _, name := range g.List() {
			got[name] = whole(t, g, name)
		}
		if !maps.Equal(got, c.want) {
			t.Errorf("Crash(%d): %q, want %q", c.picks, got, c.want)
		}
		crashes(t, f, s, c.picks)
	}
}

// P7.5: what is safe, under a name that is safe, is there behind each crash, and of what came behind it a beginning.
func TestSafe(t *testing.T) {
	f, s := made(t, 1000)
	all(t, f, s, event{kind: "create", name: "other"}, event{kind: "create", name: "a"}, event{kind: "append", name: "a", b: []byte("safe")}, event{kind: "syncdir"})
	if got := whole(t, crashed(t, f), "a"); got != "" {
		t.Errorf("bytes that were not synced: %q", got)
	}
	all(t, f, s, event{kind: "sync", name: "a"},
		event{kind: "append", name: "a", b: []byte("ty ")}, event{kind: "append", name: "other", b: []byte("12")},
		event{kind: "append", name: "a", b: []byte("first")}, event{kind: "create", name: "b"}, event{kind: "remove", name: "other"})
	seen := map[string]int{}
	for names := range 4 {
		for i := range 20 {
			for j := range 20 {
				got := whole(t, crashed(t, f, names, i, j), "a")
				if !strings.HasPrefix(got, "safe") || !strings.HasPrefix("safety first", got) {
					t.Fatalf("Crash(%d, %d, %d): %q", names, i, j, got)
				}
				seen[got]++
			}
		}
	}
	if len(seen) != 9 {
		t.Error(seen)
	}
	// Till it is cut, another one stands under its name, or it is removed.
	all(t, f, s, event{kind: "truncate", name: "a", at: 2})
	if got := whole(t, crashed(t, f, 0, 0, 9), "a"); got != "sa" {
		t.Errorf("%q", got)
	}
	all(t, f, s, event{kind: "rename", name: "b", to: "a"})
	if got := whole(t, crashed(t, f, 3), "a"); got != "" {
		t.Errorf("%q", got)
	}
	all(t, f, s, event{kind: "remove", name: "a"})
	if g := crashed(t, f, 4); len(g.List()) != 0 {
		t.Error(g.List())
	}
	crashes(t, f, s, nil, []int{1}, []int{2}, []int{3}, []int{4})
}

// keepAll is the picks of a crash that keeps all.
func keepAll(s *slow) []int {
	picks := []int{len(s.states) - 1}
	for _, inode := range slices.Sorted(maps.Values(s.now())) {
		picks = append(picks, len(s.files[inode].units))
	}
	return picks
}

// chosen is an event by chance.
func chosen(chance *rand.Rand, off bool) event {
	names := []string{"a", "b", "c", "d", "a", "b", "A", ""}
	kinds := strings.Fields("create create append append append append append truncate truncate truncate sync sync syncdir rename rename remove read read size flip flip flip flip fuse quota crash")
	e := event{kind: kinds[chance.Intn(len(kinds))], name: names[chance.Intn(len(names))], to: names[chance.Intn(len(names))], at: chance.Intn(9) - 1, n: chance.Intn(6) - 1}
	// The power is off for a while only, and picks below 0 are rare, or hardly anything would be done.
	if off && chance.Intn(2) == 0 {
		e.kind = "crash"
	}
	for range chance.Intn(9) {
		e.b = append(e.b, byte(chance.Intn(256)))
		e.picks = append(e.picks, chance.Intn(60)-1)
	}
	switch e.kind {
	case "quota":
		e.at *= 10
	case "fuse":
		e.at = chance.Intn(100) - 9
	}
	return e
}

// P7.2 to P7.7: calls by chance, those that may not be among them, against the chapter's words.
func TestByChance(t *testing.T) {
	chance := rand.New(rand.NewSource(7))
	done, wrong := map[string]int{}, map[string]int{}
	var f *FS
	var s *slow
	for i := range 60000 {
		if i%200 == 0 {
			f, s = made(t, chance.Intn(100))
		}
		e := chosen(chance, s.off)
		b, ahead := bytes.Clone(e.b), s.copy()
		told := both(t, f, s, e)
		if !bytes.Equal(b, e.b) {
			t.Fatal("what was handed in is another")
		}
		clear(e.b)
		same(t, f, s)
		switch {
		case told == api.OK:
			done[e.kind]++
		case told == api.ErrOff:
			wrong["off"]++
		default:
			wrong[e.kind]++
		}
		if told != api.OK && isStep[e.kind] > 0 {
			unchanged(t, f, s, ahead)
		}
		if i%5 == 0 {
			crashes(t, f, s, nil, []int{3, 1, 2, 3}, []int{chance.Intn(40), chance.Intn(40), chance.Intn(40), chance.Intn(40)})
		}
		if !s.off {
			alike(t, crashed(t, f, keepAll(s)...), f)
		}
	}
	for _, e := range []string{"create", "append", "truncate", "sync", "syncdir", "rename", "remove", "read", "size", "flip", "fuse", "quota", "crash"} {
		if done[e] < 200 || e != "syncdir" && e != "fuse" && wrong[e] < 20 {
			t.Errorf("too few of %s: %d done, %d refused", e, done[e], wrong[e])
		}
	}
	if wrong["off"] < 200 {
		t.Error("too few without power:", wrong["off"])
	}
}

// alike fails, unless two file systems, both with power, have the same names and bytes.
func alike(t *testing.T, f, g *FS) {
	t.Helper()
	if !slices.Equal(f.List(), g.List()) || f.Used() != g.Used() || f.Steps() != g.Steps() {
		t.Fatalf("%q, %d, %d, and %q, %d, %d", f.List(), f.Used(), f.Steps(), g.List(), g.Used(), g.Steps())
	}
	for _, name := range g.List() {
		if whole(t, f, name) != whole(t, g, name) {
			t.Fatalf("%s: %q, and %q", name, whole(t, f, name), whole(t, g, name))
		}
	}
}

// unchanged fails, unless s is as ahead, but for the count of steps, the fuse and the power; and f is too, as each crash tells.
func unchanged(t *testing.T, f *FS, s, ahead *slow) {
	t.Helper()
	ahead = ahead.copy()
	ahead.steps, ahead.fuse, ahead.off = s.steps, s.fuse, s.off
	crashes(t, f, ahead, nil, []int{1, 2, 3, 4}, keepAll(ahead))
}

// P7.6: behind a crash that keeps all all is as ahead of it; behind a second one that keeps nothing as behind the first.
func TestKeepsAll(t *testing.T) {
	f, s := mixed(t)
	all(t, f, s, event{kind: "crash", picks: keepAll(s)})
	g, _ := mixed(t)
	alike(t, f, g)
	for _, picks := range [][]int{nil, {0}, {1, 1, 1}, {5, 9, 9, 9}} {
		all(t, f, s, event{kind: "crash", picks: picks})
		same(t, f, s)
	}
}

// P7.4, P7.5: a row of steps by each fuse, and by some crashes behind it: what was done is the row's beginning.
func TestEachFuse(t *testing.T) {
	row := []event{
		{kind: "create", name: "a"}, {kind: "append", name: "a", b: []byte("abc")}, {kind: "sync", name: "a"}, {kind: "syncdir"},
		{kind: "create", name: "a.new"}, {kind: "append", name: "a.new", b: []byte("uvwxyz")}, {kind: "sync", name: "a.new"},
		{kind: "append", name: "a", b: []byte("d")}, {kind: "rename", name: "a.new", to: "a"}, {kind: "syncdir"}, {kind: "truncate", name: "a", at: 2}, {kind: "remove", name: "a"}, {kind: "syncdir"},
	}
	for n := range len(row) + 1 {
		f, s := made(t, 100)
		all(t, f, s, event{kind: "fuse", at: n})
		all(t, f, s, row[:n]...)
		for _, e := range row[n:] {
			refused(t, api.ErrOff, both(t, f, s, e))
		}
		same(t, f, s)
		if got := crashed(t, f).Steps(); n < len(row) && (got != n+1 || f.On()) {
			t.Error(n, got, f.On())
		}
		for names := range 4 {
			for units := range 7 {
				crashes(t, f, s, []int{names, units, units}, []int{names, 0, units})
				g := crashed(t, f, names, units, units)
				if n >= 4 && n <= 10 && !strings.Contains(" abc abcd uvwxyz ", " "+whole(t, g, "a")+" ") {
					t.Errorf("fuse %d, crash %d, %d: %q", n, names, units, whole(t, g, "a"))
				}
			}
		}
	}
}

// P7.1: a copy has the same, quota, fuse, power and steps too, and lives apart.
func TestCopy(t *testing.T) {
	calls := [][]event{
		{{kind: "append", name: "cut", b: []byte("more")}, {kind: "sync", name: "cut"}},
		{{kind: "truncate", name: "moved", at: 1}, {kind: "append", name: "moved", b: []byte("zz")}},
		{{kind: "sync", name: "moved"}, {kind: "flip", name: "moved", at: 0, n: 255}},
		{{kind: "remove", name: "cut"}, {kind: "syncdir"}, {kind: "create", name: "cut"}},
		{{kind: "rename", name: "moved", to: "cut"}, {kind: "create", name: "x"}, {kind: "append", name: "x", b: []byte("x")}},
		{{kind: "crash", picks: []int{1, 2, 3, 4}}, {kind: "flip", name: "cut", at: 1, n: 3}},
		{{kind: "quota", at: 40}, {kind: "append", name: "cut", b: make([]byte, 8)}},
		{{kind: "fuse", at: 1}, {kind: "create", name: "y"}},
	}
	for _, first := range calls {
		for _, second := range calls {
			f, s := mixed(t)
			g, r := f.Copy(), s.copy()
			same(t, g, r)
			all(t, f, s, first...)
			same(t, g, r)
			all(t, g, r, second...)
			same(t, f, s)
			crashes(t, f, s, nil, []int{3, 2, 1, 5, 1})
			crashes(t, g, r, nil, []int{3, 2, 1, 5, 1})
		}
	}
	f, s := made(t, 5)
	all(t, f, s, event{kind: "fuse", at: 4}, event{kind: "create", name: "a"}, event{kind: "append", name: "a", b: []byte("12345")})
	g, r := f.Copy(), s.copy()
	// The fuse of each burns apart.
	refused(t, api.ErrSpace, both(t, f, s, event{kind: "append", name: "a", b: []byte("6")}), both(t, g, r, event{kind: "append", name: "a", b: []byte("6")}))
	all(t, f, s, event{kind: "syncdir"})
	refused(t, api.ErrOff, both(t, f, s, event{kind: "syncdir"}))
	if n := crashed(t, f).Steps(); !g.On() || g.Steps() != 3 || n != 5 {
		t.Error(g.On(), g.Steps(), n)
	}
	all(t, g, r, event{kind: "syncdir"}, event{kind: "fuse", at: 50})
	same(t, f, s)
	same(t, g, r)
	h := f.Copy()
	tells(t, h, nil, 0, 0, false)
	refused(t, api.ErrOff, h.Fuse(1), h.Create("b"))
	fine(t, h.Crash(nil))
	tells(t, h, []string{"a"}, 0, 5, true)
	same(t, f, s)
}

// What is told is new memory, and what is handed in is not kept.
func TestNewMemory(t *testing.T) {
	f, s := mixed(t)
	b := []byte("handed in")
	all(t, f, s, event{kind: "append", name: "cut", b: b})
	clear(b)
	for range 2 {
		got, e := f.ReadAt("cut", 1, 10)
		fine(t, e)
		clear(got[:cap(got)])
		clear(f.List())
		_ = append(f.List()[:1], "x", "y")
		same(t, f, s)
		crashes(t, f, s, nil, []int{5, 0, 100, 3}, keepAll(s))
		all(t, f, s, event{kind: "sync", name: "cut"}, event{kind: "syncdir"})
	}
}

// P7.2: very many steps, with as many files as may be.
func TestGreat(t *testing.T) {
	f, e := New(api.MaxBytes)
	fine(t, e)
	for i := range 256 {
		fine(t, f.Create(fmt.Sprint("f", i)))
	}
	const many = 200000
	for i := range many {
		fine(t, f.Append(fmt.Sprint("f", i%256), []byte{byte(i), byte(i >> 8)}))
	}
	if f.Used() != 2*many || f.Steps() != 256+many {
		t.Error(f.Used(), f.Steps())
	}
	for i := range many {
		fine(t, f.Remove("f7"), f.Create("f7"))
		if i%10 == 0 {
			fine(t, f.SyncDir())
		}
	}
	if len(f.files) > 300 || len(f.List()) != 256 {
		t.Error("files are kept:", len(f.files))
	}
}
