package keydir

import (
	"bytes"
	"fmt"
	"maps"
	"math"
	"math/rand"
	"slices"
	"strings"
	"testing"

	"hourbook/api"
)

// longest is the greatest key of all.
var longest = strings.Repeat("\xff", api.MaxKey)

// entry is one that may be: of that byte of segment 1, that number and kind.
func entry(off uint32, seq uint64, kind int) Entry {
	return Entry{Loc: api.Loc{Seg: 1, Off: off}, Seq: seq, Kind: kind}
}

// put is an entry that may be, by its number alone.
func put(seq uint64) Entry { return entry(16+uint32(seq%1000), seq, api.Put) }

// filled is a directory of that seed, with these keys set in this order, with the numbers 1, 2, ..
func filled(t *testing.T, seed uint64, keys ...string) *Dir {
	t.Helper()
	d := New(seed)
	for i, k := range keys {
		sets(t, d, k, put(uint64(i+1)), api.OK)
	}
	return d
}

// entries is what filled lays for these keys.
func entries(keys ...string) map[string]Entry {
	out := map[string]Entry{}
	for i, k := range keys {
		out[k] = put(uint64(i + 1))
	}
	return out
}

func sets(t *testing.T, d *Dir, k string, e Entry, want api.Errno) {
	t.Helper()
	if got := d.Set([]byte(k), e); got != want {
		t.Fatalf("Set %q %v = %d, want %d", k, e, got, want)
	}
}

func moves(t *testing.T, d *Dir, k string, to api.Loc, want api.Errno) {
	t.Helper()
	if got := d.Move([]byte(k), to); got != want {
		t.Fatalf("Move %q %v = %d, want %d", k, to, got, want)
	}
}

func drops(t *testing.T, d *Dir, k string, want api.Errno) {
	t.Helper()
	if got := d.Drop([]byte(k)); got != want {
		t.Fatalf("Drop %q = %d, want %d", k, got, want)
	}
}

func gets(t *testing.T, d *Dir, k string, want Entry, is bool) {
	t.Helper()
	if got, there := d.Get([]byte(k)); got != want || there != is {
		t.Fatalf("Get %q = %v, %v, want %v, %v", k, got, there, want, is)
	}
}

// nexts asks that the key behind after is want, with e; that there is none, if want is "".
func nexts(t *testing.T, d *Dir, after, want string, e Entry) {
	t.Helper()
	k, got, is := d.Next([]byte(after))
	if string(k) != want || got != e || is != (want != "") {
		t.Fatalf("Next %q = %q, %v, %v, want %q, %v", after, k, got, is, want, e)
	}
}

// has asks that d has just these keys with these entries, by every call that tells of it.
func has(t *testing.T, d *Dir, want map[string]Entry) {
	t.Helper()
	rising := slices.Sorted(maps.Keys(want))
	var keys []string
	for _, k := range d.Keys() {
		keys = append(keys, string(k))
	}
	if !slices.Equal(keys, rising) || d.Len() != len(want) {
		t.Fatalf("Keys %q, Len %d, want %q", keys, d.Len(), rising)
	}
	live, after := 0, ""
	for _, k := range rising {
		gets(t, d, k, want[k], true)
		nexts(t, d, after, k, want[k])
		after = k
		if want[k].Kind == api.Put {
			live++
		}
	}
	nexts(t, d, after, "", Entry{})
	if d.Live() != live {
		t.Fatalf("Live %d, want %d", d.Live(), live)
	}
}

// words is that many keys, in no order.
func words(many int) []string {
	var out []string
	for i := range many {
		out = append(out, fmt.Sprint(i*7919%many))
	}
	return out
}

// P15.1 to P15.3: the chapter's examples.
func TestExamples(t *testing.T) {
	d := New(0)
	b, a := entry(16, 5, api.Put), entry(90, 7, api.Delete)
	sets(t, d, "b", b, api.OK)
	sets(t, d, "a", a, api.OK)
	sets(t, d, "b", entry(200, 5, api.Put), api.ErrArg)
	if k := d.Keys(); len(k) != 2 || string(k[0]) != "a" || string(k[1]) != "b" || d.Live() != 1 {
		t.Errorf("%q, %d", k, d.Live())
	}
	nexts(t, d, "", "a", a)
	nexts(t, d, "a", "b", b)
	nexts(t, d, "b", "", Entry{})
}

// P15.1: which entries may be: each of loc, number and kind at its edges, and all else as it may be.
func TestMay(t *testing.T) {
	ok := Entry{Loc: api.Loc{Seg: 3, Off: 99}, Seq: 7, Kind: api.Put}
	with := func(change func(e *Entry)) Entry {
		e := ok
		change(&e)
		return e
	}
	at := func(seg, off uint32) Entry { return with(func(e *Entry) { e.Loc = api.Loc{Seg: seg, Off: off} }) }
	number := func(seq uint64) Entry { return with(func(e *Entry) { e.Seq = seq }) }
	kind := func(kind int) Entry { return with(func(e *Entry) { e.Kind = kind }) }
	for _, e := range []Entry{
		ok, at(1, 16), at(1, api.MaxSegment), at(api.MaxId, 16), at(api.MaxId, api.MaxSegment),
		number(1), number(2), number(api.MaxSeq - 1), number(api.MaxSeq), kind(api.Delete),
	} {
		if !May(e) {
			t.Errorf("%v may be", e)
		}
		d := New(1)
		sets(t, d, "k", e, api.OK)
		has(t, d, map[string]Entry{"k": e})
	}
	for _, e := range []Entry{
		{}, at(0, 0), at(0, 16), at(1, 0), at(1, 15), at(1, api.MaxSegment+1), at(1, math.MaxUint32), at(api.MaxId+1, 16), at(math.MaxUint32, 16),
		number(0), number(api.MaxSeq + 1), number(math.MaxUint64), number(1<<63 + 7),
		kind(0), kind(3), kind(-1), kind(math.MaxInt), kind(math.MinInt), kind(1<<32 + 1),
	} {
		if May(e) {
			t.Errorf("%v may not be", e)
		}
		d := filled(t, 1, "k")
		sets(t, d, "k", e, api.ErrArg)
		sets(t, d, "l", e, api.ErrArg)
		has(t, d, entries("k"))
	}
}

// P15.1: a new directory is empty, whatever its seed.
func TestNew(t *testing.T) {
	for _, seed := range []uint64{0, 1, 77, math.MaxUint64} {
		d := New(seed)
		has(t, d, nil)
		gets(t, d, "a", Entry{}, false)
		nexts(t, d, longest, "", Entry{})
		drops(t, d, "a", api.ErrNone)
		moves(t, d, "a", api.Loc{Seg: 1, Off: 16}, api.ErrNone)
		has(t, d, nil)
	}
}

// P15.1 to P15.3: what is asked of no directory, or of one that New did not make.
func TestNoDir(t *testing.T) {
	for _, d := range []*Dir{nil, {}} {
		if d.Copy() != nil || d.Keys() != nil {
			t.Error(d.Copy(), d.Keys())
		}
		has(t, d, nil)
		// ErrNil is told ahead of ErrKey, ErrArg and ErrNone.
		for _, k := range []string{"", "a", longest, longest + "x"} {
			for _, e := range []Entry{{}, put(1)} {
				sets(t, d, k, e, api.ErrNil)
				moves(t, d, k, e.Loc, api.ErrNil)
			}
			drops(t, d, k, api.ErrNil)
			gets(t, d, k, Entry{}, false)
		}
		nexts(t, d, "a", "", Entry{})
		has(t, d, nil)
	}
}

// P15.2: what may not be as a key is refused ahead of all else, and changes nothing; the shortest and the longest may be.
func TestKeysThatMayNotBe(t *testing.T) {
	keys := []string{"a", longest, "\x00", longest[1:], "\xff"}
	d := filled(t, 5, keys...)
	has(t, d, entries(keys...))
	for _, k := range []string{"", longest + "\xff", longest + "\x00", strings.Repeat("a", 1000)} {
		for _, e := range []Entry{{}, put(9)} {
			sets(t, d, k, e, api.ErrKey)
			moves(t, d, k, e.Loc, api.ErrKey)
		}
		drops(t, d, k, api.ErrKey)
		gets(t, d, k, Entry{}, false)
		has(t, d, entries(keys...))
	}
	if a, b, c := d.Set(nil, put(9)), d.Move(nil, put(9).Loc), d.Drop(nil); a != api.ErrKey || b != api.ErrKey || c != api.ErrKey {
		t.Error(a, b, c)
	}
	has(t, d, entries(keys...))
}

// P15.2: a key's entry gives way to one of a higher number alone; a refused one changes nothing.
func TestSetAnew(t *testing.T) {
	d := filled(t, 3, "a", "b", "c")
	want := entries("a", "b", "c")
	for _, step := range []struct {
		e    Entry
		want api.Errno
	}{
		{entry(100, 2, api.Put), api.ErrArg},
		{entry(100, 1, api.Put), api.ErrArg},
		{put(2), api.ErrArg},
		{entry(100, 3, api.Put), api.OK},
		{entry(101, 3, api.Delete), api.ErrArg},
		{entry(101, 2, api.Put), api.ErrArg},
		{entry(102, 4, api.Delete), api.OK},
		{entry(102, 5, api.Delete), api.OK},
		{entry(16, 1<<33, api.Put), api.OK},
		{entry(16, 1<<33-1, api.Put), api.ErrArg},
		{Entry{Loc: api.Loc{Seg: 9, Off: 16}, Seq: api.MaxSeq, Kind: api.Delete}, api.OK},
		{entry(16, api.MaxSeq, api.Put), api.ErrArg},
		{entry(16, api.MaxSeq+1, api.Put), api.ErrArg},
		{entry(16, 0, api.Put), api.ErrArg},
	} {
		sets(t, d, "b", step.e, step.want)
		if step.want == api.OK {
			want["b"] = step.e
		}
		has(t, d, want)
	}
	// Numbers are held against the key's own entry alone.
	sets(t, d, "d", put(1), api.OK)
	want["d"] = put(1)
	has(t, d, want)
}

// P15.2: Move changes the loc alone, of that key alone: to any place at which a record can stand, another's, an earlier one and its own too.
func TestMove(t *testing.T) {
	d := filled(t, 3, "a", "b", "c")
	gone := entry(50, 8, api.Delete)
	sets(t, d, "b", gone, api.OK)
	want := entries("a", "b", "c")
	for _, k := range []string{"a", "b"} {
		e := map[string]Entry{"a": put(1), "b": gone}[k]
		for _, to := range []api.Loc{{Seg: 1, Off: 16}, {Seg: 1, Off: 17}, {Seg: 1, Off: 17}, {Seg: 1, Off: api.MaxSegment}, {Seg: api.MaxId, Off: 16}, {Seg: 2, Off: 300}, put(3).Loc} {
			moves(t, d, k, to, api.OK)
			e.Loc = to
			gets(t, d, k, e, true)
		}
		for _, to := range []api.Loc{{}, {Seg: 0, Off: 16}, {Seg: 1, Off: 0}, {Seg: 1, Off: 15}, {Seg: 1, Off: api.MaxSegment + 1}, {Seg: api.MaxId + 1, Off: 16}} {
			moves(t, d, k, to, api.ErrArg)
			moves(t, d, "none", to, api.ErrArg)
			gets(t, d, k, e, true)
		}
		want[k] = e
	}
	moves(t, d, "none", put(3).Loc, api.ErrNone)
	has(t, d, want)
	// The number stays: what was refused before is refused behind it.
	sets(t, d, "b", put(8), api.ErrArg)
	sets(t, d, "b", put(9), api.OK)
	want["b"] = put(9)
	has(t, d, want)
}

// P15.2: who is dropped is there no more, the others stay, in whichever order they go; a second time there is none.
func TestDrop(t *testing.T) {
	keys := words(40)
	for round := range 20 {
		seed := uint64(round)
		d, want := filled(t, seed, keys...), entries(keys...)
		for _, i := range rand.New(rand.NewSource(int64(round))).Perm(len(keys)) {
			drops(t, d, keys[i], api.OK)
			delete(want, keys[i])
			gets(t, d, keys[i], Entry{}, false)
			has(t, d, want)
			drops(t, d, keys[i], api.ErrNone)
			moves(t, d, keys[i], put(1).Loc, api.ErrNone)
			has(t, d, want)
		}
	}
}

// P15.2: the first one and the last one that was set can go, and so can one that is alone.
func TestDropAtTheEnds(t *testing.T) {
	for _, gone := range []string{"b", "c", "a"} {
		d, want := filled(t, 0, "b", "c", "a"), entries("b", "c", "a")
		drops(t, d, gone, api.OK)
		delete(want, gone)
		has(t, d, want)
		// All that is left can be told anew, moved and dropped.
		for k, e := range want {
			e.Seq += 10
			e.Kind = api.Delete
			sets(t, d, k, e, api.OK)
			e.Loc.Seg = 44
			moves(t, d, k, e.Loc, api.OK)
			want[k] = e
			has(t, d, want)
		}
		for _, k := range slices.Collect(maps.Keys(want)) {
			drops(t, d, k, api.OK)
			delete(want, k)
			has(t, d, want)
		}
	}
}

// P15.2: of who was dropped nothing is left: any number may come behind it.
func TestSetBehindDrop(t *testing.T) {
	d, want := filled(t, 0, "a", "b"), entries("a", "b")
	sets(t, d, "a", put(api.MaxSeq), api.OK)
	drops(t, d, "a", api.OK)
	e := entry(77, 1, api.Delete)
	sets(t, d, "a", e, api.OK)
	want["a"] = e
	has(t, d, want)
}

// P15.3: Next is asked with any bytes: of no key, longer than a key may be, and none.
func TestNext(t *testing.T) {
	keys := []string{"b", "a\x00", longest, "bb", "\x00", "a", "\x80", "\x7f"}
	d, want := filled(t, 0, keys...), entries(keys...)
	if k, e, is := d.Next(nil); string(k) != "\x00" || e != want["\x00"] || !is {
		t.Errorf("%q, %v, %v", k, e, is)
	}
	for _, c := range []struct{ after, next string }{
		{"", "\x00"}, {"\x00", "a"}, {"\x00\x00", "a"}, {"A", "a"}, {"`\xff", "a"}, {"a", "a\x00"}, {"a\x00", "b"}, {"a\x00\x00", "b"},
		{"a" + longest, "b"}, {"az", "b"}, {"b", "bb"}, {"b\x00", "bb"}, {"ba", "bb"}, {"bb", "\x7f"}, {"bba", "\x7f"}, {"~", "\x7f"},
		{"\x7f", "\x80"}, {"\x7f\xff", "\x80"}, {"\x80", longest}, {"\xff", longest}, {longest[1:], longest}, {longest[1:] + "\xfe\xff\xff", longest},
		{longest, ""}, {longest + "\x00", ""}, {longest + longest, ""}, {strings.Repeat("a", 1000), "b"},
	} {
		nexts(t, d, c.after, c.next, want[c.next])
	}
}

// P15.3: Next and Keys as they are told by looking at all, for every number of keys up to 70, of all bytes.
func TestNextAmongMany(t *testing.T) {
	for many := range 71 {
		d, want := New(uint64(many)), map[string]Entry{}
		for i := range many {
			k := string([]byte{byte(3*(i*29%many) + 20)})
			e := entry(16+uint32(i), uint64(i+1), 1+i%2)
			sets(t, d, k, e, api.OK)
			want[k] = e
		}
		has(t, d, want)
		rising := slices.Sorted(maps.Keys(want))
		for after := range 256 {
			from, next := string([]byte{byte(after)}), ""
			if i := slices.IndexFunc(rising, func(k string) bool { return k > from }); i >= 0 {
				next = rising[i]
			}
			nexts(t, d, from, next, want[next])
		}
	}
}

// P15.3: Live follows what the newest entries are; Move does not change it.
func TestLive(t *testing.T) {
	d := New(0)
	for i, step := range []struct {
		kind int
		key  string
		live int
	}{
		{api.Delete, "a", 0}, {api.Put, "b", 1}, {api.Put, "a", 2}, {api.Put, "a", 2}, {api.Delete, "b", 1}, {api.Delete, "b", 1}, {api.Delete, "a", 0}, {api.Put, "b", 1}, {api.Put, "c", 2},
	} {
		sets(t, d, step.key, entry(16, uint64(i+1), step.kind), api.OK)
		moves(t, d, step.key, api.Loc{Seg: 2, Off: 16}, api.OK)
		if d.Live() != step.live {
			t.Errorf("step %d: %d, want %d", i, d.Live(), step.live)
		}
	}
	for i, k := range []string{"a", "c", "b"} {
		drops(t, d, k, api.OK)
		if d.Live() != 2-i {
			t.Errorf("%d behind a drop of %q", d.Live(), k)
		}
	}
}

// P15.3: Copy has the same, and what is done to one of both does not touch the other.
func TestCopy(t *testing.T) {
	keys := words(7)
	d, want := filled(t, 4, keys...), entries(keys...)
	c, other := d.Copy(), maps.Clone(want)
	both := func() {
		t.Helper()
		has(t, d, want)
		has(t, c, other)
	}
	both()
	for i, k := range keys[:5] {
		e := entry(500, uint64(100+i), api.Delete)
		sets(t, d, k, e, api.OK)
		e.Loc.Off++
		moves(t, d, k, e.Loc, api.OK)
		want[k] = e
		both()
		moves(t, c, k, api.Loc{Seg: 7, Off: 70}, api.OK)
		e = other[k]
		e.Loc = api.Loc{Seg: 7, Off: 70}
		other[k] = e
		both()
	}
	for i, k := range keys {
		drops(t, c, k, api.OK)
		delete(other, k)
		both()
		n := fmt.Sprint("new", i)
		sets(t, d, n, put(1), api.OK)
		want[n] = put(1)
		both()
		sets(t, c, "c"+n, put(2), api.OK)
		other["c"+n] = put(2)
		both()
	}
	for k := range maps.Clone(want) {
		drops(t, d, k, api.OK)
		delete(want, k)
		both()
	}
	// A copy of a copy, and one of an empty directory, are directories, too.
	has(t, c.Copy(), other)
	e := New(4).Copy()
	has(t, e, nil)
	sets(t, e, "a", put(1), api.OK)
	has(t, e, entries("a"))
}

// R3: a key that is handed in is only read, and not kept; what is told is the caller's, to write on.
func TestOwnMemory(t *testing.T) {
	d := New(8)
	k := []byte("key")
	if e := d.Set(k, put(1)); e != api.OK || string(k) != "key" {
		t.Fatalf("%d, %q", e, k)
	}
	copy(k, "abc")
	want := entries("key")
	has(t, d, want)
	gets(t, d, "abc", Entry{}, false)
	sets(t, d, "low", put(2), api.OK)
	want = entries("key", "low")
	c := d.Copy()
	for range 2 {
		for _, k := range d.Keys() {
			clear(k)
			_ = append(k, 'x')
		}
		next, _, _ := d.Next([]byte("kez"))
		clear(next)
		_ = append(next, 'x')
		has(t, d, want)
		has(t, c, want)
	}
	// What is asked with stays as it is.
	run := []byte("key-and-room")
	asked := run[:3]
	d.Get(asked)
	d.Next(asked)
	d.Move(asked, api.Loc{Seg: 2, Off: 20})
	d.Set(asked, put(9))
	d.Drop(asked)
	if !bytes.Equal(run, []byte("key-and-room")) {
		t.Errorf("%q", run)
	}
	has(t, d, map[string]Entry{"low": put(2)})
	has(t, c, want)
}

// someKey is a key by chance, of few, that begin each other.
func someKey(chance *rand.Rand) string {
	k := make([]byte, 1+chance.Intn(4))
	for i := range k {
		k[i] = []byte{0, 'a', 0xff}[chance.Intn(3)]
	}
	return string(k)
}

// someEntry is an entry that may be, by chance, with a low number.
func someEntry(chance *rand.Rand) Entry {
	return Entry{Loc: api.Loc{Seg: 1 + uint32(chance.Intn(9)), Off: 16 + uint32(chance.Intn(999))}, Seq: 1 + uint64(chance.Intn(50)), Kind: 1 + chance.Intn(2)}
}

// P15.2, P15.4: by chance thousands of calls, each asked of a map as well: whatever is done with others, and whatever the seed is.
func TestByChance(t *testing.T) {
	for _, seed := range []uint64{0, 1, 1 << 63, math.MaxUint64, 0x9e3779b97f4a7c15} {
		chance := rand.New(rand.NewSource(15)) // the same calls for each seed
		d, want := New(seed), map[string]Entry{}
		for round := range 4000 {
			k, e := someKey(chance), someEntry(chance)
			old, there := want[k]
			// By turns more keys come than go, and more go than come.
			if act := chance.Intn(10); act < 2+4*(round/300%2) {
				is := api.ErrNone
				if there {
					is = api.OK
				}
				drops(t, d, k, is)
				delete(want, k)
			} else if act == 9 {
				is := api.ErrNone
				if there {
					is, old.Loc = api.OK, e.Loc
					want[k] = old
				}
				moves(t, d, k, e.Loc, is)
			} else {
				is := api.ErrArg
				if !there || old.Seq < e.Seq {
					is, want[k] = api.OK, e
				}
				sets(t, d, k, e, is)
			}
			if round%10 == 0 {
				has(t, d, want)
			}
			if round%500 == 0 {
				d = d.Copy()
			}
		}
		has(t, d, want)
	}
}

// P15.5: Next, from no bytes on, tells all keys, each once, rising, with their entries, though what was told is dropped, moved and set meanwhile.
func TestNextInOrder(t *testing.T) {
	keys := words(100)
	for _, seed := range []uint64{0, 42} {
		d, want := filled(t, seed, keys...), entries(keys...)
		var told []string
		var after []byte
		for {
			k, e, is := d.Next(after)
			if !is {
				break
			}
			if e != want[string(k)] {
				t.Fatalf("%q: %v, want %v", k, e, want[string(k)])
			}
			told = append(told, string(k))
			switch after = k; len(told) % 3 {
			case 0:
				drops(t, d, string(k), api.OK)
			case 1:
				moves(t, d, string(k), api.Loc{Seg: 5, Off: 50}, api.OK)
			case 2:
				sets(t, d, string(k), put(e.Seq+1), api.OK)
			}
		}
		if !slices.Equal(told, slices.Sorted(slices.Values(keys))) {
			t.Errorf("%q", told)
		}
		if d.Len() != 67 {
			t.Error(d.Len())
		}
	}
}

// P15.5: on the way a key that comes behind the last one told is told, one ahead of it is not; nor is one that goes behind it.
func TestNextWhileKeysComeAndGo(t *testing.T) {
	d := filled(t, 6, "b", "d", "f", "h")
	var told []string
	var after []byte
	for range 20 {
		k, _, is := d.Next(after)
		if !is {
			break
		}
		told = append(told, string(k))
		after = k
		switch string(k) {
		case "b":
			sets(t, d, "a", put(1), api.OK)
			sets(t, d, "b\x00", put(1), api.OK)
		case "d":
			drops(t, d, "d", api.OK)
			sets(t, d, "c", put(1), api.OK)
			sets(t, d, "e", put(1), api.OK)
			drops(t, d, "f", api.OK)
		case "h":
			sets(t, d, "g", put(1), api.OK)
			sets(t, d, "z", put(1), api.OK)
		}
	}
	if want := []string{"b", "b\x00", "d", "e", "h", "z"}; !slices.Equal(told, want) {
		t.Errorf("%q, want %q", told, want)
	}
	var keys []string
	for _, k := range d.Keys() {
		keys = append(keys, string(k))
	}
	if want := []string{"a", "b", "b\x00", "c", "e", "g", "h", "z"}; !slices.Equal(keys, want) {
		t.Errorf("%q, want %q", keys, want)
	}
}

// P15.2 to P15.4: many keys: each is found, and the row is whole when half of them are gone.
func TestMany(t *testing.T) {
	keys := words(3000)
	d, want := filled(t, 9, keys...), entries(keys...)
	has(t, d, want)
	for i, k := range keys {
		if i%2 == 0 {
			drops(t, d, k, api.OK)
			delete(want, k)
		}
	}
	has(t, d, want)
}
