package probe

import (
	"bytes"
	"fmt"
	"maps"
	"math"
	"math/rand"
	"reflect"
	"slices"
	"testing"

	"hourbook/api"
	"hourbook/key"
)

// homeOf is the home of k among so many slots, as the Words tell it.
func homeOf(seed uint64, k string, slots int) int {
	return int(key.Hash(seed, []byte(k)) % uint64(slots))
}

// farOf is how far the slot at is behind the home of k, going round.
func farOf(seed uint64, k string, at, slots int) int {
	return (at - homeOf(seed, k, slots) + slots) % slots
}

// isAhead is whether a is ahead of b in the slot at, as the Words tell it.
func isAhead(seed uint64, a, b string, at, slots int) bool {
	x, y := farOf(seed, a, at, slots), farOf(seed, b, at, slots)
	return x > y || x == y && a < b
}

// isLay is whether row is the lay: each of its keys ("" is an empty slot) passed by none but keys that are ahead of it.
func isLay(seed uint64, row []string) bool {
	for at, k := range row {
		if k == "" {
			continue
		}
		for s := homeOf(seed, k, len(row)); s != at; s = (s + 1) % len(row) {
			if row[s] == "" || !isAhead(seed, row[s], k, s, len(row)) {
				return false
			}
		}
	}
	return true
}

// sizeOf is how many slots so many keys have: the least power of two, of those from 8 on, of which at most three quarters are used.
func sizeOf(keys int) int {
	for p := 3; ; p++ {
		if size := 1 << p; float64(keys) <= 0.75*float64(size) {
			return size
		}
	}
}

// rowOf is whose slot each is.
func rowOf(slots []Slot) []string {
	row := make([]string, len(slots))
	for at, s := range slots {
		row[at] = string(s.Key)
	}
	return row
}

// filled is a table of that seed, with these keys set in this order, each with its length and first byte as its number.
func filled(t *testing.T, seed uint64, keys ...string) *Table {
	t.Helper()
	x := New(seed)
	for _, k := range keys {
		if e := x.Set([]byte(k), numberOf(k)); e != api.OK {
			t.Fatalf("Set %q = %d", k, e)
		}
	}
	return x
}

func numberOf(k string) uint64 { return uint64(len(k))<<8 + uint64(k[0]) }

// has asks that x has just these keys with these numbers, by every call that tells of it, and that they lie as the Words tell.
func has(t *testing.T, x *Table, seed uint64, want map[string]uint64) {
	t.Helper()
	var keys []string
	for _, k := range x.Keys() {
		keys = append(keys, string(k))
	}
	if x.Len() != len(want) || !slices.Equal(keys, slices.Sorted(maps.Keys(want))) {
		t.Fatalf("Len %d, Keys %q, want %q", x.Len(), keys, slices.Sorted(maps.Keys(want)))
	}
	slots := x.Slots()
	if len(slots) != sizeOf(len(want)) || !isLay(seed, rowOf(slots)) {
		t.Fatalf("%d slots, want %d: %v", len(slots), sizeOf(len(want)), slots)
	}
	used := 0
	for at, s := range slots {
		if !s.Used {
			if !reflect.DeepEqual(s, Slot{}) {
				t.Fatalf("an empty slot tells %v", s)
			}
			continue
		}
		used++
		n, there := want[string(s.Key)]
		if !there || s.N != n || s.Far != farOf(seed, string(s.Key), at, len(slots)) {
			t.Fatalf("slot %d tells %v, want number %d %v", at, s, n, there)
		}
	}
	if used != len(want) {
		t.Fatalf("%d slots are used, by %d keys", used, len(want))
	}
	for k, n := range want {
		gets(t, x, k, n, true)
	}
}

// gets asks what Get tells of k.
func gets(t *testing.T, x *Table, k string, n uint64, is bool) {
	t.Helper()
	if got, there := x.Get([]byte(k)); got != n || there != is {
		t.Fatalf("Get %q = %d, %v, want %d, %v", k, got, there, n, is)
	}
}

// atHome is so many keys of two bytes whose home is that one of 8 slots, by the seed 0, rising.
func atHome(home, many int) []string {
	var out []string
	for i := 0; len(out) < many; i++ {
		if k := string([]byte{byte(i >> 8), byte(i)}); homeOf(0, k, 8) == home {
			out = append(out, k)
		}
	}
	return out
}

// numbers is what filled lays for these keys.
func numbers(keys []string) map[string]uint64 {
	out := map[string]uint64{}
	for _, k := range keys {
		out[k] = numberOf(k)
	}
	return out
}

// one is a key of one byte.
func one(i int) string { return string([]byte{byte(i)}) }

// ones is that many keys of one byte.
func ones(many int) []string {
	var out []string
	for i := range many {
		out = append(out, one(i))
	}
	return out
}

// P14.1 to P14.3: the chapter's examples.
func TestExamples(t *testing.T) {
	x := filled(t, 0, ones(6)...)
	if len(x.Slots()) != 8 {
		t.Error(len(x.Slots()))
	}
	if e := x.Set([]byte(one(6)), 6); e != api.OK || len(x.Slots()) != 16 {
		t.Error(e, len(x.Slots()))
	}
	if e := x.Remove([]byte(one(6))); e != api.OK || len(x.Slots()) != 8 {
		t.Error(e, len(x.Slots()))
	}
	gets(t, x, one(6), 0, false)
}

// P14.1: a new table has no keys, whatever its seed, and 8 slots.
func TestNew(t *testing.T) {
	for _, seed := range []uint64{0, 1, 77, math.MaxUint64} {
		x := New(seed)
		if x == nil {
			t.Fatal(seed)
		}
		has(t, x, seed, nil)
		gets(t, x, "a", 0, false)
		if e := x.Remove([]byte("a")); e != api.ErrNone {
			t.Error(e)
		}
		has(t, filled(t, seed, "b", "a", "ab"), seed, numbers([]string{"a", "ab", "b"}))
	}
}

// P14.1 to P14.3: what is asked of no table, or of one that New did not make.
func TestNoTable(t *testing.T) {
	for _, x := range []*Table{nil, {}} {
		if x.Len() != 0 || len(x.Keys()) != 0 || len(x.Slots()) != 0 || x.Copy() != nil {
			t.Error(x.Len(), x.Keys(), x.Slots(), x.Copy())
		}
		gets(t, x, "a", 0, false)
		// ErrNil is told ahead of ErrArg and of ErrNone.
		for _, k := range [][]byte{nil, {}, []byte("a"), make([]byte, 65)} {
			if a, b := x.Set(k, 1), x.Remove(k); a != api.ErrNil || b != api.ErrNil {
				t.Error(k, a, b)
			}
		}
		if x.Len() != 0 {
			t.Error(x.Len())
		}
	}
}

// P14.2: what may not be as a key is refused, and changes nothing; the shortest and the longest key may be.
func TestKeysThatMayNotBe(t *testing.T) {
	short, long := "a", string(bytes.Repeat([]byte{0xff}, api.MaxKey))
	x := filled(t, 5, short, long, "\x00")
	want := numbers([]string{short, long, "\x00"})
	has(t, x, 5, want)
	for _, k := range []string{"", long + "\xff", string(make([]byte, 1000))} {
		if e := x.Set([]byte(k), 9); e != api.ErrArg {
			t.Errorf("Set of %d bytes = %d", len(k), e)
		}
		if e := x.Remove([]byte(k)); e != api.ErrArg {
			t.Errorf("Remove of %d bytes = %d", len(k), e)
		}
		gets(t, x, k, 0, false)
		has(t, x, 5, want)
	}
	if a, b := x.Set(nil, 9), x.Remove(nil); a != api.ErrArg || b != api.ErrArg {
		t.Error(a, b)
	}
	has(t, x, 5, want)
}

// P14.2: a key that is there gets the new number, and stays where it is; any number may be.
func TestSetAnew(t *testing.T) {
	keys := ones(6)
	x, want := filled(t, 3, keys...), numbers(keys)
	for i, n := range []uint64{0, 1, 1 << 63, math.MaxUint64} {
		row := rowOf(x.Slots())
		if e := x.Set([]byte(keys[i]), n); e != api.OK {
			t.Fatal(e)
		}
		want[keys[i]] = n
		has(t, x, 3, want)
		if !slices.Equal(rowOf(x.Slots()), row) {
			t.Error("the keys lie otherwise")
		}
	}
}

// P14.2: what is removed is there no more; a second time there is nothing to remove, and all stays.
func TestRemove(t *testing.T) {
	keys := ones(40)
	for _, seed := range []uint64{0, 9} {
		x, want := filled(t, seed, keys...), numbers(keys)
		for _, i := range rand.New(rand.NewSource(14)).Perm(len(keys)) {
			if e := x.Remove([]byte(keys[i])); e != api.OK {
				t.Fatal(e)
			}
			delete(want, keys[i])
			gets(t, x, keys[i], 0, false)
			has(t, x, seed, want)
			if e := x.Remove([]byte(keys[i])); e != api.ErrNone {
				t.Fatal(e)
			}
			has(t, x, seed, want)
		}
	}
}

// P14.1: Copy has the same, and what is done to one of both does not touch the other.
func TestCopy(t *testing.T) {
	keys := ones(6)
	x := filled(t, 4, keys...)
	y := x.Copy()
	if !reflect.DeepEqual(x.Slots(), y.Slots()) {
		t.Fatal(x.Slots(), y.Slots())
	}
	want, other := numbers(keys), numbers(keys)
	for i, k := range append(ones(9)[6:], keys[:5]...) {
		x.Set([]byte(k), uint64(1000+i))
		want[k] = uint64(1000 + i)
		has(t, x, 4, want)
		has(t, y, 4, other)
	}
	for i, k := range keys {
		if y.Remove([]byte(k)) != api.OK {
			t.Fatal(i)
		}
		delete(other, k)
		has(t, x, 4, want)
		has(t, y, 4, other)
	}
	y.Set([]byte("new"), 7)
	has(t, y, 4, map[string]uint64{"new": 7})
	has(t, x, 4, want)
	has(t, New(4).Copy(), 4, nil)
}

// P14.1, P14.3, R3: a key that is handed in is only read, and not kept; what is told is the caller's, to write on.
func TestOwnMemory(t *testing.T) {
	x := New(8)
	k := []byte("key")
	x.Set(k, 1)
	if string(k) != "key" {
		t.Errorf("%q", k)
	}
	copy(k, "abc")
	want := map[string]uint64{"key": 1}
	has(t, x, 8, want)
	gets(t, x, "abc", 0, false)
	for _, told := range x.Keys() {
		clear(told)
	}
	has(t, x, 8, want)
	y := x.Copy()
	slots := x.Slots()
	for i := range slots {
		clear(slots[i].Key)
		slots[i] = Slot{Used: true, Key: []byte("other"), N: 5}
	}
	has(t, x, 8, want)
	has(t, y, 8, want)
	// Nor is there room behind a key, into which an append would write on another's.
	x.Set([]byte("low"), 2)
	for _, told := range x.Keys() {
		_ = append(told, 'x')
	}
	has(t, x, 8, map[string]uint64{"key": 1, "low": 2})
}

// P14.1: Keys are told by their order: byte by byte, numbers from 0 to 255, the shorter first.
func TestKeysInOrder(t *testing.T) {
	rising := []string{"\x00", "\x00\x00", "\x01", "A", "a", "a\x00", "a\x00\x00", "aa", "b", "\x7f", "\x80", "\xff", "\xff\x00", "\xff\xff"}
	x := New(2)
	for _, i := range rand.New(rand.NewSource(1)).Perm(len(rising)) {
		x.Set([]byte(rising[i]), uint64(i))
	}
	var told []string
	for _, k := range x.Keys() {
		told = append(told, string(k))
	}
	if !slices.Equal(told, rising) {
		t.Errorf("%q", told)
	}
}

// P14.3: how many slots there are, at each edge on the way up and down.
func TestHowManySlots(t *testing.T) {
	edges := map[int]int{0: 8, 1: 8, 6: 8, 7: 16, 12: 16, 13: 32, 24: 32, 25: 64, 48: 64, 49: 128, 96: 128, 97: 256, 192: 256, 193: 512, 384: 512, 385: 1024}
	x := New(6)
	asked := func(i int) {
		if want, is := edges[i]; is && len(x.Slots()) != want {
			t.Errorf("%d keys: %d slots, want %d", i, len(x.Slots()), want)
		}
	}
	k := func(i int) []byte { return []byte(fmt.Sprint(i)) }
	for i := range 400 {
		asked(i)
		x.Set(k(i), 0)
		x.Set(k(i), 1)
	}
	for i := 399; i >= 0; i-- {
		x.Remove(k(i))
		x.Remove(k(i))
		asked(i)
	}
}

// P14.3: where keys meet at one home, the less one is nearer; they go round from the last slot to the first; who comes later from a home further back passes.
func TestLay(t *testing.T) {
	six, seven, zero := atHome(6, 3), atHome(7, 3), atHome(0, 3)
	cases := []struct {
		keys []string
		want [8]string
	}{
		{[]string{six[1]}, [8]string{6: six[1]}},
		{[]string{six[1], six[0]}, [8]string{6: six[0], 7: six[1]}},
		{[]string{six[2], six[1], six[0]}, [8]string{6: six[0], 7: six[1], 0: six[2]}},
		{[]string{seven[0], seven[1]}, [8]string{7: seven[0], 0: seven[1]}},
		{[]string{zero[0], seven[0], seven[1]}, [8]string{7: seven[0], 0: seven[1], 1: zero[0]}},
		{[]string{zero[0], zero[1], seven[1], seven[0], six[1], six[0]}, [8]string{6: six[0], 7: six[1], 0: seven[0], 1: seven[1], 2: zero[0], 3: zero[1]}},
		{[]string{zero[0], six[0], six[1], six[2]}, [8]string{6: six[0], 7: six[1], 0: six[2], 1: zero[0]}},
	}
	for i, c := range cases {
		for p := range perms(c.keys) {
			x := filled(t, 0, p...)
			if row := rowOf(x.Slots()); !slices.Equal(row, c.want[:]) {
				t.Fatalf("%d: %q, want %q", i, row, c.want)
			}
			has(t, x, 0, numbers(p))
		}
	}
	// Whom a key that goes was ahead of comes nearer, up to one who is at home.
	x := filled(t, 0, cases[5].keys...)
	x.Remove([]byte(six[1]))
	if row := rowOf(x.Slots()); !slices.Equal(row, []string{seven[1], zero[0], zero[1], "", "", "", six[0], seven[0]}) {
		t.Errorf("%q", row)
	}
	x.Remove([]byte(six[0]))
	if row := rowOf(x.Slots()); !slices.Equal(row, []string{seven[1], zero[0], zero[1], "", "", "", "", seven[0]}) {
		t.Errorf("%q", row)
	}
	x.Remove([]byte(seven[0]))
	if row := rowOf(x.Slots()); !slices.Equal(row, []string{zero[0], zero[1], "", "", "", "", "", seven[1]}) {
		t.Errorf("%q", row)
	}
}

// perms tells keys in each order they may have.
func perms(keys []string) func(yield func([]string) bool) {
	return func(yield func([]string) bool) {
		var walk func(done, left []string) bool
		walk = func(done, left []string) bool {
			if len(left) == 0 {
				return yield(slices.Clone(done))
			}
			for i := range left {
				rest := slices.Delete(slices.Clone(left), i, i+1)
				if !walk(append(done, left[i]), rest) {
					return false
				}
			}
			return true
		}
		walk(nil, keys)
	}
}

// P14.4: of all rows that have four keys in 8 slots just one is the lay, and that one is told, in whichever order they came.
func TestJustOneLay(t *testing.T) {
	chance := rand.New(rand.NewSource(4))
	for round := range 30 {
		seed := uint64(round)
		keys := ones(256)
		chance.Shuffle(len(keys), func(a, b int) { keys[a], keys[b] = keys[b], keys[a] })
		keys = keys[:4]
		var lays [][]string
		row := make([]string, 8)
		var walk func(i int)
		walk = func(i int) {
			if i == len(keys) {
				if isLay(seed, row) {
					lays = append(lays, slices.Clone(row))
				}
				return
			}
			for at := range row {
				if row[at] == "" {
					row[at] = keys[i]
					walk(i + 1)
					row[at] = ""
				}
			}
		}
		walk(0)
		if len(lays) != 1 {
			t.Fatalf("%d lays of %q", len(lays), keys)
		}
		for p := range perms(keys) {
			if got := rowOf(filled(t, seed, p...).Slots()); !slices.Equal(got, lays[0]) {
				t.Fatalf("%q, want %q", got, lays[0])
			}
		}
	}
}

// P14.4: tables that came to the same keys and numbers by other ways have the same slots.
func TestToldByWhatIsInIt(t *testing.T) {
	chance := rand.New(rand.NewSource(44))
	for round := range 40 {
		seed := chance.Uint64()
		want := map[string]uint64{}
		for range chance.Intn(60) {
			want[fmt.Sprint(chance.Intn(200))] = chance.Uint64()
		}
		straight := New(seed)
		for _, k := range slices.Sorted(maps.Keys(want)) {
			straight.Set([]byte(k), want[k])
		}
		astray := New(seed)
		for range 300 {
			k := []byte(fmt.Sprint(chance.Intn(300)))
			astray.Set(k, chance.Uint64())
			astray.Remove([]byte(fmt.Sprint(chance.Intn(300))))
		}
		for i, k := range chance.Perm(300) {
			if n, is := want[fmt.Sprint(k)]; is {
				astray.Set([]byte(fmt.Sprint(k)), n)
			} else {
				astray.Remove([]byte(fmt.Sprint(k)))
			}
			if i == 150 {
				astray = astray.Copy()
			}
		}
		has(t, straight, seed, want)
		if !reflect.DeepEqual(straight.Slots(), astray.Slots()) {
			t.Fatalf("round %d: %v, %v", round, straight.Slots(), astray.Slots())
		}
	}
}

// P14.5: from its home on, a key is come upon ahead of any empty slot and of any key that it is ahead of, and one that is not there meets such a slot; each in as many steps as the promise tells.
func TestFoundFromHome(t *testing.T) {
	for seed := range uint64(20) {
		x := filled(t, seed, ones(192)...)
		slots := x.Slots()
		greatest := 0
		for _, s := range slots {
			greatest = max(greatest, s.Far)
		}
		row := rowOf(slots)
		for i := range 256 {
			k, found, steps := one(i), false, 0
			for s := homeOf(seed, k, len(row)); ; s = (s + 1) % len(row) {
				steps++
				if found = row[s] == k; found || row[s] == "" || isAhead(seed, k, row[s], s, len(row)) {
					break
				}
			}
			if found != (i < 192) || found && steps > greatest+1 {
				t.Fatalf("seed %d: %q found %v in %d steps, the greatest distance %d", seed, k, found, steps, greatest)
			}
			if n, is := x.Get([]byte(k)); is != found || is && n != numberOf(k) {
				t.Fatalf("seed %d: Get %q = %d, %v", seed, k, n, is)
			}
		}
	}
}

// P14.5: the search goes no further than the promise tells: a key that is laid, by hand, behind where its lay can be is not come upon.
func TestGoesNoFurther(t *testing.T) {
	six, seven, zero := atHome(6, 3), atHome(7, 3), atHome(0, 3)
	cases := []struct {
		row  [8]string
		k    string
		want bool
	}{
		{[8]string{6: six[0], 7: six[1], 0: seven[0]}, seven[0], true},
		{[8]string{7: six[0]}, six[0], false},                                       // behind an empty home
		{[8]string{6: six[0], 0: six[1]}, six[1], false},                            // behind an empty slot
		{[8]string{6: six[1], 7: six[0]}, six[0], false},                            // behind a greater key of the same distance
		{[8]string{6: six[0], 7: seven[0], 0: six[1]}, six[1], false},               // behind one that is at home
		{[8]string{6: six[0], 7: six[1], 0: zero[0], 1: seven[0]}, seven[0], false}, // the same, on the other side of the last slot
	}
	for i, c := range cases {
		x := New(0)
		for at, k := range c.row {
			if k != "" {
				x.slots[at] = Slot{Used: true, Key: []byte(k), N: 5, Far: farOf(0, k, at, 8)}
				x.keys++
			}
		}
		if _, is := x.Get([]byte(c.k)); is != c.want {
			t.Errorf("%d: found %v", i, is)
		}
	}
}

// P14.6: what is set and removed leaves all slots as they were, with and without more slots meanwhile.
func TestNoTrace(t *testing.T) {
	for seed := range uint64(10) {
		for many := range 30 {
			keys := ones(many)
			x := filled(t, seed, keys...)
			before := x.Slots()
			for i := many; i < 256; i += 7 {
				if x.Set([]byte(one(i)), uint64(i)) != api.OK || x.Remove([]byte(one(i))) != api.OK {
					t.Fatal(i)
				}
				if !reflect.DeepEqual(x.Slots(), before) {
					t.Fatalf("%d keys, and %d set and removed: %v, want %v", many, i, x.Slots(), before)
				}
			}
			has(t, x, seed, numbers(keys))
		}
	}
}

// P14.1 to P14.6: thousands of calls by chance, held against a map and the Words.
func TestByChance(t *testing.T) {
	for seed := range int64(6) {
		chance := rand.New(rand.NewSource(seed))
		own := chance.Uint64()
		x, want := New(own), map[string]uint64{}
		// Few keys, so that most calls meet some; and by turns more of them are set and more removed.
		for turn := range 1500 {
			k := string(append(bytes.Repeat([]byte{'k'}, chance.Intn(2)*9), byte(chance.Intn(60))))
			_, there := want[k]
			if chance.Intn(10) < 3+turn/250%2*4 {
				told := x.Remove([]byte(k))
				if there != (told == api.OK) || !there && told != api.ErrNone {
					t.Fatal(there, told)
				}
				delete(want, k)
			} else {
				n := chance.Uint64()
				if e := x.Set([]byte(k), n); e != api.OK {
					t.Fatal(e)
				}
				want[k] = n
			}
			has(t, x, own, want)
		}
	}
}
