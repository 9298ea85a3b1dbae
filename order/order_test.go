package order

import (
	"bytes"
	"fmt"
	"maps"
	"math/rand"
	"slices"
	"strings"
	"testing"

	"hourbook/api"
)

// longest is the greatest key of all.
var longest = strings.Repeat("\xff", api.MaxKey)

// tooLong is one byte longer than a key may be.
var tooLong = strings.Repeat("a", api.MaxKey+1)

// row is these keys, each in memory of its own.
func row(keys ...string) [][]byte {
	var out [][]byte
	for _, k := range keys {
		out = append(out, []byte(k))
	}
	return out
}

// texts is the keys of a row, as texts.
func texts(row [][]byte) []string {
	var out []string
	for _, k := range row {
		out = append(out, string(k))
	}
	return out
}

// noRows are rows of keys of which none is a row.
func noRows() [][]string {
	return [][]string{
		{""}, {tooLong}, {"a", "a"}, {"b", "a"}, {"a", ""}, {"", "a"}, {"a", tooLong}, {tooLong, "b"},
		{"a", "b", "b"}, {"a", "c", "b"}, {"b", "a", "c"}, {"a", "a", "b"}, {"a", "c", "b", "d"}, {"a", "b", "c", "a"},
		{"a\x00", "a"}, {"aa", "a"}, {"\x80", "\x7f"}, {"\xff", "\x00"}, {longest, longest[1:]}, {longest, longest},
	}
}

func searches(t *testing.T, keys []string, k string, want int, there bool) {
	t.Helper()
	if at, is := Search(row(keys...), []byte(k)); at != want || is != there {
		t.Fatalf("Search %q %q = %d, %v, want %d, %v", keys, k, at, is, want, there)
	}
}

// nexts asks that the key of the row above k is want; that there is none, if want is "".
func nexts(t *testing.T, keys []string, k, want string) {
	t.Helper()
	if next, is := Next(row(keys...), []byte(k)); string(next) != want || is != (want != "") || !is && next != nil {
		t.Fatalf("Next %q %q = %q, %v, want %q", keys, k, next, is, want)
	}
}

func adds(t *testing.T, keys []string, k string, want []string, e api.Errno) {
	t.Helper()
	got, wrong := Add(row(keys...), []byte(k))
	if wrong != e || !slices.Equal(texts(got), want) {
		t.Fatalf("Add %q %q = %q, %d, want %q, %d", keys, k, got, wrong, want, e)
	}
}

func drops(t *testing.T, keys []string, k string, want []string, e api.Errno) {
	t.Helper()
	got, wrong := Drop(row(keys...), []byte(k))
	if wrong != e || !slices.Equal(texts(got), want) {
		t.Fatalf("Drop %q %q = %q, %d, want %q, %d", keys, k, got, wrong, want, e)
	}
}

// of is the walk through these rows.
func of(t *testing.T, rows ...[]string) *Walk {
	t.Helper()
	var in [][][]byte
	for _, keys := range rows {
		in = append(in, row(keys...))
	}
	w, e := Of(in...)
	if w == nil || e != api.OK {
		t.Fatalf("Of %q = %v, %d", rows, w, e)
	}
	return w
}

// tells asks that w tells k next, with these rows.
func tells(t *testing.T, w *Walk, k string, in ...int) {
	t.Helper()
	got, rows, is := w.Next()
	if string(got) != k || !slices.Equal(rows, in) || !is {
		t.Fatalf("Next = %q, %v, %v, want %q, %v", got, rows, is, k, in)
	}
}

// over asks that w tells nothing any more, how often ever it is asked.
func over(t *testing.T, w *Walk) {
	t.Helper()
	for range 3 {
		if k, in, is := w.Next(); k != nil || in != nil || is {
			t.Fatalf("Next = %q, %v, %v, want nothing", k, in, is)
		}
		if w.Left() != 0 {
			t.Fatalf("Left = %d, want 0", w.Left())
		}
	}
}

func seeks(t *testing.T, w *Walk, k string, want api.Errno) {
	t.Helper()
	if e := w.Seek([]byte(k)); e != want {
		t.Fatalf("Seek %q = %d, want %d", k, e, want)
	}
}

// stood is what a walk through these rows has to tell from k on, as the Words say it: all keys that are not below k, and by looking at all keys of all rows in which they stand.
func stood(rows [][]string, k string) ([]string, map[string][]int) {
	in := map[string][]int{}
	for n, keys := range rows {
		for _, other := range keys {
			if other >= k {
				in[other] = append(in[other], n)
			}
		}
	}
	return slices.Sorted(maps.Keys(in)), in
}

// goes asks that w tells all that stood tells, counts it down, and is over behind it.
func goes(t *testing.T, w *Walk, rows [][]string, from string) {
	t.Helper()
	keys, in := stood(rows, from)
	for i, k := range keys {
		if left := w.Left(); left != len(keys)-i {
			t.Fatalf("Left = %d ahead of %q of %q", left, k, keys)
		}
		tells(t, w, k, in[k]...)
	}
	over(t, w)
}

// P16.1: keys that may be, each above the one ahead, are a row; so is none.
func TestMay(t *testing.T) {
	for _, keys := range [][]string{
		{}, {"a"}, {"a", "b"}, {"a", "b", "c"}, {"\x00"}, {"\x00", "\x00\x00"}, {"a", "a\x00"}, {"a", "aa", "b"}, {"\x7f", "\x80"}, {"\x00", "\xff"},
		{longest}, {longest[1:], longest}, {"a", longest}, {strings.Repeat("a", api.MaxKey), "b"}, {"B", "a"},
	} {
		if !May(row(keys...)) {
			t.Errorf("%q", keys)
		}
	}
	if !May(nil) || !May([][]byte{}) {
		t.Error("none")
	}
	for _, keys := range noRows() {
		if May(row(keys...)) {
			t.Errorf("%q", keys)
		}
	}
	if May([][]byte{nil}) || May([][]byte{{1}, nil}) {
		t.Error("nil is no key")
	}
}

// P16.1: one wrong key at each place of a longer row makes it none.
func TestMayAtEachPlace(t *testing.T) {
	for many := 1; many <= 9; many++ {
		keys := make([]string, many)
		for i := range keys {
			keys[i] = string([]byte{byte(10 * (i + 1))})
		}
		if !May(row(keys...)) {
			t.Errorf("%q", keys)
		}
		for i := range keys {
			for _, wrong := range []string{"", tooLong} {
				other := slices.Clone(keys)
				other[i] = wrong
				if May(row(other...)) {
					t.Errorf("%q", other)
				}
			}
			if i > 0 {
				other := slices.Clone(keys)
				other[i] = keys[i-1]
				if May(row(other...)) {
					t.Errorf("%q", other)
				}
				other[i], other[i-1] = keys[i-1], keys[i]
				if May(row(other...)) {
					t.Errorf("%q", other)
				}
			}
		}
	}
}

// P16.1: the chapter's example, each side of each key, and bytes that are no key.
func TestSearch(t *testing.T) {
	searches(t, []string{"a", "c"}, "b", 1, false)
	keys := []string{"\x00", "a", "a\x00", "b", "bb", "\x7f", "\x80", longest}
	for i, k := range keys {
		searches(t, keys, k, i, true)
	}
	for _, c := range []struct {
		k    string
		want int
	}{
		{"", 0}, {"\x00\x00", 1}, {"A", 1}, {"`\xff", 1}, {"a\x00\x00", 3}, {"a\x01", 3}, {"az", 3}, {"b\x00", 4}, {"ba", 4}, {"bb\x00", 5}, {"c", 5}, {"~", 5},
		{"\x7f\x00", 6}, {"\x80\x00", 7}, {"\xff", 7}, {longest[1:], 7}, {longest + "\x00", 8}, {longest + longest, 8}, {tooLong, 3},
	} {
		searches(t, keys, c.k, c.want, false)
	}
	for _, k := range []string{"", "a", longest, tooLong} {
		searches(t, nil, k, 0, false)
	}
	searches(t, []string{"b"}, "a", 0, false)
	searches(t, []string{"b"}, "b", 0, true)
	searches(t, []string{"b"}, "c", 1, false)
}

// P16.1: the chapter's example, each side of each key, and bytes that are no key.
func TestNext(t *testing.T) {
	nexts(t, []string{"a", "c"}, "a", "c")
	keys := []string{"\x00", "a", "a\x00", "b", "bb", "\x7f", "\x80", longest}
	for _, c := range []struct{ k, want string }{
		{"", "\x00"}, {"\x00", "a"}, {"\x00\x00", "a"}, {"A", "a"}, {"a", "a\x00"}, {"a\x00", "b"}, {"a\x00\x00", "b"}, {"az", "b"}, {tooLong, "b"},
		{"b", "bb"}, {"b\x00", "bb"}, {"bb", "\x7f"}, {"bba", "\x7f"}, {"\x7f", "\x80"}, {"\x80", longest}, {"\xff", longest}, {longest[1:], longest},
		{longest, ""}, {longest + "\x00", ""}, {longest + longest, ""},
	} {
		nexts(t, keys, c.k, c.want)
	}
	for _, k := range []string{"", "a", longest} {
		nexts(t, nil, k, "")
	}
	nexts(t, []string{"b"}, "a", "b")
	nexts(t, []string{"b"}, "b", "")
	nexts(t, []string{"b"}, "c", "")
}

// P16.1: of what is no row Search tells 0 and Next nothing, whatever is asked, also of what stands in it.
func TestSearchOfNoRow(t *testing.T) {
	for _, keys := range noRows() {
		for _, k := range append(slices.Clone(keys), "", "\x00", "a", "b", "z", longest, tooLong) {
			searches(t, keys, k, 0, false)
			nexts(t, keys, k, "")
		}
	}
}

// P16.1, P16.6: Search and Next as they are told by looking at all, for every number of keys up to 40, of all bytes.
func TestSearchAmongMany(t *testing.T) {
	for many := range 41 {
		keys := make([]string, many)
		for i := range keys {
			keys[i] = string([]byte{byte(5*i + 20)})
		}
		for b := range 256 {
			k, below, next := string([]byte{byte(b)}), 0, ""
			for _, other := range keys {
				if other < k {
					below++
				}
				if other > k && next == "" {
					next = other
				}
			}
			searches(t, keys, k, below, slices.Contains(keys, k))
			nexts(t, keys, k, next)
		}
	}
}

// P16.2: a key comes at its place: ahead of all, between, behind all, and as the first one.
func TestAdd(t *testing.T) {
	for _, c := range []struct {
		keys []string
		k    string
		want []string
	}{
		{nil, "a", []string{"a"}},
		{nil, longest, []string{longest}},
		{[]string{"b"}, "a", []string{"a", "b"}},
		{[]string{"b"}, "c", []string{"b", "c"}},
		{[]string{"a", "c"}, "b", []string{"a", "b", "c"}},
		{[]string{"b", "d"}, "a", []string{"a", "b", "d"}},
		{[]string{"b", "d"}, "e", []string{"b", "d", "e"}},
		{[]string{"a", "b"}, "a\x00", []string{"a", "a\x00", "b"}},
		{[]string{"\x7f", longest}, "\x80", []string{"\x7f", "\x80", longest}},
		{[]string{longest[1:]}, longest, []string{longest[1:], longest}},
	} {
		adds(t, c.keys, c.k, c.want, api.OK)
	}
	for _, k := range []string{"a", "b", longest} {
		adds(t, []string{"a", "b", longest}, k, nil, api.ErrThere)
	}
}

// P16.2: a key goes from its place: the first, one between, the last, the only one.
func TestDrop(t *testing.T) {
	for _, c := range []struct {
		keys []string
		k    string
		want []string
	}{
		{[]string{"a"}, "a", nil},
		{[]string{longest}, longest, nil},
		{[]string{"a", "b"}, "a", []string{"b"}},
		{[]string{"a", "b"}, "b", []string{"a"}},
		{[]string{"a", "b", "c"}, "a", []string{"b", "c"}},
		{[]string{"a", "b", "c"}, "b", []string{"a", "c"}},
		{[]string{"a", "b", "c"}, "c", []string{"a", "b"}},
		{[]string{"a", "a\x00", "b"}, "a\x00", []string{"a", "b"}},
	} {
		drops(t, c.keys, c.k, c.want, api.OK)
	}
	for _, k := range []string{"\x00", "a\x00", "b", "d", longest} {
		drops(t, []string{"a", "c"}, k, nil, api.ErrNone)
		drops(t, nil, k, nil, api.ErrNone)
	}
}

// P16.2: what is no row, or no key, is ErrArg ahead of whether the key stands there.
func TestAddAndDropRefuse(t *testing.T) {
	for _, keys := range noRows() {
		for _, k := range append(slices.Clone(keys), "", "0", "a", "b", "z", tooLong) {
			adds(t, keys, k, nil, api.ErrArg)
			drops(t, keys, k, nil, api.ErrArg)
		}
	}
	for _, keys := range [][]string{nil, {"a"}, {"a", "b"}} {
		for _, k := range []string{"", tooLong, longest + "\xff"} {
			adds(t, keys, k, nil, api.ErrArg)
			drops(t, keys, k, nil, api.ErrArg)
		}
	}
}

// P16.3: the chapter's example.
func TestWalk(t *testing.T) {
	w := of(t, []string{"a", "c"}, []string{"b", "c"})
	tells(t, w, "a", 0)
	tells(t, w, "b", 1)
	tells(t, w, "c", 0, 1)
	over(t, w)
}

// P16.3, P16.5: rows that begin and end ahead of each other, that are the same, that are empty, one and none.
func TestWalkThroughRows(t *testing.T) {
	for _, rows := range [][][]string{
		{}, {{}}, {{}, {}, {}}, {{"a"}}, {{"a", "b", "c"}}, {{}, {"a", "b"}}, {{"a", "b"}, {}}, {{"a"}, {"a"}}, {{"a"}, {"b"}}, {{"b"}, {"a"}},
		{{"a", "b"}, {"c", "d"}}, {{"c", "d"}, {"a", "b"}}, {{"a", "d"}, {"b", "c"}}, {{"b", "c"}, {"a", "d"}}, {{"a", "c"}, {"b", "d"}},
		{{"a", "b"}, {"a", "b"}, {"a", "b"}}, {{"a", "b"}, {}, {"b"}, {}, {"a", "c"}}, {{"c"}, {"b"}, {"a"}}, {{"a"}, {"b"}, {"c"}, {"d"}, {"e"}},
		{{"e"}, {"d", "e"}, {"c", "d", "e"}, {"b", "c", "d", "e"}, {"a", "b", "c", "d", "e"}},
		{{"a", "a\x00", "b"}, {"a\x00", "a\x00\x00"}, {"\x7f", "\x80", longest}, {"\x80", longest[1:], longest}, {"\x00"}},
	} {
		goes(t, of(t, rows...), rows, "")
	}
}

// P16.3, P16.5: all ways in which four keys can stand in up to three rows.
func TestWalkThroughAllRowsOfFour(t *testing.T) {
	var some [][]string
	for bits := range 16 {
		var keys []string
		for i, k := range []string{"a", "b", "c", "d"} {
			if bits>>i&1 == 1 {
				keys = append(keys, k)
			}
		}
		some = append(some, keys)
	}
	for _, a := range some {
		goes(t, of(t, a), [][]string{a}, "")
		for _, b := range some {
			goes(t, of(t, a, b), [][]string{a, b}, "")
			for _, c := range some {
				goes(t, of(t, a, b, c), [][]string{a, b, c}, "")
			}
		}
	}
}

// P16.3: one that is no row is refused, wherever it stands among the others.
func TestOfRefuses(t *testing.T) {
	for _, keys := range noRows() {
		for many := range 5 {
			for at := range many + 1 {
				rows := [][][]byte{row("a"), nil, row("a", "b"), row("c")}[:many]
				rows = slices.Insert(slices.Clone(rows), at, row(keys...))
				if w, e := Of(rows...); w != nil || e != api.ErrArg {
					t.Errorf("%q: %v, %d", rows, w, e)
				}
			}
		}
	}
}

// P16.3: a walk through no rows is a walk: it is over, and Seek may be asked.
func TestWalkThroughNothing(t *testing.T) {
	for _, w := range []*Walk{of(t), of(t, nil), of(t, []string{}, nil)} {
		over(t, w)
		seeks(t, w, "a", api.OK)
		over(t, w)
		seeks(t, w, "", api.ErrArg)
		over(t, w)
	}
}

// P16.3, P16.4: of none, and of a walk that Of did not make, nothing is told; Seek tells ErrNil ahead of what is no key.
func TestNoWalk(t *testing.T) {
	refused, _ := Of(row(""))
	for _, w := range []*Walk{nil, new(Walk), {}, refused} {
		for _, k := range []string{"a", "", tooLong, longest} {
			over(t, w)
			seeks(t, w, k, api.ErrNil)
			over(t, w)
		}
	}
}

// P16.4: it goes on from each side of each key, ahead and back, from wherever it was.
func TestSeek(t *testing.T) {
	rows := [][]string{{"a", "b", "d"}, {}, {"b", "bb", "d", longest}, {"\x00", "bb"}}
	for _, from := range []string{"\x00", "\x00\x00", "A", "a", "a\x00", "b", "b\x00", "bb", "bbb", "c", "d", "e", "\xff", longest[1:], longest} {
		for steps := range 8 {
			w := of(t, rows...)
			for range steps {
				w.Next()
			}
			seeks(t, w, from, api.OK)
			goes(t, w, rows, from)
			seeks(t, w, "\x00", api.OK)
			goes(t, w, rows, "")
		}
	}
}

// P16.4: behind all keys nothing is to come; then it can go back.
func TestSeekBehindAll(t *testing.T) {
	rows := [][]string{{"a", "c"}, {"b"}}
	w := of(t, rows...)
	for _, k := range []string{"c\x00", "d", longest} {
		seeks(t, w, k, api.OK)
		over(t, w)
		seeks(t, w, "b", api.OK)
		goes(t, w, rows, "b")
	}
}

// P16.4: twice the same place, and a place that is the next one anyway, change nothing.
func TestSeekTwice(t *testing.T) {
	rows := [][]string{{"a", "c"}, {"b", "c"}}
	w := of(t, rows...)
	tells(t, w, "a", 0)
	seeks(t, w, "b", api.OK)
	seeks(t, w, "b", api.OK)
	tells(t, w, "b", 1)
	seeks(t, w, "b", api.OK)
	goes(t, w, rows, "b")
}

// P16.4: what is no key is refused, and the walk goes on where it was.
func TestSeekRefuses(t *testing.T) {
	rows := [][]string{{"a", "c"}, {"b", "c"}}
	for _, k := range []string{"", tooLong, longest + "\x00", "a" + longest} {
		w := of(t, rows...)
		seeks(t, w, k, api.ErrArg)
		tells(t, w, "a", 0)
		seeks(t, w, k, api.ErrArg)
		goes(t, w, rows, "b")
		seeks(t, w, k, api.ErrArg)
		over(t, w)
	}
}

// P16.3: walks through the same rows do not touch each other.
func TestTwoWalks(t *testing.T) {
	in := [][][]byte{row("a", "c"), row("b", "c")}
	rows := [][]string{{"a", "c"}, {"b", "c"}}
	v, _ := Of(in...)
	w, _ := Of(in...)
	tells(t, v, "a", 0)
	tells(t, v, "b", 1)
	goes(t, w, rows, "")
	seeks(t, w, "a", api.OK)
	goes(t, v, rows, "c")
	goes(t, w, rows, "")
}

// rub writes on all that was told, and behind it.
func rub(keys [][]byte) {
	for _, k := range keys {
		clear(k)
		_ = append(k, 'x')
	}
	clear(keys)
	_ = append(keys, []byte("x"))
}

// P16.1, P16.2, R3: what is handed in stays, and what is told is the caller's, to write on.
func TestRowsOwnMemory(t *testing.T) {
	keys := []string{"a", "c", "e"}
	// A row, and a key, with room behind them in which something stands.
	run := append(row(keys...), []byte("f"), []byte("g"))
	in, text := run[:3], []byte("cd-and-room")
	stays := func() {
		t.Helper()
		if !slices.Equal(texts(run), []string{"a", "c", "e", "f", "g"}) || string(text) != "cd-and-room" {
			t.Fatalf("%q, %q", run, text)
		}
	}
	for range 2 {
		l, e := Add(in, text[:2])
		stays()
		if e != api.OK || !slices.Equal(texts(l), []string{"a", "c", "cd", "e"}) {
			t.Fatalf("%q, %d", l, e)
		}
		rub(l)
		stays()
		l, e = Drop(in, text[:1])
		stays()
		if e != api.OK || !slices.Equal(texts(l), []string{"a", "e"}) {
			t.Fatalf("%q, %d", l, e)
		}
		rub(l)
		stays()
		next, _ := Next(in, text[:2])
		rub([][]byte{next})
		stays()
		Search(in, text[:2])
		May(in)
		stays()
	}
	// Keys of one row do not share memory, either, if the ones handed in did.
	both := []byte("ab")
	l, _ := Add([][]byte{both[:1], both[:2]}, both[1:])
	_ = append(l[0], 'x')
	clear(l[2])
	if !slices.Equal(texts(l), []string{"a", "ab", "\x00"}) || string(both) != "ab" {
		t.Errorf("%q, %q", l, both)
	}
}

// P16.3, R3: a walk keeps nothing of what was handed in, and what it told is the caller's.
func TestWalkOwnMemory(t *testing.T) {
	rows := [][]string{{"a", "c"}, {"b", "c"}, {"c"}}
	in := [][][]byte{row("a", "c"), row("b", "c"), row("c")}
	w, e := Of(in...)
	if e != api.OK {
		t.Fatal(e)
	}
	for i, l := range in {
		if !slices.Equal(texts(l), rows[i]) {
			t.Fatalf("%q", l)
		}
		rub(l)
	}
	clear(in)
	goes(t, w, rows, "")
	from := []byte("a-and-room")
	for range 2 {
		if e := w.Seek(from[:1]); e != api.OK || string(from) != "a-and-room" {
			t.Fatalf("%d, %q", e, from)
		}
		for range 3 {
			k, places, _ := w.Next()
			rub([][]byte{k})
			for i := range places {
				places[i] = 9
			}
			_ = append(places, 9)
		}
	}
	seeks(t, w, "a", api.OK)
	goes(t, w, rows, "")
	seeks(t, w, "b", api.OK)
	clear(from)
	goes(t, w, rows, "b")
}

// someKey is a key by chance, of few, that begin each other.
func someKey(chance *rand.Rand) string {
	k := make([]byte, 1+chance.Intn(3))
	for i := range k {
		k[i] = []byte{0, 'a', 0x7f, 0xff}[chance.Intn(4)]
	}
	return string(k)
}

// someRow is a row by chance, of no more than that many keys.
func someRow(chance *rand.Rand, many int) []string {
	keys := map[string]int{}
	for range chance.Intn(many + 1) {
		keys[someKey(chance)]++
	}
	return slices.Sorted(maps.Keys(keys))
}

// P16.1, P16.2, P16.6: thousands of keys come and go by chance, held against a map; Add and Drop undo each other, and Search of each key is its place.
func TestRowsByChance(t *testing.T) {
	chance := rand.New(rand.NewSource(16))
	var l [][]byte
	want := map[string]int{}
	for range 5000 {
		k := someKey(chance)
		more, e := Add(l, []byte(k))
		less, wrong := Drop(l, []byte(k))
		if want[k] == 0 {
			if e != api.OK || wrong != api.ErrNone || less != nil {
				t.Fatalf("%q: %d, %d, %q", k, e, wrong, less)
			}
			back, e := Drop(more, []byte(k))
			if e != api.OK || !slices.EqualFunc(back, l, bytes.Equal) {
				t.Fatalf("%q behind Add and Drop of %q: %q, %d", l, k, back, e)
			}
			l = more
			want[k] = 1
		} else {
			if e != api.ErrThere || wrong != api.OK || more != nil {
				t.Fatalf("%q: %d, %d, %q", k, e, wrong, more)
			}
			back, e := Add(less, []byte(k))
			if e != api.OK || !slices.EqualFunc(back, l, bytes.Equal) {
				t.Fatalf("%q behind Drop and Add of %q: %q, %d", l, k, back, e)
			}
			l = less
			delete(want, k)
		}
		keys := slices.Sorted(maps.Keys(want))
		if !slices.Equal(texts(l), keys) || !May(l) {
			t.Fatalf("%q, want %q", l, keys)
		}
		for i, k := range keys {
			if at, is := Search(l, []byte(k)); at != i || !is {
				t.Fatalf("Search %q in %q: %d, %v", k, keys, at, is)
			}
		}
	}
}

// P16.3 to P16.5: walks through rows by chance, that go and seek by chance, held against all keys as stood tells them.
func TestWalksByChance(t *testing.T) {
	chance := rand.New(rand.NewSource(61))
	for range 300 {
		rows := make([][]string, chance.Intn(12))
		for i := range rows {
			rows[i] = someRow(chance, 20)
		}
		w := of(t, rows...)
		keys, in := stood(rows, "")
		for range 100 {
			if w.Left() != len(keys) {
				t.Fatalf("Left = %d, want %d", w.Left(), len(keys))
			}
			if chance.Intn(4) == 0 {
				from := someKey(chance)
				seeks(t, w, from, api.OK)
				keys, in = stood(rows, from)
			} else if len(keys) == 0 {
				over(t, w)
			} else {
				tells(t, w, keys[0], in[keys[0]]...)
				keys = keys[1:]
			}
		}
		goes(t, w, rows, firstOf(keys))
	}
}

// firstOf is the first one of keys; what is above all keys, if there is none.
func firstOf(keys []string) string {
	if len(keys) == 0 {
		return longest + "\x00"
	}
	return keys[0]
}

// P16.5: many rows, of each number up to 40 and of some thousands, and long ones: each key once, rising, with all rows that have it.
func TestWalkThroughMany(t *testing.T) {
	for many := range 41 {
		rows := make([][]string, many)
		for i := range rows {
			for k := range 60 {
				if (i+1)*(k+3)%7 < 3 {
					rows[i] = append(rows[i], string([]byte{byte(2 * k), byte(i % 3)}))
				}
			}
		}
		goes(t, of(t, rows...), rows, "")
	}
	rows := make([][]string, 3000)
	for i := range rows {
		rows[i] = []string{fmt.Sprintf("%04d", i*1237%3000), "all", fmt.Sprintf("z%04d", i/2)}
	}
	goes(t, of(t, rows...), rows, "")
	rows = make([][]string, 3)
	for i := range 30000 {
		rows[i%3] = append(rows[i%3], fmt.Sprintf("%05d", i))
		if i%2 == 0 {
			rows[(i+1)%3] = append(rows[(i+1)%3], fmt.Sprintf("%05d", i))
		}
	}
	goes(t, of(t, rows...), rows, "")
}
