package tests

import (
	"fmt"
	"maps"
	"math"
	"slices"
	"strconv"
	"strings"
	"testing"

	"loop.example/g00724/impl"
)

var rowKinds = []int{impl.KdFifo, impl.KdLru, impl.KdClock}

// noRowKinds: numbers that are those of no kind of row.
var noRowKinds = []int{0, 4, -1, -2, -3, 5, 255, 257, 1<<32 + 1, 1<<32 + 3, math.MaxInt, math.MaxInt - 1, math.MinInt, math.MinInt + 1, math.MinInt + 3}

// rowWith: the items by words as queueOf has them.
func rowWith(kind int, cap int, items string) impl.Row {
	return impl.Row{Kind: kind, Cap: cap, Items: queueOf(items)}
}

func sameRow(a impl.Row, b impl.Row) bool {
	return a.Kind == b.Kind && a.Cap == b.Cap && slices.Equal(a.Items, b.Items)
}

func cloneRow(r impl.Row) impl.Row {
	return impl.Row{Kind: r.Kind, Cap: r.Cap, Items: slices.Clone(r.Items)}
}

// The functions whose names begin with row and end with Said answer what chapter 12 says, by its words alone.

func rowOkSaid(r impl.Row) bool {
	greatest := map[int]int{1: 0, 2: 0, 3: 1}
	freq, ok := greatest[r.Kind]
	keys := map[string]bool{}
	for _, x := range r.Items {
		ok = ok && itemOkSaid(x) && x.Freq <= freq
		keys[x.Key] = true
	}
	return ok && between(r.Cap, 1, 60) && len(r.Items) <= r.Cap && len(keys) == len(r.Items)
}

func rowNewSaid(kind int, cap int) (impl.Row, bool) {
	if cap < 1 || cap > 60 || kind != 1 && kind != 2 && kind != 3 {
		return impl.Row{}, false
	}
	return impl.Row{Kind: kind, Cap: cap}, true
}

// rowAskedSaid: the row behind an asking for the key, its item with this Val.
func rowAskedSaid(r impl.Row, key string, val string) impl.Row {
	s := impl.Row{Kind: r.Kind, Cap: r.Cap}
	var last []impl.Item
	for _, x := range r.Items {
		switch {
		case x.Key != key:
			s.Items = append(s.Items, x)
		case r.Kind == 1:
			s.Items = append(s.Items, impl.Item{Key: key, Val: val})
		case r.Kind == 2:
			last = append(last, impl.Item{Key: key, Val: val})
		default:
			s.Items = append(s.Items, impl.Item{Key: key, Val: val, Freq: 1})
		}
	}
	s.Items = append(s.Items, last...)
	return s
}

func rowGetSaid(r impl.Row, key string) (impl.Row, string, bool) {
	if !rowOkSaid(r) {
		return impl.Row{}, "", false
	}
	for _, x := range r.Items {
		if x.Key == key {
			return rowAskedSaid(r, key, x.Val), x.Val, true
		}
	}
	return cloneRow(r), "", false
}

func rowPutSaid(r impl.Row, key string, val string) (impl.Row, []string, bool) {
	fresh := impl.Item{Key: key, Val: val}
	if !rowOkSaid(r) || !itemOkSaid(fresh) {
		return impl.Row{}, nil, false
	}
	if slices.Contains(keysIn(r.Items), key) {
		return rowAskedSaid(r, key, val), nil, true
	}
	s, gone := cloneRow(r), []string{}
	if len(s.Items) == s.Cap {
		// Those ahead of the first one with Freq 0 come to the end; where all have Freq 1 that leaves their order as it was. In a row that is no clock there are none.
		spared := 0
		for spared < s.Cap && s.Items[spared].Freq == 1 {
			s.Items[spared].Freq = 0
			spared++
		}
		s.Items = slices.Concat(s.Items[spared:], s.Items[:spared])
		gone = append(gone, s.Items[0].Key)
		s.Items = s.Items[1:]
	}
	s.Items = append(s.Items, fresh)
	return s, gone, true
}

// rowDeed: a call on a row, and what chapter 12 says of it; what it tells beside a row is told as texts, the bool as the last one.
type rowDeed struct {
	what string
	do   func(impl.Row) (impl.Row, []string)
	said func(impl.Row) (impl.Row, []string)
}

func rowGetDeed(key string) rowDeed {
	told := func(f func(impl.Row, string) (impl.Row, string, bool)) func(impl.Row) (impl.Row, []string) {
		return func(r impl.Row) (impl.Row, []string) {
			s, val, ok := f(r, key)
			return s, []string{val, strconv.FormatBool(ok)}
		}
	}
	return rowDeed{fmt.Sprintf("RowGet %q", key), told(impl.RowGet), told(rowGetSaid)}
}

func rowPutDeed(key string, val string) rowDeed {
	told := func(f func(impl.Row, string, string) (impl.Row, []string, bool)) func(impl.Row) (impl.Row, []string) {
		return func(r impl.Row) (impl.Row, []string) {
			s, gone, ok := f(r, key, val)
			return s, append(gone, strconv.FormatBool(ok))
		}
	}
	return rowDeed{fmt.Sprintf("RowPut %q %q", key, val), told(impl.RowPut), told(rowPutSaid)}
}

func rowDeeds(keys ...string) []rowDeed {
	var l []rowDeed
	for _, k := range keys {
		l = append(l, rowGetDeed(k), rowPutDeed(k, "new"))
	}
	return l
}

// rowAsSaid holds all functions of a row against what chapter 12 says.
func rowAsSaid(t *testing.T, r impl.Row, deeds []rowDeed) {
	t.Helper()
	before := cloneRow(r)
	right := rowOkSaid(r)
	if got := impl.RowOk(r); got != right {
		t.Fatalf("RowOk(%+v) is %v", r, got)
	}
	var keys []string
	if right {
		keys = keysIn(r.Items)
	}
	if got := impl.RowKeys(r); !slices.Equal(got, keys) {
		t.Fatalf("RowKeys(%+v) is %q", r, got)
	}
	for _, d := range deeds {
		got, told := d.do(r)
		want, said := d.said(r)
		if !sameRow(got, want) || !slices.Equal(told, said) {
			t.Fatalf("%s of %+v: %+v, %q; want %+v, %q", d.what, r, got, told, want, said)
		}
		if right && !impl.RowOk(got) && !sameRow(got, impl.Row{}) {
			t.Fatalf("%s of %+v: %+v, of which RowOk is false", d.what, r, got)
		}
	}
	if !sameRow(r, before) {
		t.Fatalf("%+v was changed from %+v", r, before)
	}
}

func TestLineConstants(t *testing.T) {
	if impl.KdFifo != 1 || impl.KdLru != 2 || impl.KdClock != 3 {
		t.Errorf("KdFifo %d, KdLru %d, KdClock %d", impl.KdFifo, impl.KdLru, impl.KdClock)
	}
}

func TestKindWord(t *testing.T) {
	for i, want := range []string{"", "fifo", "lru", "clock", ""} {
		if got := impl.KindWord(i); got != want {
			t.Errorf("KindWord(%d) is %q", i, got)
		}
	}
	for _, kind := range noRowKinds {
		if got := impl.KindWord(kind); got != "" {
			t.Errorf("KindWord(%d) is %q", kind, got)
		}
	}
	for kind := -300; kind <= 300; kind++ {
		if got := impl.KindWord(kind); (got != "") != slices.Contains(rowKinds, kind) {
			t.Errorf("KindWord(%d) is %q", kind, got)
		}
	}
}

func TestRowNew(t *testing.T) {
	caps := append(places(-2, 64), someInts...)
	for _, kind := range slices.Concat(rowKinds, noRowKinds) {
		for _, size := range append(caps, kind) {
			r, ok := impl.RowNew(kind, size)
			want, right := rowNewSaid(kind, size)
			if ok != right || !sameRow(r, want) || impl.RowOk(r) != right {
				t.Fatalf("RowNew(%d, %d) is %+v, %v", kind, size, r, ok)
			}
		}
	}
	for _, x := range [][2]int{{1, 1}, {1, 60}, {2, 1}, {2, 60}, {3, 1}, {3, 60}, {2, 7}} {
		r, ok := impl.RowNew(x[0], x[1])
		if !ok || r.Kind != x[0] || r.Cap != x[1] || len(r.Items) > 0 {
			t.Errorf("RowNew(%d, %d) is %+v, %v", x[0], x[1], r, ok)
		}
	}
	for _, x := range [][2]int{{0, 1}, {4, 1}, {1, 0}, {2, 0}, {3, 0}, {1, 61}, {2, 61}, {3, 61}, {-1, 5}, {3, -1}, {math.MinInt, 5}, {5, math.MaxInt}, {0, 0}} {
		if r, ok := impl.RowNew(x[0], x[1]); ok || !sameRow(r, impl.Row{}) {
			t.Errorf("RowNew(%d, %d) is %+v, %v", x[0], x[1], r, ok)
		}
	}
}

func TestRowOk(t *testing.T) {
	for _, kind := range rowKinds {
		for what, r := range map[string]impl.Row{
			"the least, empty":                    rowWith(kind, 1, ""),
			"the least, full":                     rowWith(kind, 1, "a0"),
			"the greatest, empty":                 rowWith(kind, 60, ""),
			"some items":                          rowWith(kind, 5, "a0 b0 c0"),
			"full":                                rowWith(kind, 3, "a0 b0 c0"),
			"a list without elements":             {Kind: kind, Cap: 2, Items: []impl.Item{}},
			"values alike":                        {Kind: kind, Cap: 2, Items: []impl.Item{{Key: "a", Val: "v"}, {Key: "b", Val: "v"}}},
			"a value that is another one's key":   {Kind: kind, Cap: 2, Items: []impl.Item{{Key: "a", Val: "b"}, {Key: "b", Val: "a"}}},
			"the longest texts":                   {Kind: kind, Cap: 2, Items: []impl.Item{{Key: strings.Repeat("k", 20), Val: strings.Repeat("v", 40)}}},
			"keys that differ by a letter's size": rowWith(kind, 3, "a0 A0 ä0"),
			"keys of one Hash":                    rowWith(kind, 3, "liquid0 costarring0"),
		} {
			if !impl.RowOk(r) || !rowOkSaid(r) {
				t.Errorf("%s: RowOk(%+v) is false", what, r)
			}
		}
	}
}

func TestRowOkOfKindsAndCaps(t *testing.T) {
	for _, kind := range slices.Concat(rowKinds, noRowKinds) {
		for _, size := range append(places(-2, 64), someInts...) {
			for _, items := range []string{"", "a0", "a0 b0 c0"} {
				r := rowWith(kind, size, items)
				if got := impl.RowOk(r); got != rowOkSaid(r) {
					t.Fatalf("RowOk(%+v) is %v", r, got)
				}
			}
		}
	}
	for _, kind := range rowKinds {
		for _, size := range []int{1, 2, 3, 30, 59, 60, 61, 5000} {
			for _, n := range []int{size - 1, size, size + 1, 2 * size, 5000} {
				r := impl.Row{Kind: kind, Cap: size, Items: someQueue("k", n)}
				for i := range r.Items {
					r.Items[i].Freq = 0
				}
				if got := impl.RowOk(r); got != (size <= 60 && n <= size) {
					t.Fatalf("kind %d, Cap %d, %d items: RowOk is %v", kind, size, n, got)
				}
			}
		}
	}
}

func TestRowOkOfFreqs(t *testing.T) {
	for _, x := range []struct {
		freq  int
		fifo  bool
		clock bool
	}{
		{-1, false, false},
		{0, true, true},
		{1, false, true},
		{2, false, false},
		{3, false, false},
		{4, false, false},
		{1 << 32, false, false},
		{1<<32 + 1, false, false},
		{math.MaxInt, false, false},
		{math.MinInt, false, false},
		{math.MinInt + 1, false, false},
	} {
		for at := range 4 {
			items := queueOf("a0 b0 c0 d0")
			items[at].Freq = x.freq
			for kind, want := range map[int]bool{impl.KdFifo: x.fifo, impl.KdLru: x.fifo, impl.KdClock: x.clock, 0: false, 4: false} {
				r := impl.Row{Kind: kind, Cap: 5, Items: items}
				if got := impl.RowOk(r); got != want || rowOkSaid(r) != want {
					t.Errorf("RowOk(%+v) is %v", r, got)
				}
			}
		}
	}
}

func TestRowOkOfShortLists(t *testing.T) {
	right := 0
	for _, items := range shortQueues(4) {
		for kind := range 5 {
			for size := range 6 {
				r := impl.Row{Kind: kind, Cap: size, Items: items}
				if got := impl.RowOk(r); got != rowOkSaid(r) {
					t.Fatalf("RowOk(%+v) is %v", r, got)
				}
				right += oneIf(rowOkSaid(r))
			}
		}
	}
	if right < 20 {
		t.Errorf("only %d are right", right)
	}
}

// wrongRows: rows that aren't right, each by one thing alone.
func wrongRows() map[string]impl.Row {
	l := map[string]impl.Row{"nothing": {}}
	for _, kind := range noRowKinds {
		l[fmt.Sprintf("the kind %d", kind)] = rowWith(kind, 5, "a0 b0")
		l[fmt.Sprintf("the kind %d, full", kind)] = rowWith(kind, 2, "a0 b0")
		l[fmt.Sprintf("the kind %d, empty", kind)] = rowWith(kind, 2, "")
	}
	for _, kind := range rowKinds {
		add := func(what string, r impl.Row) { l[what+", "+strconv.Itoa(kind)] = r }
		for _, size := range []int{0, -1, 61, 62, 1 << 32, 1<<32 + 5, math.MaxInt, math.MinInt, math.MinInt + 5} {
			add(fmt.Sprintf("a Cap of %d", size), rowWith(kind, size, "a0 b0"))
			add(fmt.Sprintf("a Cap of %d, empty", size), rowWith(kind, size, ""))
		}
		add("one item too many", rowWith(kind, 2, "a0 b0 c0"))
		add("one item too many for 1", rowWith(kind, 1, "a0 b0"))
		add("61 items", impl.Row{Kind: kind, Cap: 60, Items: lettered(0, make([]int, 61))})
		add("a key twice", rowWith(kind, 5, "a0 b0 a0"))
		add("a key twice, side by side", rowWith(kind, 5, "c0 b0 b0"))
		add("a key twice, other values", impl.Row{Kind: kind, Cap: 5, Items: []impl.Item{{Key: "a", Val: "x"}, {Key: "a", Val: "y"}}})
		add("a Freq of 2", rowWith(kind, 5, "a0 b2"))
		add("a Freq of 3", rowWith(kind, 5, "a3 b0"))
		if kind != impl.KdClock {
			add("a Freq of 1", rowWith(kind, 5, "a1 b0"))
			add("a Freq of 1, the last", rowWith(kind, 5, "a0 b0 c1"))
			add("a Freq of 1, alone and full", rowWith(kind, 1, "a1"))
		}
		for _, x := range []impl.Item{{}, {Val: "v"}, {Key: "x y"}, {Key: " "}, {Key: "x\n"}, {Key: strings.Repeat("k", 21)}, {Key: "x", Val: " "}, {Key: "x", Val: "\n"}, {Key: "x", Val: strings.Repeat("v", 41)}, {Key: "x", Freq: -1}, {Key: "x", Freq: 4}, {Key: "x", Freq: math.MaxInt}, {Key: "x", Freq: math.MinInt}} {
			for at := range 3 {
				r := rowWith(kind, 5, "a0 b0")
				r.Items = slices.Insert(r.Items, at, x)
				add(fmt.Sprintf("the item %+v at %d", x, at), r)
			}
		}
	}
	return l
}

func TestRowsThatArentRight(t *testing.T) {
	deeds := append(rowDeeds("a", "b", "x", "none", "", "x y"), rowPutDeed("a", "x y"), rowPutDeed("none", strings.Repeat("v", 41)))
	for what, r := range wrongRows() {
		if impl.RowOk(r) || rowOkSaid(r) {
			t.Errorf("%s: RowOk(%+v) is true", what, r)
		}
		if keys := impl.RowKeys(r); len(keys) > 0 {
			t.Errorf("%s: RowKeys(%+v) is %q", what, r, keys)
		}
		for _, d := range deeds {
			got, told := d.do(r)
			if !sameRow(got, impl.Row{}) || strings.Join(told, "") != "false" {
				t.Errorf("%s: %s of %+v is %+v, %q", what, d.what, r, got, told)
			}
		}
		rowAsSaid(t, r, deeds)
	}
}

func TestRowGet(t *testing.T) {
	for _, x := range []struct {
		what string
		r    impl.Row
		key  string
		want string
	}{
		{"fifo, the first", rowWith(impl.KdFifo, 5, "a0 b0 c0 d0"), "a", "a0 b0 c0 d0"},
		{"fifo, in the middle", rowWith(impl.KdFifo, 5, "a0 b0 c0 d0"), "c", "a0 b0 c0 d0"},
		{"fifo, the last", rowWith(impl.KdFifo, 5, "a0 b0 c0 d0"), "d", "a0 b0 c0 d0"},
		{"fifo, the last, full", rowWith(impl.KdFifo, 4, "a0 b0 c0 d0"), "d", "a0 b0 c0 d0"},
		{"fifo, the only one", rowWith(impl.KdFifo, 1, "a0"), "a", "a0"},
		{"lru, the first", rowWith(impl.KdLru, 5, "a0 b0 c0 d0"), "a", "b0 c0 d0 a0"},
		{"lru, in the middle", rowWith(impl.KdLru, 5, "a0 b0 c0 d0"), "b", "a0 c0 d0 b0"},
		{"lru, the last but one", rowWith(impl.KdLru, 5, "a0 b0 c0 d0"), "c", "a0 b0 d0 c0"},
		{"lru, the last", rowWith(impl.KdLru, 5, "a0 b0 c0 d0"), "d", "a0 b0 c0 d0"},
		{"lru, the first, full", rowWith(impl.KdLru, 4, "a0 b0 c0 d0"), "a", "b0 c0 d0 a0"},
		{"lru, the only one", rowWith(impl.KdLru, 1, "a0"), "a", "a0"},
		{"clock, the first", rowWith(impl.KdClock, 5, "a0 b0 c1 d0"), "a", "a1 b0 c1 d0"},
		{"clock, in the middle", rowWith(impl.KdClock, 5, "a0 b0 c1 d0"), "b", "a0 b1 c1 d0"},
		{"clock, in the middle, Freq 1", rowWith(impl.KdClock, 5, "a0 b0 c1 d0"), "c", "a0 b0 c1 d0"},
		{"clock, the last", rowWith(impl.KdClock, 5, "a0 b0 c1 d0"), "d", "a0 b0 c1 d1"},
		{"clock, the first, Freq 1", rowWith(impl.KdClock, 5, "a1 b0 c1 d1"), "a", "a1 b0 c1 d1"},
		{"clock, the last, Freq 1, full", rowWith(impl.KdClock, 4, "a1 b0 c1 d1"), "d", "a1 b0 c1 d1"},
		{"clock, the only one", rowWith(impl.KdClock, 1, "a0"), "a", "a1"},
		{"clock, the only one, Freq 1", rowWith(impl.KdClock, 1, "a1"), "a", "a1"},
	} {
		got, val, ok := impl.RowGet(x.r, x.key)
		if want := rowWith(x.r.Kind, x.r.Cap, x.want); !sameRow(got, want) || val != "v"+x.key || !ok {
			t.Errorf("%s: RowGet(%+v, %q) is %+v, %q, %v", x.what, x.r, x.key, got, val, ok)
		}
		rowAsSaid(t, x.r, rowDeeds(x.key))
	}
}

func TestRowGetOfKeysThatArentThere(t *testing.T) {
	for _, r := range []impl.Row{rowWith(impl.KdFifo, 5, "a0 b0 c0"), rowWith(impl.KdLru, 5, "a0 b0 c0"), rowWith(impl.KdClock, 5, "a0 b1 c0"), rowWith(impl.KdLru, 1, "a0"), rowWith(impl.KdClock, 1, "a1"), rowWith(impl.KdFifo, 3, ""), rowWith(impl.KdLru, 3, ""), rowWith(impl.KdClock, 3, "")} {
		for _, key := range append([]string{"d", "A", "aa", "ab", "va", "a ", " a", "a\n", "abc", "", strings.Repeat("a", 20), strings.Repeat("a", 21), strings.Repeat("a", 5000)}, oddTexts...) {
			if slices.Contains(keysIn(r.Items), key) {
				continue
			}
			if got, val, ok := impl.RowGet(r, key); !sameRow(got, r) || val != "" || ok {
				t.Errorf("RowGet(%+v, %q) is %+v, %q, %v", r, key, got, val, ok)
			}
		}
	}
}

func TestRowGetOfTheEmptyValue(t *testing.T) {
	for _, kind := range rowKinds {
		r := impl.Row{Kind: kind, Cap: 2, Items: []impl.Item{{Key: "a"}}}
		if got, val, ok := impl.RowGet(r, "a"); val != "" || !ok || len(got.Items) != 1 || got.Items[0].Freq != oneIf(kind == impl.KdClock) {
			t.Errorf("kind %d: %+v, %q, %v", kind, got, val, ok)
		}
	}
}

// rowPutCase: what RowPut of a key with the value new answers; gone are the keys, with blanks between.
type rowPutCase struct {
	what string
	r    impl.Row
	key  string
	want string
	gone string
}

// rowPutCases holds these against RowPut, and against what chapter 12 says.
func rowPutCases(t *testing.T, l []rowPutCase) {
	t.Helper()
	for _, x := range l {
		want := rowWith(x.r.Kind, x.r.Cap, x.want)
		at := slices.IndexFunc(want.Items, func(i impl.Item) bool { return i.Key == x.key })
		want.Items[at].Val = "new"
		got, gone, ok := impl.RowPut(x.r, x.key, "new")
		if !sameRow(got, want) || !slices.Equal(gone, strings.Fields(x.gone)) || !ok {
			t.Errorf("%s: RowPut(%+v, %q) is %+v, %q, %v; want %+v", x.what, x.r, x.key, got, gone, ok, want)
		}
		if said, out, _ := rowPutSaid(x.r, x.key, "new"); !sameRow(said, want) || !slices.Equal(gone, out) {
			t.Errorf("%s: RowPut(%+v, %q) is said to be %+v, %q", x.what, x.r, x.key, said, out)
		}
	}
}

func TestRowPutOfAKeyThatIsThere(t *testing.T) {
	rowPutCases(t, []rowPutCase{
		{"fifo, the first", rowWith(impl.KdFifo, 5, "a0 b0 c0"), "a", "a0 b0 c0", ""},
		{"fifo, in the middle", rowWith(impl.KdFifo, 5, "a0 b0 c0"), "b", "a0 b0 c0", ""},
		{"fifo, the last", rowWith(impl.KdFifo, 5, "a0 b0 c0"), "c", "a0 b0 c0", ""},
		{"fifo, the first, full", rowWith(impl.KdFifo, 3, "a0 b0 c0"), "a", "a0 b0 c0", ""},
		{"fifo, the only one, full", rowWith(impl.KdFifo, 1, "a0"), "a", "a0", ""},
		{"lru, the first", rowWith(impl.KdLru, 5, "a0 b0 c0"), "a", "b0 c0 a0", ""},
		{"lru, in the middle", rowWith(impl.KdLru, 5, "a0 b0 c0"), "b", "a0 c0 b0", ""},
		{"lru, the last", rowWith(impl.KdLru, 5, "a0 b0 c0"), "c", "a0 b0 c0", ""},
		{"lru, the first, full", rowWith(impl.KdLru, 3, "a0 b0 c0"), "a", "b0 c0 a0", ""},
		{"lru, the only one, full", rowWith(impl.KdLru, 1, "a0"), "a", "a0", ""},
		{"clock, the first", rowWith(impl.KdClock, 5, "a0 b0 c1"), "a", "a1 b0 c1", ""},
		{"clock, in the middle", rowWith(impl.KdClock, 5, "a0 b0 c1"), "b", "a0 b1 c1", ""},
		{"clock, the last, Freq 1", rowWith(impl.KdClock, 5, "a0 b0 c1"), "c", "a0 b0 c1", ""},
		{"clock, the first, full, Freq 1", rowWith(impl.KdClock, 3, "a1 b1 c1"), "a", "a1 b1 c1", ""},
		{"clock, the last, full", rowWith(impl.KdClock, 3, "a1 b1 c0"), "c", "a1 b1 c1", ""},
		{"clock, the only one, full", rowWith(impl.KdClock, 1, "a0"), "a", "a1", ""},
	})
}

func TestRowPutOfANewKey(t *testing.T) {
	rowPutCases(t, []rowPutCase{
		{"fifo, empty", rowWith(impl.KdFifo, 3, ""), "n", "n0", ""},
		{"fifo, room for two", rowWith(impl.KdFifo, 4, "a0 b0"), "n", "a0 b0 n0", ""},
		{"fifo, room for one", rowWith(impl.KdFifo, 3, "a0 b0"), "n", "a0 b0 n0", ""},
		{"fifo, full", rowWith(impl.KdFifo, 3, "a0 b0 c0"), "n", "b0 c0 n0", "a"},
		{"fifo, full, Cap 1", rowWith(impl.KdFifo, 1, "a0"), "n", "n0", "a"},
		{"lru, empty", rowWith(impl.KdLru, 3, ""), "n", "n0", ""},
		{"lru, room for two", rowWith(impl.KdLru, 4, "a0 b0"), "n", "a0 b0 n0", ""},
		{"lru, room for one", rowWith(impl.KdLru, 3, "b0 a0"), "n", "b0 a0 n0", ""},
		{"lru, full", rowWith(impl.KdLru, 3, "c0 a0 b0"), "n", "a0 b0 n0", "c"},
		{"lru, full, Cap 1", rowWith(impl.KdLru, 1, "a0"), "n", "n0", "a"},
		{"clock, empty", rowWith(impl.KdClock, 3, ""), "n", "n0", ""},
		{"clock, room for one", rowWith(impl.KdClock, 3, "a1 b0"), "n", "a1 b0 n0", ""},
		{"clock, room for one, all asked for", rowWith(impl.KdClock, 3, "a1 b1"), "n", "a1 b1 n0", ""},
		{"clock, full, none asked for", rowWith(impl.KdClock, 3, "a0 b0 c0"), "n", "b0 c0 n0", "a"},
		{"clock, full, the first asked for", rowWith(impl.KdClock, 3, "a1 b0 c0"), "n", "c0 a0 n0", "b"},
		{"clock, full, the first two asked for", rowWith(impl.KdClock, 3, "a1 b1 c0"), "n", "a0 b0 n0", "c"},
		{"clock, full, the last asked for", rowWith(impl.KdClock, 3, "a0 b0 c1"), "n", "b0 c1 n0", "a"},
		{"clock, full, all but the first asked for", rowWith(impl.KdClock, 3, "a0 b1 c1"), "n", "b1 c1 n0", "a"},
		{"clock, full, the first and the last asked for", rowWith(impl.KdClock, 4, "a1 b0 c0 d1"), "n", "c0 d1 a0 n0", "b"},
		{"clock, full, every second asked for", rowWith(impl.KdClock, 5, "a1 b0 c1 d0 e1"), "n", "c1 d0 e1 a0 n0", "b"},
		{"clock, full, all asked for", rowWith(impl.KdClock, 3, "a1 b1 c1"), "n", "b0 c0 n0", "a"},
		{"clock, full, Cap 1, not asked for", rowWith(impl.KdClock, 1, "a0"), "n", "n0", "a"},
		{"clock, full, Cap 1, asked for", rowWith(impl.KdClock, 1, "a1"), "n", "n0", "a"},
		{"clock, full, Cap 2, both asked for", rowWith(impl.KdClock, 2, "a1 b1"), "n", "b0 n0", "a"},
		{"a key of the Hash of another", rowWith(impl.KdLru, 2, "liquid0 a0"), "costarring", "a0 costarring0", "liquid"},
		{"a key that differs by a letter's size", rowWith(impl.KdFifo, 2, "a0 b0"), "A", "b0 A0", "a"},
	})
}

func TestRowPutOfItemsThatArentRight(t *testing.T) {
	long := strings.Repeat("k", 40)
	for _, kind := range rowKinds {
		for _, r := range []impl.Row{rowWith(kind, 3, "a0 b0"), rowWith(kind, 2, "a0 b0"), rowWith(kind, 1, ""), rowWith(kind, 1, "a0")} {
			for _, x := range [][2]string{{"", ""}, {"", "v"}, {" ", ""}, {"\n", ""}, {"a b", "v"}, {"a\n", "v"}, {"\na", "v"}, {" a", "v"}, {"a", " "}, {"a", "\n"}, {"b", "x y"}, {"n", "x "}, {"n", "x\ny"}, {long[:21], ""}, {long, ""}, {"a", long + "k"}, {"n", long + "k"}} {
				if got, gone, ok := impl.RowPut(r, x[0], x[1]); ok || len(gone) != 0 || !sameRow(got, impl.Row{}) {
					t.Errorf("RowPut(%+v, %q, %q) is %+v, %q, %v", r, x[0], x[1], got, gone, ok)
				}
			}
			for _, x := range [][2]string{{"a", ""}, {"n", ""}, {long[:20], long}, {"a", long}, {"\xff", "\xc3\x00"}, {"\t", "\u00a0"}, {"a=b", "*"}} {
				got, _, ok := impl.RowPut(r, x[0], x[1])
				if !ok || !impl.RowOk(got) {
					t.Errorf("RowPut(%+v, %q, %q) is %+v, %v", r, x[0], x[1], got, ok)
				}
				if _, val, found := impl.RowGet(got, x[0]); !found || val != x[1] {
					t.Errorf("RowPut(%+v, %q, %q): RowGet finds %q, %v", r, x[0], x[1], val, found)
				}
			}
			for _, key := range oddTexts {
				for _, val := range oddTexts {
					rowAsSaid(t, r, []rowDeed{rowPutDeed(key, val), rowGetDeed(key)})
				}
			}
		}
	}
}

func TestRowKeys(t *testing.T) {
	for _, kind := range rowKinds {
		for _, x := range [][2]string{{"", ""}, {"a0", "a"}, {"b0 a0", "b a"}, {"c0 a0 b0", "c a b"}, {"a0 b0 c0 d0", "a b c d"}} {
			if keys := impl.RowKeys(rowWith(kind, 4, x[0])); !slices.Equal(keys, strings.Fields(x[1])) {
				t.Errorf("kind %d: RowKeys of %q is %q", kind, x[0], keys)
			}
		}
		for _, n := range []int{0, 1, 59, 60} {
			r := impl.Row{Kind: kind, Cap: 60, Items: lettered(0, make([]int, n))}
			if keys := impl.RowKeys(r); !slices.Equal(keys, keysIn(r.Items)) {
				t.Errorf("kind %d: RowKeys of %d items is %q", kind, n, keys)
			}
		}
	}
	if keys := impl.RowKeys(rowWith(impl.KdClock, 4, "c1 a0 b1")); !slices.Equal(keys, []string{"c", "a", "b"}) {
		t.Errorf("RowKeys of a clock is %q", keys)
	}
}

// TestAllSmallRows: all rows of a Cap of at most 6, but for the names of the keys.
func TestAllSmallRows(t *testing.T) {
	n := 0
	for _, kind := range rowKinds {
		for size := 1; size <= 6; size++ {
			for _, freqs := range shortLists([]int{0, 1}, size) {
				if kind == impl.KdClock || !slices.Contains(freqs, 1) {
					rowAsSaid(t, impl.Row{Kind: kind, Cap: size, Items: lettered(0, freqs)}, rowDeeds("a", "b", "c", "d", "e", "f", "none", ""))
					n++
				}
			}
		}
	}
	if n < 250 {
		t.Errorf("only %d rows", n)
	}
}

// TestGreatRows: rows of many items; in those of a clock some, all and none of them were asked for.
func TestGreatRows(t *testing.T) {
	for _, kind := range rowKinds {
		for _, size := range []int{10, 30, 59, 60} {
			for _, n := range []int{0, 1, size - 1, size} {
				for every := range 6 {
					for _, first := range []int{0, 1, n - 1} {
						r := impl.Row{Kind: kind, Cap: size, Items: someQueue("k", n)}
						for i := range r.Items {
							r.Items[i].Freq = oneIf(kind == impl.KdClock && (i < first || every == 1 || every > 1 && i%every > 0))
						}
						rowAsSaid(t, r, rowDeeds("n", "k0", "k"+strconv.Itoa(n/2), "k"+strconv.Itoa(n-1)))
					}
				}
			}
		}
	}
}

// rowsWithRoom: rows of all kinds with something behind the ends of their lists: one with room, one that is full, and one whose memory has more items behind it.
func rowsWithRoom() []impl.Row {
	var l []impl.Row
	for _, kind := range rowKinds {
		items := "a0 b0 c0"
		if kind == impl.KdClock {
			items = "a1 b0 c1"
		}
		open, full := rowWith(kind, 5, items), rowWith(kind, 3, items)
		open.Items, full.Items = withRoom(open.Items), withRoom(full.Items)
		piece := impl.Row{Kind: kind, Cap: 3, Items: queueOf(items + " d0 e1 f2")[:3]}
		l = append(l, open, full, piece)
	}
	return l
}

func TestRowsAnswerNewMemory(t *testing.T) {
	for _, d := range rowDeeds("a", "b", "c", "n", "none", "") {
		for i := range rowsWithRoom() {
			r := rowsWithRoom()[i]
			// The list is looked at as far as its memory goes, since that behind its end is the caller's too.
			before := slices.Clone(r.Items[:cap(r.Items)])
			want, right := d.said(r)
			first, told := d.do(r)
			other, again := d.do(r)
			fillItems(first.Items)
			for k := range told[:cap(told)] {
				told[:cap(told)][k] = "spoilt"
			}
			if !slices.Equal(r.Items[:cap(r.Items)], before) {
				t.Errorf("%s of row %d: the argument is now %+v", d.what, i, r.Items[:cap(r.Items)])
			}
			if !sameRow(other, want) || !slices.Equal(again, right) {
				t.Errorf("%s of row %d: two answers share memory, or one is wrong: %+v, %q", d.what, i, other, again)
			}
			fillItems(r.Items)
			if !sameRow(other, want) || !slices.Equal(again, right) {
				t.Errorf("%s of row %d: the answer shares memory with the argument", d.what, i)
			}
		}
	}
}

func TestRowKeysAnswersNewMemory(t *testing.T) {
	for i, r := range rowsWithRoom() {
		before := slices.Clone(r.Items[:cap(r.Items)])
		keys, other := impl.RowKeys(r), impl.RowKeys(r)
		clear(keys[:cap(keys)])
		if !slices.Equal(r.Items[:cap(r.Items)], before) || !slices.Equal(other, []string{"a", "b", "c"}) {
			t.Errorf("row %d: %+v, %q", i, r.Items, other)
		}
		fillItems(r.Items)
		if !slices.Equal(other, []string{"a", "b", "c"}) {
			t.Errorf("row %d: the answer shares memory with the argument", i)
		}
	}
}

// rowMove: a deed in a run, what it tells beside the row, with blanks between, and what the row has behind it.
type rowMove struct {
	d     rowDeed
	told  string
	items string
}

// rowRun does the moves one after the other, from an empty row on. The values of the items are those that queueOf gives them.
func rowRun(t *testing.T, kind int, size int, moves []rowMove) {
	t.Helper()
	r, ok := impl.RowNew(kind, size)
	if !ok {
		t.Fatalf("RowNew(%d, %d) says false", kind, size)
	}
	for i, m := range moves {
		got, told := m.d.do(r)
		if want := rowWith(kind, size, m.items); !sameRow(got, want) || strings.Join(told, " ") != m.told {
			t.Fatalf("move %d, %s: %+v, %q; want %+v", i, m.d.what, got, told, want)
		}
		r = got
	}
}

func rowComes(key string) rowDeed { return rowPutDeed(key, "v"+key) }

func TestARunOfAFifo(t *testing.T) {
	rowRun(t, impl.KdFifo, 3, []rowMove{
		{rowGetDeed("a"), " false", ""},
		{rowComes("a"), "true", "a0"},
		{rowComes("b"), "true", "a0 b0"},
		{rowGetDeed("a"), "va true", "a0 b0"},
		{rowComes("c"), "true", "a0 b0 c0"},
		{rowComes("a"), "true", "a0 b0 c0"},
		{rowGetDeed("a"), "va true", "a0 b0 c0"},
		{rowComes("d"), "a true", "b0 c0 d0"},
		{rowGetDeed("a"), " false", "b0 c0 d0"},
		{rowComes("a"), "b true", "c0 d0 a0"},
		{rowGetDeed("c"), "vc true", "c0 d0 a0"},
		{rowComes("e"), "c true", "d0 a0 e0"},
	})
}

func TestARunOfALru(t *testing.T) {
	rowRun(t, impl.KdLru, 3, []rowMove{
		{rowGetDeed("a"), " false", ""},
		{rowComes("a"), "true", "a0"},
		{rowComes("b"), "true", "a0 b0"},
		{rowGetDeed("a"), "va true", "b0 a0"},
		{rowComes("c"), "true", "b0 a0 c0"},
		{rowGetDeed("d"), " false", "b0 a0 c0"},
		{rowComes("d"), "b true", "a0 c0 d0"},
		{rowComes("a"), "true", "c0 d0 a0"},
		{rowGetDeed("d"), "vd true", "c0 a0 d0"},
		{rowGetDeed("d"), "vd true", "c0 a0 d0"},
		{rowComes("e"), "c true", "a0 d0 e0"},
		{rowComes("f"), "a true", "d0 e0 f0"},
		{rowComes("g"), "d true", "e0 f0 g0"},
	})
}

func TestARunOfAClock(t *testing.T) {
	rowRun(t, impl.KdClock, 3, []rowMove{
		{rowGetDeed("a"), " false", ""},
		{rowComes("a"), "true", "a0"},
		{rowComes("b"), "true", "a0 b0"},
		{rowGetDeed("a"), "va true", "a1 b0"},
		{rowGetDeed("a"), "va true", "a1 b0"},
		{rowComes("c"), "true", "a1 b0 c0"},
		{rowComes("d"), "b true", "c0 a0 d0"},
		{rowComes("a"), "true", "c0 a1 d0"},
		{rowComes("e"), "c true", "a1 d0 e0"},
		{rowGetDeed("d"), "vd true", "a1 d1 e0"},
		{rowGetDeed("e"), "ve true", "a1 d1 e1"},
		{rowComes("f"), "a true", "d0 e0 f0"},
		{rowGetDeed("f"), "vf true", "d0 e0 f1"},
		{rowComes("g"), "d true", "e0 f1 g0"},
		{rowComes("h"), "e true", "f1 g0 h0"},
		{rowComes("i"), "g true", "h0 f0 i0"},
		{rowComes("j"), "h true", "f0 i0 j0"},
		{rowComes("k"), "f true", "i0 j0 k0"},
	})
}

// rowStory: a row with what only who saw the whole run knows: the values that were put, when each key came and was asked for last, and for a clock a face of as many places as it has room, with a hand that goes round: the one at the hand goes, or is passed by where it was asked for since.
type rowStory struct {
	r     impl.Row
	now   int
	vals  map[string]string
	came  map[string]int
	asked map[string]int
	face  []string
	hand  int
	since map[string]bool
}

func newRowStory(t *testing.T, kind int, size int) *rowStory {
	t.Helper()
	r, ok := impl.RowNew(kind, size)
	if !ok {
		t.Fatalf("RowNew(%d, %d) says false", kind, size)
	}
	return &rowStory{r: r, vals: map[string]string{}, came: map[string]int{}, asked: map[string]int{}, since: map[string]bool{}}
}

func (s *rowStory) copied() *rowStory {
	next := *s
	next.vals, next.came, next.asked, next.since = maps.Clone(s.vals), maps.Clone(s.came), maps.Clone(s.asked), maps.Clone(s.since)
	next.face = slices.Clone(s.face)
	return &next
}

// done does a deed and holds it against what chapter 12 says; it answers what is told, and whether the deed said true.
func (s *rowStory) done(t *testing.T, d rowDeed) ([]string, bool) {
	t.Helper()
	before := cloneRow(s.r)
	r, told := d.do(s.r)
	if want, right := d.said(s.r); !sameRow(r, want) || !slices.Equal(told, right) {
		t.Fatalf("%s of %+v: %+v, %q", d.what, s.r, r, told)
	}
	if !sameRow(s.r, before) {
		t.Fatalf("%s changed %+v to %+v", d.what, before, s.r)
	}
	s.r = r
	s.now++
	last := len(told) - 1
	return told[:last], told[last] == "true"
}

func (s *rowStory) askedFor(key string) {
	s.asked[key] = s.now
	s.since[key] = true
}

func (s *rowStory) get(t *testing.T, key string) bool {
	t.Helper()
	told, ok := s.done(t, rowGetDeed(key))
	if val, there := s.vals[key]; ok != there || told[0] != val {
		t.Fatalf("%+v: RowGet of %q finds %q, %v; put was %q", s.r, key, told[0], ok, val)
	}
	if ok {
		s.askedFor(key)
	}
	return ok
}

func (s *rowStory) put(t *testing.T, key string, val string) []string {
	t.Helper()
	gone, ok := s.done(t, rowPutDeed(key, val))
	if !ok {
		t.Fatalf("%+v: RowPut of %q says false", s.r, key)
	}
	if _, there := s.vals[key]; there {
		if len(gone) > 0 {
			t.Fatalf("%+v: %q go by a RowPut of %q, which was there", s.r, gone, key)
		}
		s.vals[key] = val
		s.askedFor(key)
		return nil
	}
	s.makeRoom(t, key, gone)
	s.vals[key], s.came[key], s.asked[key] = val, s.now, s.now
	return gone
}

// earliest is the key with the least time.
func earliest(times map[string]int) string {
	return slices.MinFunc(slices.Collect(maps.Keys(times)), func(a string, b string) int { return times[a] - times[b] })
}

// passBy answers the first key from the hand on that wasn't asked for since, and those that were no more are.
func (s *rowStory) passBy() string {
	for s.since[s.face[s.hand]] {
		delete(s.since, s.face[s.hand])
		s.hand = (s.hand + 1) % len(s.face)
	}
	return s.face[s.hand]
}

// makeRoom: by the coming of the key these went.
func (s *rowStory) makeRoom(t *testing.T, key string, gone []string) {
	t.Helper()
	if len(s.vals) < s.r.Cap {
		if len(gone) > 0 {
			t.Fatalf("%+v: %q go by a RowPut of %q, though there was room", s.r, gone, key)
		}
		s.face = append(s.face, key)
		return
	}
	var out string
	switch s.r.Kind {
	case impl.KdFifo:
		out = earliest(s.came)
	case impl.KdLru:
		out = earliest(s.asked)
	case impl.KdClock:
		out = s.passBy()
		s.face[s.hand] = key
		s.hand = (s.hand + 1) % len(s.face)
	}
	if !slices.Equal(gone, []string{out}) {
		t.Fatalf("%+v: %q go by a RowPut of %q, and not %q", s.r, gone, key, out)
	}
	delete(s.vals, out)
	delete(s.came, out)
	delete(s.asked, out)
	delete(s.since, out)
}

// order: in which the keys must stand.
func (s *rowStory) order() []string {
	times := s.came
	switch s.r.Kind {
	case impl.KdLru:
		times = s.asked
	case impl.KdClock:
		return slices.Concat(s.face[s.hand:], s.face[:s.hand])
	}
	return slices.SortedFunc(maps.Keys(times), func(a string, b string) int { return times[a] - times[b] })
}

// look holds the row against the story.
func (s *rowStory) look(t *testing.T) {
	t.Helper()
	keys := impl.RowKeys(s.r)
	if !impl.RowOk(s.r) || len(keys) > s.r.Cap || len(keys) != len(s.vals) || !slices.Equal(keys, s.order()) {
		t.Fatalf("%+v isn't right, or hasn't the keys %q in that order", s.r, s.order())
	}
	for _, x := range s.r.Items {
		if want := oneIf(s.r.Kind == impl.KdClock && s.since[x.Key]); x.Val != s.vals[x.Key] || x.Freq != want {
			t.Fatalf("%+v: the item %+v; put was %q, Freq is %d", s.r, x, s.vals[x.Key], want)
		}
		if _, val, ok := impl.RowGet(s.r, x.Key); !ok || val != x.Val {
			t.Fatalf("%+v: RowGet of %q finds %q, %v", s.r, x.Key, val, ok)
		}
	}
}

func (s *rowStory) tryAllMoves(t *testing.T, keys []string, deep int) int {
	t.Helper()
	s.look(t)
	n := 1
	if deep == 0 {
		return n
	}
	for _, k := range keys {
		next := s.copied()
		next.get(t, k)
		n += next.tryAllMoves(t, keys, deep-1)
		next = s.copied()
		next.put(t, k, k+strconv.Itoa(s.now))
		n += next.tryAllMoves(t, keys, deep-1)
	}
	return n
}

func TestAllOrdersOfMovesOnRows(t *testing.T) {
	for _, kind := range rowKinds {
		for _, x := range []struct {
			size int
			keys string
			deep int
		}{
			{1, "a b", 6},
			{2, "a b c", 5},
			{3, "a b c d", 4},
			{4, "a b c", 4},
		} {
			if n := newRowStory(t, kind, x.size).tryAllMoves(t, strings.Fields(x.keys), x.deep); n < 1500 {
				t.Errorf("kind %d, Cap %d: only %d runs", kind, x.size, n)
			}
		}
	}
}

// TestAllMovesOnFullRows: from full rows on, whose items were asked for in between in all ways.
func TestAllMovesOnFullRows(t *testing.T) {
	for _, kind := range rowKinds {
		for asked := range 8 {
			s := newRowStory(t, kind, 3)
			for i, k := range []string{"a", "b", "c"} {
				s.put(t, k, "v")
				if asked>>i&1 == 1 {
					s.get(t, k)
				}
			}
			s.tryAllMoves(t, []string{"a", "c", "d", "e"}, 3)
		}
	}
}

func TestLongRunsOnRows(t *testing.T) {
	for i, size := range []int{1, 2, 3, 4, 7, 10, 20, 59, 60} {
		for _, kind := range rowKinds {
			s, next := newRowStory(t, kind, size), storyNumbers(10*i+kind)
			found, gone := 0, 0
			for k := range 1500 {
				// Some keys are asked for more often than others.
				most := 2 + 2*size
				key := "k" + strconv.Itoa([]int{next(most), next(1 + next(most)/2)}[next(2)])
				if next(2) == 0 {
					found += oneIf(s.get(t, key))
				} else {
					gone += len(s.put(t, key, strings.Repeat("v", next(41))))
				}
				// In great rows a look takes long.
				if k%(1+size/3) == 0 {
					s.look(t)
				}
			}
			s.look(t)
			if found < 100 || gone < 100 {
				t.Errorf("kind %d, Cap %d: only %d found, %d gone", kind, size, found, gone)
			}
		}
	}
}

// someAskings: n keys out of that many, some asked for more often than others.
func someAskings(n int, keys int, next func(below int) int) []string {
	var l []string
	for range n {
		l = append(l, "k"+strconv.Itoa([]int{next(keys), next(1 + next(keys)/3)}[next(2)]))
	}
	return l
}

// asks asks for a key and puts it where it isn't there; it answers whether it was, and who went.
func (s *rowStory) asks(t *testing.T, key string) (bool, []string) {
	t.Helper()
	if s.get(t, key) {
		return true, nil
	}
	return false, s.put(t, key, "v"+key)
}

// TestFirstInFirstOut: a fifo lets go in the order in which they came, however often they were asked for.
func TestFirstInFirstOut(t *testing.T) {
	for _, size := range []int{1, 2, 5, 20, 60} {
		s, next := newRowStory(t, impl.KdFifo, size), storyNumbers(size)
		var came, gone []string
		for _, key := range someAskings(1500, 3*size+2, next) {
			found, out := s.asks(t, key)
			if !found {
				came = append(came, key)
			}
			gone = append(gone, out...)
		}
		if len(gone) < 100 || len(came) != len(gone)+size || !slices.Equal(gone, came[:len(gone)]) {
			t.Errorf("Cap %d: %d came, %d went, and not in that order", size, len(came), len(gone))
		}
	}
}

// TestWithoutASecondAsking: all kinds let go alike.
func TestWithoutASecondAsking(t *testing.T) {
	for _, size := range []int{1, 2, 3, 10, 60} {
		for _, kind := range rowKinds {
			s := newRowStory(t, kind, size)
			for i := range 3 * size {
				var want []string
				if i >= size {
					want = append(want, "k"+strconv.Itoa(i-size))
				}
				found, gone := s.asks(t, "k"+strconv.Itoa(i))
				// That one who isn't there any more is asked for leaves all as it is.
				if i > size {
					s.get(t, "k"+strconv.Itoa(i-size-1))
				}
				if found || !slices.Equal(gone, want) {
					t.Fatalf("kind %d, Cap %d: %q go by the coming of k%d", kind, size, gone, i)
				}
			}
			s.look(t)
		}
	}
}

// TestHowDeepAnAskingLies: a row of the least lately asked finds a key where fewer others than it has room for were asked for since.
func TestHowDeepAnAskingLies(t *testing.T) {
	for _, size := range []int{1, 2, 3, 7, 20, 60} {
		s, next := newRowStory(t, impl.KdLru, size), storyNumbers(7*size)
		askings := someAskings(1000, 2*size+2, next)
		hits := 0
		for i, key := range askings {
			others, last := map[string]bool{}, i-1
			for ; last >= 0 && askings[last] != key; last-- {
				others[askings[last]] = true
			}
			found, _ := s.asks(t, key)
			if found != (last >= 0 && len(others) < size) {
				t.Fatalf("Cap %d: the asking %d for %q finds it: %v; %d others were asked for since", size, i, key, found, len(others))
			}
			hits += oneIf(found)
		}
		if hits < 100 || hits > 990 {
			t.Errorf("Cap %d: %d found", size, hits)
		}
	}
}

// TestAGreaterRowHoldsMore: of the least lately asked a greater row holds what a smaller one holds, as the last ones in the same order.
func TestAGreaterRowHoldsMore(t *testing.T) {
	var rows []*rowStory
	for _, size := range []int{1, 2, 3, 5, 8, 13, 40, 60} {
		rows = append(rows, newRowStory(t, impl.KdLru, size))
	}
	for _, key := range someAskings(1000, 70, storyNumbers(3)) {
		var held []string
		for _, s := range rows {
			s.asks(t, key)
			keys := impl.RowKeys(s.r)
			if !slices.Equal(keys[len(keys)-len(held):], held) {
				t.Fatalf("behind %q: Cap %d holds %q, a smaller one %q", key, s.r.Cap, keys, held)
			}
			held = keys
		}
	}
}

// TestAClockSparesOnce: however often it was asked for, who was asked for since is passed by once.
func TestAClockSparesOnce(t *testing.T) {
	for _, size := range []int{1, 2, 3, 10, 60} {
		for _, times := range []int{1, 2, 5} {
			s := newRowStory(t, impl.KdClock, size)
			for i := range size {
				s.put(t, "k"+strconv.Itoa(i), "v")
			}
			for range times {
				s.get(t, "k0")
				s.put(t, "k0", "w")
			}
			var gone []string
			for i := range 2 * size {
				gone = append(gone, s.put(t, "n"+strconv.Itoa(i), "v")...)
				s.look(t)
			}
			// All that came ahead of the first new one go ahead of k0, for which that one makes the place.
			if at := slices.Index(gone, "k0"); at != size-1 {
				t.Errorf("Cap %d, asked for %d times: %q go", size, times, gone)
			}
		}
	}
}
