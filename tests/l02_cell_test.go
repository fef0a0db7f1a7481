package tests

import (
	"math"
	"slices"
	"testing"

	"loop.example/g00724/impl"
)

// someInts: values of cells and fields, at both ends of the ints and around 0, and two that rowOf has.
var someInts = []int{0, 1, -1, 2, -2, 7, 300, 1000, 1003, 4294967295, 4294967296, math.MaxInt - 1, math.MaxInt, math.MinInt + 1, math.MinInt}

// noKinds: ints that are no kind of an act.
var noKinds = []int{0, -1, -2, -3, -4, 5, 6, 7, 8, 255, 257, 1 << 32, 1<<32 + 1, math.MaxInt, math.MinInt, math.MinInt + 1}

// rowOf: n cells, no two alike, none 0.
func rowOf(n int) []int {
	l := make([]int, n)
	for i := range l {
		l[i] = 1000 + 3*i
	}
	return l
}

// actRight: what chapter 3 says of an act, for a row of n cells.
func actRight(n int, a impl.Act) bool {
	if n > 300 || a.At < 0 || a.At >= n {
		return false
	}
	switch a.Kind {
	case 1:
		return a.A == 0 && a.B == 0
	case 2, 4:
		return a.B == 0
	case 3:
		return true
	}
	return false
}

// manyActs: every kind and some that are none, at places inside and outside of n cells, with fields from someInts.
func manyActs(n int) []impl.Act {
	var l []impl.Act
	kinds := append([]int{1, 2, 3, 4}, noKinds...)
	for _, kind := range kinds {
		for _, at := range []int{0, 1, n - 1, n, n + 1, -1, math.MaxInt, math.MinInt} {
			for _, a := range someInts {
				for _, b := range someInts {
					l = append(l, impl.Act{Kind: kind, At: at, A: a, B: b})
				}
			}
		}
	}
	return l
}

func TestCellConstants(t *testing.T) {
	if impl.AcLoad != 1 || impl.AcStore != 2 || impl.AcCas != 3 || impl.AcAdd != 4 || impl.MaxCells != 300 {
		t.Errorf("AcLoad %d, AcStore %d, AcCas %d, AcAdd %d, MaxCells %d", impl.AcLoad, impl.AcStore, impl.AcCas, impl.AcAdd, impl.MaxCells)
	}
}

func TestActOk(t *testing.T) {
	for _, x := range []struct {
		what string
		n    int
		a    impl.Act
		ok   bool
	}{
		{"load", 2, impl.Act{Kind: impl.AcLoad}, true},
		{"load of the last cell", 2, impl.Act{Kind: impl.AcLoad, At: 1}, true},
		{"load of one beyond", 2, impl.Act{Kind: impl.AcLoad, At: 2}, false},
		{"load below 0", 2, impl.Act{Kind: impl.AcLoad, At: -1}, false},
		{"load with an A", 2, impl.Act{Kind: impl.AcLoad, A: 1}, false},
		{"load with a B", 2, impl.Act{Kind: impl.AcLoad, B: 1}, false},
		{"store", 2, impl.Act{Kind: impl.AcStore, At: 1, A: 5}, true},
		{"store of 0", 2, impl.Act{Kind: impl.AcStore, At: 1}, true},
		{"store with a B", 2, impl.Act{Kind: impl.AcStore, A: 5, B: -1}, false},
		{"cas", 2, impl.Act{Kind: impl.AcCas, At: 1, A: 5, B: 6}, true},
		{"cas of a value that isn't there", 2, impl.Act{Kind: impl.AcCas, A: -9, B: math.MinInt}, true},
		{"cas of 0 to 0", 2, impl.Act{Kind: impl.AcCas}, true},
		{"cas of one beyond", 2, impl.Act{Kind: impl.AcCas, At: 2, A: 5, B: 6}, false},
		{"add", 2, impl.Act{Kind: impl.AcAdd, At: 1, A: math.MinInt}, true},
		{"add of 0", 2, impl.Act{Kind: impl.AcAdd}, true},
		{"add with a B", 2, impl.Act{Kind: impl.AcAdd, A: 1, B: 1}, false},
		{"no kind", 2, impl.Act{}, false},
		{"a kind below", 2, impl.Act{Kind: -1}, false},
		{"a kind beyond", 2, impl.Act{Kind: 5, At: 1}, false},
		{"no cells", 0, impl.Act{Kind: impl.AcLoad}, false},
		{"one cell", 1, impl.Act{Kind: impl.AcLoad}, true},
		{"MaxCells cells", 300, impl.Act{Kind: impl.AcCas, At: 299, A: 1, B: 2}, true},
		{"MaxCells cells, one beyond", 300, impl.Act{Kind: impl.AcLoad, At: 300}, false},
		{"a cell more than MaxCells", 301, impl.Act{Kind: impl.AcLoad}, false},
		{"many more", 5000, impl.Act{Kind: impl.AcStore, At: 3, A: 1}, false},
	} {
		if got := impl.ActOk(impl.Mem{Cells: rowOf(x.n)}, x.a); got != x.ok {
			t.Errorf("%s: ActOk of %d cells and %+v = %v", x.what, x.n, x.a, got)
		}
	}
	if impl.ActOk(impl.Mem{}, impl.Act{Kind: impl.AcLoad}) || impl.ActOk(impl.Mem{Cells: []int{}}, impl.Act{Kind: impl.AcLoad}) {
		t.Error("an act on no cells is said to be right")
	}
}

func TestActOkAtManyActs(t *testing.T) {
	for _, n := range []int{0, 1, 2, 5, 299, 300, 301, 302} {
		cells := rowOf(n)
		for _, a := range manyActs(n) {
			if got, want := impl.ActOk(impl.Mem{Cells: cells}, a), actRight(n, a); got != want {
				t.Fatalf("ActOk of %d cells and %+v = %v", n, a, got)
			}
		}
		if !slices.Equal(cells, rowOf(n)) {
			t.Fatalf("ActOk changed its %d cells", n)
		}
	}
}

// A cell that lies in the memory of the row but beyond its end is none.
func TestNoCellBehindTheEnd(t *testing.T) {
	m := impl.Mem{Cells: rowOf(6)[:2]}
	if impl.ActOk(m, impl.Act{Kind: impl.AcLoad, At: 2}) {
		t.Error("ActOk finds a cell behind the last")
	}
	if next, told, ok := impl.Do(m, impl.Act{Kind: impl.AcLoad, At: 2}); len(next.Cells) != 0 || told != 0 || ok {
		t.Errorf("Do = %v, %d, %v", next, told, ok)
	}
	if v := impl.CellOf(m, 2); v != 0 {
		t.Errorf("CellOf = %d", v)
	}
	if next, ok := impl.Set(m, 2, 1); len(next.Cells) != 0 || ok {
		t.Errorf("Set = %v, %v", next, ok)
	}
}

func TestDo(t *testing.T) {
	for _, x := range []struct {
		what  string
		cells []int
		a     impl.Act
		next  []int
		told  int
	}{
		{"load of the first", []int{4, 5, 6}, impl.Act{Kind: impl.AcLoad, At: 0}, []int{4, 5, 6}, 4},
		{"load of the last", []int{4, 5, 6}, impl.Act{Kind: impl.AcLoad, At: 2}, []int{4, 5, 6}, 6},
		{"load of what is below 0", []int{-4}, impl.Act{Kind: impl.AcLoad}, []int{-4}, -4},
		{"load of the greatest", []int{0, math.MaxInt}, impl.Act{Kind: impl.AcLoad, At: 1}, []int{0, math.MaxInt}, math.MaxInt},
		{"load of the least", []int{math.MinInt}, impl.Act{Kind: impl.AcLoad}, []int{math.MinInt}, math.MinInt},
		{"store", []int{4, 5, 6}, impl.Act{Kind: impl.AcStore, At: 1, A: 9}, []int{4, 9, 6}, 0},
		{"store of 0", []int{4, 5, 6}, impl.Act{Kind: impl.AcStore, At: 0}, []int{0, 5, 6}, 0},
		{"store of what is there", []int{4, 5, 6}, impl.Act{Kind: impl.AcStore, At: 2, A: 6}, []int{4, 5, 6}, 0},
		{"store of the least", []int{4}, impl.Act{Kind: impl.AcStore, A: math.MinInt}, []int{math.MinInt}, 0},
		{"store of the greatest", []int{4}, impl.Act{Kind: impl.AcStore, A: math.MaxInt}, []int{math.MaxInt}, 0},
		{"cas that finds its value", []int{4, 5, 6}, impl.Act{Kind: impl.AcCas, At: 1, A: 5, B: 9}, []int{4, 9, 6}, 1},
		{"cas that finds another", []int{4, 5, 6}, impl.Act{Kind: impl.AcCas, At: 1, A: 4, B: 9}, []int{4, 5, 6}, 0},
		{"cas that finds its new value", []int{4, 5, 6}, impl.Act{Kind: impl.AcCas, At: 1, A: 9, B: 5}, []int{4, 5, 6}, 0},
		{"cas from a value to itself", []int{4, 5, 6}, impl.Act{Kind: impl.AcCas, At: 2, A: 6, B: 6}, []int{4, 5, 6}, 1},
		{"cas from another value to itself", []int{4, 5, 6}, impl.Act{Kind: impl.AcCas, At: 2, A: 5, B: 5}, []int{4, 5, 6}, 0},
		{"cas of 0 to 0", []int{0}, impl.Act{Kind: impl.AcCas}, []int{0}, 1},
		{"cas to 0", []int{4, 5}, impl.Act{Kind: impl.AcCas, A: 4}, []int{0, 5}, 1},
		{"cas from the least to the greatest", []int{math.MinInt}, impl.Act{Kind: impl.AcCas, A: math.MinInt, B: math.MaxInt}, []int{math.MaxInt}, 1},
		{"add", []int{4, 5, 6}, impl.Act{Kind: impl.AcAdd, At: 1, A: 7}, []int{4, 12, 6}, 12},
		{"add of 0", []int{4, 5, 6}, impl.Act{Kind: impl.AcAdd, At: 1}, []int{4, 5, 6}, 5},
		{"add of what is below 0", []int{4, 5, 6}, impl.Act{Kind: impl.AcAdd, At: 2, A: -8}, []int{4, 5, -2}, -2},
		{"add that comes to 0", []int{4}, impl.Act{Kind: impl.AcAdd, A: -4}, []int{0}, 0},
		{"add to the greatest", []int{4, math.MaxInt}, impl.Act{Kind: impl.AcAdd, At: 1, A: 1}, []int{4, math.MinInt}, math.MinInt},
		{"add to the least", []int{math.MinInt}, impl.Act{Kind: impl.AcAdd, A: -1}, []int{math.MaxInt}, math.MaxInt},
		{"the greatest twice", []int{math.MaxInt}, impl.Act{Kind: impl.AcAdd, A: math.MaxInt}, []int{-2}, -2},
		{"the least twice", []int{math.MinInt}, impl.Act{Kind: impl.AcAdd, A: math.MinInt}, []int{0}, 0},
	} {
		next, told, ok := impl.Do(impl.Mem{Cells: x.cells}, x.a)
		if !slices.Equal(next.Cells, x.next) || told != x.told || !ok {
			t.Errorf("%s: Do(%v, %+v) = %v, %d, %v, want %v, %d, true", x.what, x.cells, x.a, next.Cells, told, ok, x.next, x.told)
		}
	}
}

// Whatever the act: it is refused with nothing, or it leaves all cells but its own as they were.
func TestDoAtManyActs(t *testing.T) {
	for _, n := range []int{0, 1, 2, 3, 300, 301} {
		cells := rowOf(n)
		for _, a := range manyActs(n) {
			next, told, ok := impl.Do(impl.Mem{Cells: cells}, a)
			if ok != actRight(n, a) {
				t.Fatalf("Do of %d cells and %+v says %v", n, a, ok)
			}
			if !ok {
				if len(next.Cells) != 0 || told != 0 {
					t.Fatalf("Do of %d cells and %+v is refused with %v, %d", n, a, next.Cells, told)
				}
				continue
			}
			want, tells := rowOf(n), 0
			switch a.Kind {
			case impl.AcLoad:
				tells = want[a.At]
			case impl.AcStore:
				want[a.At] = a.A
			case impl.AcCas:
				if want[a.At] == a.A {
					want[a.At], tells = a.B, 1
				}
			case impl.AcAdd:
				want[a.At] += a.A
				tells = want[a.At]
			}
			if !slices.Equal(next.Cells, want) || told != tells {
				t.Fatalf("Do of %d cells and %+v = %v, %d, want %v, %d", n, a, next.Cells, told, want, tells)
			}
		}
		if !slices.Equal(cells, rowOf(n)) {
			t.Fatalf("Do changed its %d cells", n)
		}
	}
}

func TestDoAtEveryCell(t *testing.T) {
	for _, n := range []int{1, 4, 300} {
		for at := range n {
			m := impl.Mem{Cells: rowOf(n)}
			v := m.Cells[at]
			for _, x := range []struct {
				a          impl.Act
				cell, told int
			}{
				{impl.Act{Kind: impl.AcLoad, At: at}, v, v},
				{impl.Act{Kind: impl.AcStore, At: at, A: -5}, -5, 0},
				{impl.Act{Kind: impl.AcCas, At: at, A: v, B: -6}, -6, 1},
				{impl.Act{Kind: impl.AcCas, At: at, A: v + 1, B: -6}, v, 0},
				{impl.Act{Kind: impl.AcAdd, At: at, A: 2}, v + 2, v + 2},
			} {
				want := rowOf(n)
				want[at] = x.cell
				next, told, ok := impl.Do(m, x.a)
				if !slices.Equal(next.Cells, want) || told != x.told || !ok {
					t.Fatalf("Do of %d cells and %+v = %v, %d, %v", n, x.a, next.Cells, told, ok)
				}
			}
		}
	}
}

// Acts one after the other, each on what the last one left: of two that want the same value to go on, one comes to pass.
func TestDoOneAfterTheOther(t *testing.T) {
	m, ok := impl.MemNew(3)
	if !ok {
		t.Fatal("no cells")
	}
	for i, x := range []struct {
		a     impl.Act
		told  int
		cells []int
	}{
		{impl.Act{Kind: impl.AcLoad, At: 0}, 0, []int{0, 0, 0}},
		{impl.Act{Kind: impl.AcLoad, At: 0}, 0, []int{0, 0, 0}},
		{impl.Act{Kind: impl.AcCas, At: 0, A: 0, B: 5}, 1, []int{5, 0, 0}},
		{impl.Act{Kind: impl.AcCas, At: 0, A: 0, B: 6}, 0, []int{5, 0, 0}},
		{impl.Act{Kind: impl.AcAdd, At: 2, A: 1}, 1, []int{5, 0, 1}},
		{impl.Act{Kind: impl.AcAdd, At: 2, A: 1}, 2, []int{5, 0, 2}},
		{impl.Act{Kind: impl.AcStore, At: 1, A: -3}, 0, []int{5, -3, 2}},
		{impl.Act{Kind: impl.AcLoad, At: 1}, -3, []int{5, -3, 2}},
		{impl.Act{Kind: impl.AcCas, At: 0, A: 5, B: 0}, 1, []int{0, -3, 2}},
		{impl.Act{Kind: impl.AcCas, At: 0, A: 0, B: 6}, 1, []int{6, -3, 2}},
		{impl.Act{Kind: impl.AcAdd, At: 0, A: math.MaxInt}, math.MinInt + 5, []int{math.MinInt + 5, -3, 2}},
		{impl.Act{Kind: impl.AcLoad, At: 0}, math.MinInt + 5, []int{math.MinInt + 5, -3, 2}},
	} {
		var told int
		m, told, ok = impl.Do(m, x.a)
		if told != x.told || !ok || !slices.Equal(m.Cells, x.cells) {
			t.Fatalf("act %d: Do of %+v = %v, %d, %v, want %v, %d, true", i, x.a, m.Cells, told, ok, x.cells, x.told)
		}
	}
}

// fill writes into all of the memory that an answer's row has, also that behind its end.
func fill(l []int) {
	l = l[:cap(l)]
	for i := range l {
		l[i] = -77
	}
}

func TestDoAnswersNewMemory(t *testing.T) {
	for _, a := range []impl.Act{
		{Kind: impl.AcLoad, At: 1},
		{Kind: impl.AcStore, At: 1, A: 9},
		{Kind: impl.AcCas, At: 1, A: 1003, B: 9},
		{Kind: impl.AcCas, At: 1, A: 1, B: 9},
		{Kind: impl.AcAdd, At: 1, A: 9},
		{Kind: impl.AcLoad, At: 3},
		{Kind: 9, At: 1},
	} {
		all := rowOf(6)
		m := impl.Mem{Cells: all[:3]}
		first, _, _ := impl.Do(m, a)
		second, _, _ := impl.Do(m, a)
		kept := slices.Clone(second.Cells)
		fill(first.Cells)
		if !slices.Equal(all, rowOf(6)) || len(m.Cells) != 3 {
			t.Errorf("Do of %+v: the argument is now %v", a, all)
		}
		if !slices.Equal(second.Cells, kept) {
			t.Errorf("Do of %+v: two answers share memory", a)
		}
		fill(m.Cells)
		if !slices.Equal(second.Cells, kept) {
			t.Errorf("Do of %+v: the answer hangs on the argument's memory", a)
		}
	}
}

func TestMemNew(t *testing.T) {
	for _, n := range []int{0, 1, 2, 17, 34, 299, 300} {
		m, ok := impl.MemNew(n)
		if !ok || len(m.Cells) != n {
			t.Errorf("MemNew(%d) = %d cells, %v", n, len(m.Cells), ok)
		}
		if slices.ContainsFunc(m.Cells, func(v int) bool { return v != 0 }) {
			t.Errorf("MemNew(%d) = %v", n, m.Cells)
		}
		fill(m.Cells)
		again, _ := impl.MemNew(n)
		if slices.Contains(again.Cells, -77) {
			t.Errorf("MemNew(%d) answers memory that it had given out", n)
		}
	}
	for _, n := range []int{-1, -2, -300, math.MinInt, 301, 302, 1 << 32, 1<<32 + 5, math.MaxInt} {
		if m, ok := impl.MemNew(n); len(m.Cells) != 0 || ok {
			t.Errorf("MemNew(%d) = %d cells, %v", n, len(m.Cells), ok)
		}
	}
}

func TestCellOf(t *testing.T) {
	// Also rows of more than MaxCells: of these chapter 3 speaks for acts alone.
	for _, n := range []int{0, 1, 2, 7, 300, 301, 1000} {
		cells := rowOf(n)
		m := impl.Mem{Cells: cells}
		for at, v := range rowOf(n) {
			if got := impl.CellOf(m, at); got != v {
				t.Fatalf("CellOf of %d cells at %d = %d, want %d", n, at, got, v)
			}
		}
		for _, at := range []int{-1, -2, -n - 1, n, n + 1, 1 << 32, math.MaxInt, math.MinInt} {
			if got := impl.CellOf(m, at); got != 0 {
				t.Errorf("CellOf of %d cells at %d = %d, want 0", n, at, got)
			}
		}
		if !slices.Equal(cells, rowOf(n)) {
			t.Fatalf("CellOf changed its %d cells", n)
		}
	}
	for _, v := range someInts {
		if got := impl.CellOf(impl.Mem{Cells: []int{3, v, 4}}, 1); got != v {
			t.Errorf("CellOf = %d, want %d", got, v)
		}
	}
	if got := impl.CellOf(impl.Mem{}, 0); got != 0 {
		t.Errorf("CellOf of no cells = %d", got)
	}
}

func TestSet(t *testing.T) {
	for _, n := range []int{1, 2, 7, 299, 300, 301, 1000} {
		cells := rowOf(n)
		for _, at := range []int{0, n / 2, n - 1} {
			for _, v := range someInts {
				want := rowOf(n)
				want[at] = v
				next, ok := impl.Set(impl.Mem{Cells: cells}, at, v)
				if !slices.Equal(next.Cells, want) || !ok {
					t.Fatalf("Set of %d cells, %d, %d = %v, %v", n, at, v, next.Cells, ok)
				}
				if impl.CellOf(next, at) != v {
					t.Fatalf("CellOf behind Set of %d cells, %d, %d = %d", n, at, v, impl.CellOf(next, at))
				}
			}
		}
		if !slices.Equal(cells, rowOf(n)) {
			t.Fatalf("Set changed its %d cells", n)
		}
	}
}

func TestSetRefuses(t *testing.T) {
	for _, n := range []int{0, 1, 2, 300, 301} {
		cells := rowOf(n)
		for _, at := range []int{-1, -2, -n - 1, n, n + 1, 1 << 32, math.MaxInt, math.MinInt} {
			if next, ok := impl.Set(impl.Mem{Cells: cells}, at, 5); len(next.Cells) != 0 || ok {
				t.Errorf("Set of %d cells at %d = %v, %v", n, at, next.Cells, ok)
			}
		}
		if !slices.Equal(cells, rowOf(n)) {
			t.Fatalf("Set changed its %d cells", n)
		}
	}
	if next, ok := impl.Set(impl.Mem{}, 0, 0); len(next.Cells) != 0 || ok {
		t.Errorf("Set of no cells = %v, %v", next.Cells, ok)
	}
}

func TestSetAnswersNewMemory(t *testing.T) {
	all := rowOf(6)
	m := impl.Mem{Cells: all[:3]}
	// The value that is there already, too: that is no reason to hand the argument back.
	for _, v := range []int{5, 1003} {
		first, _ := impl.Set(m, 1, v)
		second, _ := impl.Set(m, 1, v)
		fill(first.Cells)
		if !slices.Equal(all, rowOf(6)) {
			t.Errorf("writing into what Set answers changes its argument to %v", all)
		}
		if !slices.Equal(second.Cells, []int{1000, v, 1006}) {
			t.Errorf("two answers of Set share memory: %v", second.Cells)
		}
	}
}
