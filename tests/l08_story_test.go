package tests

import (
	"fmt"
	"math"
	"slices"
	"testing"

	"loop.example/g00724/impl"
)

// someTimes: times that lie beside one another, and those at the ends of 64 bits.
var someTimes = []int{0, 1, 2, -1, math.MinInt, math.MinInt + 1, math.MaxInt - 1, math.MaxInt}

// someItems: an item that is asked for at the top, further down, twice, and not at all.
var someItems = [][]int{nil, {}, {5}, {5, 2}, {2, 5}, {2, 3, 5}, {5, 5}, {2, 5, 5}, {5, 2, 5}, {2}, {2, 9}, {-1}, {-1, 5}, {math.MinInt, 5, math.MaxInt}}

// someKeys: keys that rise, with 5 first, last, between and not at all.
var someKeys = [][]int{nil, {}, {5}, {5, 9}, {2, 5}, {2, 5, 9}, {2, 9}, {6, 7}, {1, 2, 3, 4}, {-1}, {math.MinInt, math.MaxInt}, {math.MinInt, 5, math.MaxInt}, {4, 6}, places(0, 40)}

var someResults = []int{0, impl.ReOk, impl.ReEmpty, impl.ReFull, impl.ReNo, 5, -1, -4, 1<<32 + 1, math.MaxInt, math.MinInt}

// timed: the fact with these times.
func timed(f impl.Fact, begun int, ended int) impl.Fact {
	f.Begun, f.Ended = begun, ended
	return f
}

func pushTold(a int) impl.Fact { return impl.Fact{Kind: impl.StPush, A: a, Res: impl.ReOk} }

func pushRefused() impl.Fact { return impl.Fact{Kind: impl.StPush, A: impl.Own, Res: impl.ReNo} }

func popTold(v int) impl.Fact { return impl.Fact{Kind: impl.StPop, V: v, Res: impl.ReOk} }

func popOfNone() impl.Fact { return impl.Fact{Kind: impl.StPop, Res: impl.ReEmpty} }

func keyTold(kind int, a int, res int) impl.Fact { return impl.Fact{Kind: kind, A: a, Res: res} }

func putTold(turn int, a int) impl.Fact {
	return impl.Fact{Kind: impl.RiPut, A: a, Res: impl.ReOk, Turn: turn}
}

func getTold(turn int, v int) impl.Fact {
	return impl.Fact{Kind: impl.RiGet, V: v, Res: impl.ReOk, Turn: turn}
}

// The functions whose names begin with told and end with Said, and those that they call, answer what chapter 9 says, by its words alone.

func toldFactsSaid(w impl.Crew) []impl.Fact {
	var l []impl.Fact
	for i, th := range w.Threads {
		for k, c := range th.Calls {
			if !c.Done || len(th.Begun) <= k || len(th.Ended) <= k {
				continue
			}
			l = append(l, impl.Fact{Thread: i, Kind: c.Kind, A: c.A, Res: c.Res, V: c.V, Turn: c.P, Begun: th.Begun[k], Ended: th.Ended[k]})
		}
	}
	return l
}

func toldStApplySaid(items []int, f impl.Fact) ([]int, bool) {
	switch [2]int{f.Kind, f.Res} {
	case [2]int{1, 1}:
		return slices.Insert(slices.Clone(items), 0, f.A), true
	case [2]int{1, 4}:
		return items, true
	case [2]int{2, 1}:
		if slices.Index(items, f.V) == 0 {
			return items[1:], true
		}
	case [2]int{2, 2}:
		return nil, len(items) == 0
	}
	return nil, false
}

func toldLiApplySaid(keys []int, f impl.Fact) ([]int, bool) {
	there := slices.Contains(keys, f.A)
	switch [2]int{f.Kind, f.Res} {
	case [2]int{1, 1}:
		if !there {
			keys = append(slices.Clone(keys), f.A)
			slices.Sort(keys)
			return keys, true
		}
	case [2]int{2, 1}:
		if there {
			return slices.DeleteFunc(slices.Clone(keys), func(k int) bool { return k == f.A }), true
		}
	case [2]int{3, 1}, [2]int{1, 4}:
		if there {
			return keys, true
		}
	case [2]int{2, 4}, [2]int{3, 4}:
		if !there {
			return keys, true
		}
	}
	return nil, false
}

// ordersOf: all orders of the numbers from 0 to n - 1, the least first.
func ordersOf(n int) [][]int {
	if n == 0 {
		return [][]int{nil}
	}
	var all [][]int
	for first := range n {
		for _, rest := range ordersOf(n - 1) {
			order := []int{first}
			for _, k := range rest {
				if k >= first {
					k++
				}
				order = append(order, k)
			}
			all = append(all, order)
		}
	}
	return all
}

var allOrders = [][][]int{ordersOf(0), ordersOf(1), ordersOf(2), ordersOf(3), ordersOf(4), ordersOf(5), ordersOf(6), ordersOf(7), ordersOf(8)}

// timesAllow: in this order none stands ahead of one that Ended ahead of its Begun.
func timesAllow(l []impl.Fact, order []int) bool {
	for i, k := range order {
		for _, later := range order[i+1:] {
			if l[later].Ended < l[k].Begun {
				return false
			}
		}
	}
	return true
}

func endBy(what int, held []int, l []impl.Fact, order []int) ([]int, bool) {
	ok := true
	for _, k := range order {
		if what == 1 {
			held, ok = toldStApplySaid(held, l[k])
		} else {
			held, ok = toldLiApplySaid(held, l[k])
		}
		if !ok {
			return nil, false
		}
	}
	return held, true
}

func toldLinearSaid(what int, from []int, l []impl.Fact) ([]int, bool) {
	if what != 1 && what != 3 || len(l) > 8 {
		return nil, false
	}
	for _, order := range allOrders[len(l)] {
		if timesAllow(l, order) {
			if end, ok := endBy(what, from, l, order); ok {
				return end, true
			}
		}
	}
	return nil, false
}

// turnsOf: of the facts of this kind with ReOk what each Turn has; false where one has two.
func turnsOf(l []impl.Fact, kind int) (map[int]int, bool) {
	turns, times := map[int]int{}, map[int]int{}
	for _, f := range l {
		if f.Kind == kind && f.Res == 1 {
			times[f.Turn]++
			turns[f.Turn] = f.A
			if kind == 2 {
				turns[f.Turn] = f.V
			}
			if times[f.Turn] > 1 {
				return nil, false
			}
		}
	}
	for k := range len(turns) {
		if times[k] == 0 {
			return nil, false
		}
	}
	return turns, true
}

func toldRingGoodSaid(l []impl.Fact, left []int) bool {
	put, right := turnsOf(l, 1)
	got, rightToo := turnsOf(l, 2)
	if !right || !rightToo {
		return false
	}
	for turn, v := range got {
		if a, ok := put[turn]; !ok || a != v {
			return false
		}
	}
	var others []int
	for turn := range len(put) {
		if _, ok := got[turn]; !ok {
			others = append(others, put[turn])
		}
	}
	return slices.Equal(others, left)
}

func toldInTimeSaid(l []impl.Fact) []impl.Fact {
	var sorted []impl.Fact
	for _, f := range l {
		i := len(sorted)
		for i > 0 && sorted[i-1].Ended > f.Ended {
			i--
		}
		sorted = slices.Insert(sorted, i, f)
	}
	return sorted
}

// sameLinear holds Linear against what chapter 9 says, and tells whether there is an order.
func sameLinear(t *testing.T, what int, from []int, l []impl.Fact) bool {
	t.Helper()
	got, ok := impl.Linear(what, from, l)
	if want, right := toldLinearSaid(what, from, l); ok != right || !slices.Equal(got, want) {
		t.Fatalf("Linear(%d, %v, %+v) is %v, %v; want %v, %v", what, from, l, got, ok, want, right)
	}
	return ok
}

// storyNumbers: a row of numbers that is the same each time for the same seed.
func storyNumbers(seed int) func(below int) int {
	n := 99 + 77*seed
	return func(below int) int {
		n = (n*1103515245 + 12345) % 4294967296
		return n >> 8 % below
	}
}

func TestStoryConstants(t *testing.T) {
	if impl.MaxStory != 8 {
		t.Errorf("MaxStory %d", impl.MaxStory)
	}
}

func TestFacts(t *testing.T) {
	// Each number that a fact tells stands in it once, so that none can be taken for another.
	done := impl.Call{Kind: 11, A: 12, X: 13, Pc: 14, P: 15, C: 16, W: 17, Res: 18, V: 19, Done: true}
	open := impl.Call{Kind: 2, Pc: 3, P: 1, Res: 1, V: 4}
	other := impl.Call{Kind: -1, A: math.MinInt, P: math.MaxInt, Res: -3, V: math.MinInt, Done: true}
	first := impl.Fact{Thread: 0, Kind: 11, A: 12, Res: 18, V: 19, Turn: 15, Begun: 20, Ended: 21}
	odd := impl.Fact{Kind: -1, A: math.MinInt, Res: -3, V: math.MinInt, Turn: math.MaxInt}
	of := func(thread int, f impl.Fact) impl.Fact {
		f.Thread = thread
		return f
	}
	times := func(begun []int, ended []int, calls ...impl.Call) impl.Thread {
		return impl.Thread{Calls: calls, At: len(calls), Begun: begun, Ended: ended}
	}
	atAt := func(th impl.Thread, at int) impl.Thread {
		th.At = at
		return th
	}
	for _, x := range []struct {
		what string
		l    []impl.Thread
		want []impl.Fact
	}{
		{"no thread", nil, nil},
		{"threads without calls", []impl.Thread{{}, {}, {}}, nil},
		{"a thread without calls, with times", []impl.Thread{{Begun: []int{1}, Ended: []int{2}}}, nil},
		{"a call", []impl.Thread{times([]int{20}, []int{21}, done)}, []impl.Fact{first}},
		{"a call that isn't done", []impl.Thread{times([]int{20}, []int{21}, open)}, nil},
		{"of the second thread", []impl.Thread{{}, times([]int{7}, []int{8}, other)}, []impl.Fact{of(1, timed(odd, 7, 8))}},
		{"thread by thread, in order", []impl.Thread{times([]int{20, 9, 3}, []int{21, 8, 1}, done, open, other), {}, times([]int{5, 0}, []int{6, 2}, other, done)}, []impl.Fact{
			first, timed(odd, 3, 1), of(2, timed(odd, 5, 6)), of(2, timed(first, 0, 2))}},
		{"two alike", []impl.Thread{times([]int{20, 20}, []int{21, 21}, done, done)}, []impl.Fact{first, first}},
		{"no Begun", []impl.Thread{times(nil, []int{21}, done)}, nil},
		{"no Ended", []impl.Thread{times([]int{20}, nil, done)}, nil},
		{"neither", []impl.Thread{times(nil, nil, done)}, nil},
		{"a Begun less", []impl.Thread{times([]int{20}, []int{21, 22}, done, other)}, []impl.Fact{first}},
		{"an Ended less", []impl.Thread{times([]int{20, 22}, []int{21}, done, other)}, []impl.Fact{first}},
		{"a Begun more", []impl.Thread{times([]int{20, 30}, []int{21}, done)}, []impl.Fact{first}},
		{"an Ended more", []impl.Thread{times([]int{20}, []int{21, 30, 31}, done)}, []impl.Fact{first}},
		{"both more", []impl.Thread{times([]int{20, 30}, []int{21, 31}, done)}, []impl.Fact{first}},
		{"At ahead of one that is done", []impl.Thread{atAt(times([]int{20}, []int{21}, done), 0)}, []impl.Fact{first}},
		{"At behind one that isn't done", []impl.Thread{atAt(times([]int{20, 5}, []int{21, 6}, done, open), 2)}, []impl.Fact{first}},
		{"At below 0", []impl.Thread{atAt(times([]int{20}, []int{21}, done), math.MinInt)}, []impl.Fact{first}},
		{"At beyond the calls", []impl.Thread{atAt(times([]int{20}, []int{21}, done), math.MaxInt)}, []impl.Fact{first}},
		{"one that is done behind one that isn't", []impl.Thread{atAt(times([]int{-1, 20}, []int{-1, 21}, open, done), 0)}, []impl.Fact{first}},
		{"Begun behind Ended", []impl.Thread{times([]int{math.MaxInt}, []int{math.MinInt}, done)}, []impl.Fact{timed(first, math.MaxInt, math.MinInt)}},
		{"more calls than a thread may have", []impl.Thread{times(slices.Repeat([]int{20}, 30), slices.Repeat([]int{21}, 29), slices.Repeat([]impl.Call{done}, 31)...)}, slices.Repeat([]impl.Fact{first}, 29)},
	} {
		// Whether the crew is right doesn't count.
		for _, w := range []impl.Crew{{Threads: x.l}, {What: 9, Size: -4, Threads: x.l, Clock: -1}, {What: 1, Size: 1, Mem: impl.Mem{Cells: []int{0, 0}}, Threads: x.l, Clock: 99}} {
			if got := impl.Facts(w); !slices.Equal(got, x.want) {
				t.Errorf("%s: Facts(%+v) is %+v", x.what, w, got)
			}
		}
	}
	many := slices.Repeat([]impl.Thread{times([]int{20}, []int{21}, done)}, 9)
	for i, f := range impl.Facts(impl.Crew{Threads: many}) {
		if f.Thread != i {
			t.Errorf("the fact %d of nine threads: %+v", i, f)
		}
	}
}

func TestFactsOfRuns(t *testing.T) {
	stack := newCrew(t, impl.CrStack, 2, true, makes(popOf(), ownPush(), ownPush()), makes(popOf()))
	ring := newCrew(t, impl.CrRing, 2, false, makes(putOf(7), putOf(8), putOf(9)), makes(getOf(), getOf()))
	list := newCrew(t, impl.CrList, 2, false, makes(addOf(5, 1), addOf(6, 0), hasOf(6)), makes(delOf(6)))
	for _, x := range []struct {
		w     impl.Crew
		picks []int
		want  []impl.Fact
	}{
		{stack, nil, nil},
		{stack, []int{0, 0, 1}, nil},
		{stack, []int{0, 0, 0, 1}, []impl.Fact{{Thread: 0, Kind: impl.StPop, V: 0, Res: impl.ReOk, Begun: 0, Ended: 2}}},
		{stack, []int{0, 1, 1, 1, 0, 0, 0, 0, 0, 0, 0, 0, 0}, []impl.Fact{
			{Thread: 0, Kind: impl.StPop, V: 1, Res: impl.ReOk, Begun: 0, Ended: 8},
			{Thread: 0, Kind: impl.StPush, A: 1, Res: impl.ReOk, Begun: 9, Ended: 11},
			{Thread: 0, Kind: impl.StPush, A: -1, Res: impl.ReNo, Begun: 12, Ended: 12},
			{Thread: 1, Kind: impl.StPop, V: 0, Res: impl.ReOk, Begun: 1, Ended: 3}}},
		{ring, []int{0, 0, 0, 0}, nil},
		{ring, []int{0, 0, 0, 0, 1, 1, 0, 0, 0, 0, 0, 0}, []impl.Fact{
			{Thread: 0, Kind: impl.RiPut, A: 7, Res: impl.ReOk, Turn: 0, Begun: 0, Ended: 6},
			{Thread: 0, Kind: impl.RiPut, A: 8, Res: impl.ReOk, Turn: 1, Begun: 7, Ended: 11},
			{Thread: 1, Kind: impl.RiGet, Res: impl.ReEmpty, Turn: 0, Begun: 4, Ended: 5}}},
		{ring, append(make([]int, 12), 1, 1), []impl.Fact{
			{Thread: 0, Kind: impl.RiPut, A: 7, Res: impl.ReOk, Turn: 0, Begun: 0, Ended: 4},
			{Thread: 0, Kind: impl.RiPut, A: 8, Res: impl.ReOk, Turn: 1, Begun: 5, Ended: 9},
			{Thread: 0, Kind: impl.RiPut, A: 9, Res: impl.ReFull, Turn: 2, Begun: 10, Ended: 11}}},
		{list, make([]int, 13), []impl.Fact{
			{Thread: 0, Kind: impl.LiAdd, A: 5, Res: impl.ReOk, Begun: 0, Ended: 3},
			{Thread: 0, Kind: impl.LiAdd, A: 6, V: 5, Res: impl.ReOk, Turn: 4, Begun: 4, Ended: 10}}},
		{list, append(make([]int, 17), 0, 0), []impl.Fact{
			{Thread: 0, Kind: impl.LiAdd, A: 5, Res: impl.ReOk, Begun: 0, Ended: 3},
			{Thread: 0, Kind: impl.LiAdd, A: 6, V: 5, Res: impl.ReOk, Turn: 4, Begun: 4, Ended: 10},
			{Thread: 0, Kind: impl.LiHas, A: 6, V: 6, Res: impl.ReOk, Turn: 4, Begun: 11, Ended: 16}}},
	} {
		w := impl.CrewRun(x.w, x.picks)
		if got := impl.Facts(w); !slices.Equal(got, x.want) {
			t.Errorf("picks %v: %+v, want %+v", x.picks, got, x.want)
		}
	}
}

func TestFactsOfCrewsThatArentRight(t *testing.T) {
	l := crewChanges()
	for i, x := range l {
		w := halfDone()
		x.do(&w)
		if got := impl.Facts(w); !slices.Equal(got, toldFactsSaid(w)) {
			t.Errorf("%s: Facts(%+v) is %+v", x.what, w, got)
		}
		for _, y := range l[:i] {
			w := halfDone()
			// The change x may find that y left nothing to change.
			if y.do(&w); len(w.Threads) >= 3 && len(w.Threads[0].Calls) == 3 && len(w.Threads[0].Begun) >= 3 && len(w.Threads[0].Ended) >= 3 && len(w.Threads[2].Calls) == 2 && len(w.Threads[2].Begun) == 2 && len(w.Threads[2].Ended) == 2 && len(w.Mem.Cells) >= 3 {
				if x.do(&w); !slices.Equal(impl.Facts(w), toldFactsSaid(w)) {
					t.Errorf("%s, %s: Facts(%+v) is %+v", y.what, x.what, w, impl.Facts(w))
				}
			}
		}
	}
}

func TestStApply(t *testing.T) {
	for _, x := range []struct {
		what  string
		items []int
		f     impl.Fact
		want  []int
		ok    bool
	}{
		{"a push on nothing", nil, pushTold(4), []int{4}, true},
		{"a push on top", []int{9, 2}, pushTold(4), []int{4, 9, 2}, true},
		{"a push of what is there", []int{4, 2}, pushTold(2), []int{2, 4, 2}, true},
		{"a push of what is on top", []int{4}, pushTold(4), []int{4, 4}, true},
		{"a push of what is no place", []int{4}, pushTold(-7), []int{-7, 4}, true},
		{"a push that was refused", []int{9, 2}, pushRefused(), []int{9, 2}, true},
		{"a push that was refused on nothing", nil, pushRefused(), nil, true},
		{"a push of a place that was refused", []int{9, 2}, impl.Fact{Kind: impl.StPush, A: 9, V: 3, Res: impl.ReNo}, []int{9, 2}, true},
		{"a push that told of none", nil, impl.Fact{Kind: impl.StPush, Res: impl.ReEmpty}, nil, false},
		{"a push that told of too many", []int{1}, impl.Fact{Kind: impl.StPush, A: 1, Res: impl.ReFull}, nil, false},
		{"a push that told nothing", []int{1}, impl.Fact{Kind: impl.StPush, A: 1}, nil, false},
		{"a pop of the last", []int{9}, popTold(9), nil, true},
		{"a pop from the top", []int{9, 2}, popTold(9), []int{2}, true},
		{"a pop of what is there twice", []int{9, 9, 2}, popTold(9), []int{9, 2}, true},
		{"a pop of what is on top and further down", []int{9, 2, 9}, popTold(9), []int{2, 9}, true},
		{"a pop from further down", []int{9, 2}, popTold(2), nil, false},
		{"a pop of what isn't there", []int{9, 2}, popTold(3), nil, false},
		{"a pop from nothing", nil, popTold(0), nil, false},
		{"a pop of what its A tells", []int{9}, impl.Fact{Kind: impl.StPop, A: 9, V: 1, Res: impl.ReOk}, nil, false},
		{"a pop of none", nil, popOfNone(), nil, true},
		{"a pop of none with a V", []int{}, impl.Fact{Kind: impl.StPop, V: 3, Res: impl.ReEmpty}, nil, true},
		{"a pop of none where there is one", []int{9}, popOfNone(), nil, false},
		{"a pop of none where there is a 0", []int{0}, popOfNone(), nil, false},
		{"a pop that was refused", nil, impl.Fact{Kind: impl.StPop, Res: impl.ReNo}, nil, false},
		{"a pop that was refused where there is one", []int{9}, impl.Fact{Kind: impl.StPop, V: 9, Res: impl.ReNo}, nil, false},
		{"a pop that told of too many", nil, impl.Fact{Kind: impl.StPop, Res: impl.ReFull}, nil, false},
		{"a kind that is none", []int{9}, impl.Fact{Kind: 3, A: 9, V: 9, Res: impl.ReOk}, nil, false},
		{"nothing", nil, impl.Fact{}, nil, false},
		// Who made it and when doesn't count.
		{"a push of anybody", []int{9}, impl.Fact{Thread: -3, Kind: impl.StPush, A: 4, Res: impl.ReOk, V: 7, Turn: 8, Begun: 5, Ended: 1}, []int{4, 9}, true},
		{"a pop of anybody", []int{9}, impl.Fact{Thread: 77, Kind: impl.StPop, A: 4, Res: impl.ReOk, V: 9, Turn: -8, Begun: -5, Ended: -9}, nil, true},
	} {
		if got, ok := impl.StApply(x.items, x.f); ok != x.ok || !slices.Equal(got, x.want) {
			t.Errorf("%s: StApply(%v, %+v) is %v, %v", x.what, x.items, x.f, got, ok)
		}
	}
}

func TestLiApply(t *testing.T) {
	const add, del, has, ok, no = impl.LiAdd, impl.LiDel, impl.LiHas, impl.ReOk, impl.ReNo
	for _, x := range []struct {
		what string
		keys []int
		f    impl.Fact
		want []int
		ok   bool
	}{
		{"the first adding", nil, keyTold(add, 4, ok), []int{4}, true},
		{"an adding ahead", []int{2, 9}, keyTold(add, 1, ok), []int{1, 2, 9}, true},
		{"an adding between", []int{2, 9}, keyTold(add, 4, ok), []int{2, 4, 9}, true},
		{"an adding behind", []int{2, 9}, keyTold(add, 10, ok), []int{2, 9, 10}, true},
		{"an adding beside others", []int{3, 5}, keyTold(add, 4, ok), []int{3, 4, 5}, true},
		{"an adding below 0", []int{-9, 0}, keyTold(add, -1, ok), []int{-9, -1, 0}, true},
		{"an adding at the beginning of 64 bits", []int{math.MinInt + 1, math.MaxInt}, keyTold(add, math.MinInt, ok), []int{math.MinInt, math.MinInt + 1, math.MaxInt}, true},
		{"an adding at the end of 64 bits", []int{math.MinInt, 0}, keyTold(add, math.MaxInt, ok), []int{math.MinInt, 0, math.MaxInt}, true},
		{"an adding of what is there", []int{2, 9}, keyTold(add, 9, ok), nil, false},
		{"an adding that told of one that is there", []int{2, 9}, keyTold(add, 9, no), []int{2, 9}, true},
		{"an adding that told of one that isn't there", []int{2, 9}, keyTold(add, 4, no), nil, false},
		{"an adding that told of one where there is none", nil, keyTold(add, 0, no), nil, false},
		{"a deleting of the last", []int{4}, keyTold(del, 4, ok), nil, true},
		{"a deleting of the first", []int{2, 4, 9}, keyTold(del, 2, ok), []int{4, 9}, true},
		{"a deleting from between", []int{2, 4, 9}, keyTold(del, 4, ok), []int{2, 9}, true},
		{"a deleting from behind", []int{2, 4, 9}, keyTold(del, 9, ok), []int{2, 4}, true},
		{"a deleting of what isn't there", []int{2, 9}, keyTold(del, 4, ok), nil, false},
		{"a deleting from nothing", nil, keyTold(del, 0, ok), nil, false},
		{"a deleting that told of none", []int{2, 9}, keyTold(del, 4, no), []int{2, 9}, true},
		{"a deleting that told of none where there is none", nil, keyTold(del, 4, no), nil, true},
		{"a deleting that told of none where it is", []int{2, 9}, keyTold(del, 9, no), nil, false},
		{"an asking", []int{2, 9}, keyTold(has, 2, ok), []int{2, 9}, true},
		{"an asking of the last", []int{2, 9}, keyTold(has, 9, ok), []int{2, 9}, true},
		{"an asking for what isn't there", []int{2, 9}, keyTold(has, 4, ok), nil, false},
		{"an asking of nothing", nil, keyTold(has, 0, ok), nil, false},
		{"an asking that told of none", []int{2, 9}, keyTold(has, 4, no), []int{2, 9}, true},
		{"an asking that told of none where there is none", nil, keyTold(has, 4, no), nil, true},
		{"an asking that told of none where it is", []int{2, 9}, keyTold(has, 2, no), nil, false},
		{"an adding that told of too many", []int{2}, keyTold(add, 4, impl.ReFull), nil, false},
		{"an asking that told of nothing at all", nil, keyTold(has, 4, impl.ReEmpty), nil, false},
		{"an asking that told nothing", []int{4}, keyTold(has, 4, 0), nil, false},
		{"a kind that is none", []int{4}, keyTold(4, 4, ok), nil, false},
		{"a kind that is none, telling of none", []int{2}, keyTold(0, 4, no), nil, false},
		{"nothing", nil, impl.Fact{}, nil, false},
		// Who made it, what was read and when doesn't count.
		{"an adding by anybody", []int{9}, impl.Fact{Thread: -3, Kind: add, A: 4, Res: ok, V: 9, Turn: 8, Begun: 5, Ended: 1}, []int{4, 9}, true},
		{"a deleting by anybody", []int{4, 9}, impl.Fact{Thread: 77, Kind: del, A: 4, Res: ok, V: 9, Turn: -8, Begun: -5, Ended: -9}, []int{9}, true},
	} {
		if got, ok := impl.LiApply(x.keys, x.f); ok != x.ok || !slices.Equal(got, x.want) {
			t.Errorf("%s: LiApply(%v, %+v) is %v, %v", x.what, x.keys, x.f, got, ok)
		}
	}
}

func TestApplyAtManyFacts(t *testing.T) {
	for _, kind := range append([]int{1, 2, 3}, noKinds...) {
		for _, res := range someResults {
			for _, a := range append([]int{5, 9, 3}, someInts...) {
				for _, v := range append([]int{5, 9, 3, a}, someTimes...) {
					f := impl.Fact{Thread: 3, Kind: kind, A: a, Res: res, V: v, Turn: 5, Begun: 7, Ended: 6}
					for _, items := range someItems {
						got, ok := impl.StApply(items, f)
						if want, right := toldStApplySaid(items, f); ok != right || !slices.Equal(got, want) {
							t.Fatalf("StApply(%v, %+v) is %v, %v; want %v, %v", items, f, got, ok, want, right)
						}
					}
					for _, keys := range someKeys {
						got, ok := impl.LiApply(keys, f)
						if want, right := toldLiApplySaid(keys, f); ok != right || !slices.Equal(got, want) {
							t.Fatalf("LiApply(%v, %+v) is %v, %v; want %v, %v", keys, f, got, ok, want, right)
						}
					}
				}
			}
		}
	}
}

func TestKeysRiseBehindManyFacts(t *testing.T) {
	next := storyNumbers(1)
	var keys []int
	told := map[[2]int]int{}
	for range 4000 {
		f := keyTold(1+next(3), next(30)-15, 1+3*next(2))
		now, ok := impl.LiApply(keys, f)
		if want, right := toldLiApplySaid(keys, f); ok != right || !slices.Equal(now, want) {
			t.Fatalf("LiApply(%v, %+v) is %v, %v", keys, f, now, ok)
		}
		if ok {
			keys = now
			told[[2]int{f.Kind, f.Res}]++
		}
		for i := range keys {
			if i > 0 && keys[i-1] >= keys[i] {
				t.Fatalf("the keys %v don't rise", keys)
			}
		}
	}
	if len(told) != 6 {
		t.Errorf("what was told: %v", told)
	}
}

// linearCase: a story, and what chapter 9 says of it.
type linearCase struct {
	what string
	from []int
	l    []impl.Fact
	want []int
	ok   bool
}

func linearCases(t *testing.T, object int, l []linearCase) {
	t.Helper()
	for _, x := range l {
		if got, ok := impl.Linear(object, x.from, x.l); ok != x.ok || !slices.Equal(got, x.want) {
			t.Errorf("%s: Linear(%d, %v, %+v) is %v, %v", x.what, object, x.from, x.l, got, ok)
		}
		sameLinear(t, object, x.from, x.l)
	}
}

func TestLinearOfAStack(t *testing.T) {
	linearCases(t, impl.CrStack, []linearCase{
		{"no fact", nil, nil, nil, true},
		{"no fact, from items", []int{3, 1, 3}, []impl.Fact{}, []int{3, 1, 3}, true},
		{"a push", nil, []impl.Fact{timed(pushTold(4), 0, 2)}, []int{4}, true},
		{"a push on items", []int{7, 8}, []impl.Fact{timed(pushTold(4), 0, 2)}, []int{4, 7, 8}, true},
		{"a pop of what isn't there", []int{7, 8}, []impl.Fact{timed(popTold(8), 0, 2)}, nil, false},
		{"a fact that ended ahead of its own beginning", []int{7}, []impl.Fact{timed(popTold(7), 5, 1)}, nil, true},
		{"two of them", nil, []impl.Fact{timed(popTold(7), 5, 1), timed(pushTold(7), 5, 1)}, nil, false},
		{"the pop listed ahead of its push", nil, []impl.Fact{timed(popTold(7), 1, 3), timed(pushTold(7), 0, 2)}, nil, true},
		{"the pop ended at the beginning of its push", nil, []impl.Fact{timed(popTold(7), 0, 2), timed(pushTold(7), 2, 4)}, nil, true},
		{"the pop ended ahead of the beginning of its push", nil, []impl.Fact{timed(popTold(7), 0, 2), timed(pushTold(7), 3, 4)}, nil, false},
		{"the pop ended behind the beginning of its push", nil, []impl.Fact{timed(popTold(7), 0, 2), timed(pushTold(7), 1, 4)}, nil, true},
		{"the push ended ahead of the beginning of its pop", nil, []impl.Fact{timed(popTold(7), 3, 4), timed(pushTold(7), 0, 2)}, nil, true},
		{"a pop of none as long as its push lasts", nil, []impl.Fact{timed(pushTold(7), 0, 5), timed(popOfNone(), 2, 3)}, []int{7}, true},
		{"a pop of none behind a push", nil, []impl.Fact{timed(pushTold(7), 0, 1), timed(popOfNone(), 2, 3)}, nil, false},
		{"two orders, the first listed first", nil, []impl.Fact{timed(pushTold(1), 0, 9), timed(pushTold(2), 0, 9)}, []int{2, 1}, true},
		{"two orders, the other listed first", nil, []impl.Fact{timed(pushTold(2), 0, 9), timed(pushTold(1), 0, 9)}, []int{1, 2}, true},
		{"two orders, but the times know one", nil, []impl.Fact{timed(pushTold(1), 5, 9), timed(pushTold(2), 0, 4)}, []int{1, 2}, true},
		{"the least place first, as far as it leads to an end", nil, []impl.Fact{timed(pushTold(1), 0, 9), timed(popTold(2), 0, 9), timed(pushTold(2), 0, 9)}, []int{1}, true},
		{"the least place leads to none", nil, []impl.Fact{timed(pushTold(1), 0, 9), timed(pushTold(2), 0, 9), timed(popTold(1), 0, 9), timed(popOfNone(), 0, 9)}, []int{2}, true},
		{"the least place leads to none far behind", nil, []impl.Fact{timed(pushTold(1), 0, 9), timed(pushTold(2), 0, 9), timed(popTold(1), 10, 11), timed(popTold(2), 12, 13)}, nil, true},
		{"and there is no other", nil, []impl.Fact{timed(pushTold(1), 0, 1), timed(pushTold(2), 2, 9), timed(popTold(1), 10, 11), timed(popTold(2), 12, 13)}, nil, false},
		{"the first order of three", []int{5}, []impl.Fact{timed(pushTold(1), 0, 9), timed(pushTold(2), 0, 9), timed(pushTold(3), 0, 9)}, []int{3, 2, 1, 5}, true},
		{"the times turn three around", []int{5}, []impl.Fact{timed(pushTold(1), 8, 9), timed(pushTold(2), 4, 5), timed(pushTold(3), 0, 1)}, []int{1, 2, 3, 5}, true},
		{"a push that was refused", nil, []impl.Fact{timed(pushRefused(), 0, 0), timed(pushTold(2), 1, 4)}, []int{2}, true},
		{"at the ends of 64 bits", nil, []impl.Fact{timed(popTold(1), math.MaxInt, math.MaxInt), timed(pushTold(1), math.MinInt, math.MinInt)}, nil, true},
		{"at the ends of 64 bits, turned", nil, []impl.Fact{timed(popTold(1), math.MinInt, math.MinInt), timed(pushTold(1), math.MaxInt, math.MaxInt)}, nil, false},
		{"from one end to the other", nil, []impl.Fact{timed(popTold(1), math.MinInt, math.MaxInt), timed(pushTold(1), math.MaxInt, math.MaxInt)}, nil, true},
		{"of one thread, and yet at once", nil, []impl.Fact{{Thread: 3, Kind: 2, V: 4, Res: 1, Turn: 9, Begun: 0, Ended: 2}, {Thread: 3, Kind: 1, A: 4, Res: 1, Turn: -9, Begun: 1, Ended: 3}}, nil, true},
		{"a kind that is none", []int{1}, []impl.Fact{timed(pushTold(1), 0, 1), {Kind: 3, A: 1, Res: 1, Begun: 2, Ended: 3}}, nil, false},
	})
}

func TestLinearOfAList(t *testing.T) {
	const add, del, has, ok, no = impl.LiAdd, impl.LiDel, impl.LiHas, impl.ReOk, impl.ReNo
	key := func(kind int, res int, begun int, ended int) impl.Fact {
		return timed(keyTold(kind, 5, res), begun, ended)
	}
	linearCases(t, impl.CrList, []linearCase{
		{"no fact", nil, nil, nil, true},
		{"no fact, from keys", []int{1, 3}, []impl.Fact{}, []int{1, 3}, true},
		{"an adding", []int{1, 9}, []impl.Fact{key(add, ok, 0, 1)}, []int{1, 5, 9}, true},
		{"two addings of one key at once", nil, []impl.Fact{key(add, no, 0, 9), key(add, ok, 1, 8)}, []int{5}, true},
		{"two addings of one key, the wrong one first", nil, []impl.Fact{key(add, no, 0, 1), key(add, ok, 2, 8)}, nil, false},
		{"two addings of one key that both came", nil, []impl.Fact{key(add, ok, 0, 9), key(add, ok, 1, 8)}, nil, false},
		{"a deleting between", nil, []impl.Fact{key(add, ok, 0, 9), key(add, ok, 1, 8), key(del, ok, 3, 4)}, []int{5}, true},
		{"a deleting that ended ahead of both", nil, []impl.Fact{key(add, ok, 2, 9), key(add, ok, 2, 8), key(del, ok, 0, 1)}, nil, false},
		{"an asking that saw it ahead of one that didn't", nil, []impl.Fact{key(has, ok, 0, 1), key(has, no, 2, 3), key(add, ok, 0, 9)}, nil, false},
		{"an asking that saw it behind one that didn't", nil, []impl.Fact{key(has, ok, 2, 3), key(has, no, 0, 1), key(add, ok, 0, 9)}, []int{5}, true},
		{"a deleting ahead of an adding", []int{5}, []impl.Fact{key(add, ok, 0, 9), key(del, ok, 0, 9)}, []int{5}, true},
		{"a deleting behind an adding", nil, []impl.Fact{key(del, ok, 0, 9), key(add, ok, 0, 9)}, nil, true},
		{"a deleting of what isn't there", []int{4, 6}, []impl.Fact{key(del, no, 0, 9), key(has, no, 0, 9)}, []int{4, 6}, true},
		{"a stack's facts", nil, []impl.Fact{timed(popOfNone(), 0, 1)}, nil, false},
	})
}

func TestLinearOfOtherObjects(t *testing.T) {
	add := timed(keyTold(1, 5, impl.ReOk), 0, 1)
	for _, l := range [][]impl.Fact{nil, {}, {add}, {add, timed(putTold(0, 5), 0, 3)}} {
		for _, from := range [][]int{nil, {}, {1, 3}} {
			for _, what := range append([]int{impl.CrRing}, noWhats...) {
				if got, ok := impl.Linear(what, from, l); ok || len(got) != 0 {
					t.Errorf("Linear(%d, %v, %+v) is %v, %v", what, from, l, got, ok)
				}
			}
			for what := 0; what <= 4; what++ {
				sameLinear(t, what, from, l)
			}
		}
	}
	// The same fact is a push on a stack and an adding to a list.
	if got, ok := impl.Linear(impl.CrStack, []int{1, 3}, []impl.Fact{add}); !ok || !slices.Equal(got, []int{5, 1, 3}) {
		t.Errorf("a push: %v, %v", got, ok)
	}
	if got, ok := impl.Linear(impl.CrList, []int{1, 3}, []impl.Fact{add}); !ok || !slices.Equal(got, []int{1, 3, 5}) {
		t.Errorf("an adding: %v, %v", got, ok)
	}
}

func TestLinearOfAsManyFactsAsThereMayBe(t *testing.T) {
	for n := range 14 {
		var pushes, adds, turned, refused []impl.Fact
		for k := range n {
			pushes = append(pushes, timed(pushTold(k), 0, 99))
			adds = append(adds, timed(keyTold(impl.LiAdd, -k, impl.ReOk), 0, 99))
			// Of these the last listed must come first, and so on: the last order of all is the only one.
			turned = append(turned, timed(popTold(n-1-k), 0, 99))
			refused = append(refused, timed(pushRefused(), k, k))
		}
		down := places(0, n)
		slices.Reverse(down)
		minus := slices.Clone(down)
		for i := range minus {
			minus[i] = -minus[i]
		}
		for _, x := range []struct {
			what int
			from []int
			l    []impl.Fact
			want []int
		}{{1, nil, pushes, down}, {3, nil, adds, minus}, {1, places(0, n), turned, nil}, {1, []int{4}, refused, []int{4}}} {
			got, ok := impl.Linear(x.what, x.from, x.l)
			if ok != (n <= 8) || ok && !slices.Equal(got, x.want) || !ok && len(got) != 0 {
				t.Errorf("%d facts: Linear(%d, %v) is %v, %v", n, x.what, x.from, got, ok)
			}
			if len(x.l) > 0 {
				// One that may never be makes all orders vain.
				hurt := slices.Clone(x.l)
				hurt[0] = timed(impl.Fact{Kind: 9}, 0, 99)
				if got, ok := impl.Linear(x.what, x.from, hurt); ok || len(got) != 0 {
					t.Errorf("%d facts, one hurt: Linear(%d, %v) is %v, %v", n, x.what, x.from, got, ok)
				}
			}
		}
	}
}

// TestLinearWhereNoOrderLeadsToAnEnd: eight facts at once, of which the last alone can't be: all orders of the others are tried.
func TestLinearWhereNoOrderLeadsToAnEnd(t *testing.T) {
	var l []impl.Fact
	for k := range 7 {
		l = append(l, timed(pushTold(k), 0, 99))
	}
	l = append(l, timed(popTold(77), 0, 99))
	if got, ok := impl.Linear(impl.CrStack, []int{77}, l); !ok || !slices.Equal(got, []int{6, 5, 4, 3, 2, 1, 0}) {
		t.Errorf("the pop first: %v, %v", got, ok)
	}
	if got, ok := impl.Linear(impl.CrStack, []int{76}, l); ok || len(got) != 0 {
		t.Errorf("no order: %v, %v", got, ok)
	}
}

func TestLinearOfAllSmallStories(t *testing.T) {
	kinds := map[int][]impl.Fact{
		impl.CrStack: {pushTold(1), pushTold(2), pushRefused(), popTold(1), popTold(2), popOfNone()},
		impl.CrList:  {keyTold(1, 1, 1), keyTold(1, 1, 4), keyTold(2, 1, 1), keyTold(2, 1, 4), keyTold(3, 1, 1), keyTold(3, 1, 4), keyTold(1, 2, 1)},
	}
	for what, told := range kinds {
		var all []impl.Fact
		for _, f := range told {
			for _, times := range [][2]int{{0, 0}, {0, 1}, {1, 1}, {1, 2}, {2, 0}} {
				all = append(all, timed(f, times[0], times[1]))
			}
		}
		good := 0
		for _, a := range all {
			for _, b := range all {
				for i, c := range all {
					from := [][]int{nil, {1}, {1, 2}}[i%3]
					if sameLinear(t, what, from, []impl.Fact{a, b, c}) {
						good++
					}
				}
				sameLinear(t, what, []int{2}, []impl.Fact{a, b})
			}
		}
		if good < 500 || good > len(all)*len(all)*len(all)-500 {
			t.Errorf("of the object %d %d stories are good", what, good)
		}
	}
}

// someStory: facts of which each is told by an object that took them one after the other, listed in another order, with times around the one at which it was taken.
func someStory(what int, from []int, n int, next func(below int) int) []impl.Fact {
	var l []impl.Fact
	for k := 0; k < n; {
		f := impl.Fact{Thread: next(3), Kind: 1 + next(2), A: next(3), Res: []int{1, 1, 2, 4}[next(4)], V: next(3), Turn: next(9)}
		if what == impl.CrList {
			f.Kind, f.Res = 1+next(3), 1+3*next(2)
		}
		if now, ok := endBy(what, from, []impl.Fact{f}, []int{0}); ok {
			from = now
			l = append(l, timed(f, 4*k-next(8), 4*k+next(8)))
			k++
		}
	}
	for i := range l {
		k := next(i + 1)
		l[i], l[k] = l[k], l[i]
	}
	return l
}

func TestLinearOfManyStories(t *testing.T) {
	good, bad := map[int]int{}, map[int]int{}
	for _, what := range []int{impl.CrStack, impl.CrList} {
		for seed := range 1500 {
			next := storyNumbers(seed)
			from := [][]int{nil, {0}, {0, 1}, {0, 1, 2}}[seed%4]
			n := seed % 7
			if seed%50 == 0 {
				n = 8
			}
			l := someStory(what, from, n, next)
			if !sameLinear(t, what, from, l) {
				t.Fatalf("Linear(%d, %v, %+v) is false", what, from, l)
			}
			if n == 0 {
				continue
			}
			hurt := slices.Clone(l)
			i := next(n)
			switch seed % 5 {
			case 0:
				hurt[i].Res = 5 - hurt[i].Res
			case 1:
				hurt[i].A, hurt[i].V = hurt[i].A+1, hurt[i].V+1
			case 2:
				hurt[i].Begun += 6
				hurt[i].Ended += 6
			case 3:
				hurt[i] = hurt[next(n)]
			default:
				hurt[i].Kind = 1 + hurt[i].Kind%2
			}
			if sameLinear(t, what, from, hurt) {
				good[what]++
			} else {
				bad[what]++
			}
		}
	}
	for _, what := range []int{impl.CrStack, impl.CrList} {
		if good[what] < 50 || bad[what] < 50 {
			t.Errorf("of the object %d %d stories that were hurt are good, %d aren't", what, good[what], bad[what])
		}
	}
}

func TestLinearAtManyTimes(t *testing.T) {
	for _, begun := range someTimes {
		for _, ended := range someTimes {
			for _, other := range someTimes {
				for _, end := range someTimes {
					push, pop := timed(pushTold(3), begun, ended), timed(popTold(3), other, end)
					sameLinear(t, impl.CrStack, nil, []impl.Fact{push, pop})
					sameLinear(t, impl.CrStack, nil, []impl.Fact{pop, push})
					sameLinear(t, impl.CrStack, []int{1}, []impl.Fact{timed(pushTold(2), begun, ended), timed(pushTold(3), other, end)})
					sameLinear(t, impl.CrList, nil, []impl.Fact{timed(keyTold(impl.LiHas, 4, impl.ReNo), begun, ended), timed(keyTold(impl.LiAdd, 4, impl.ReOk), other, end)})
				}
			}
		}
	}
}

func TestRingGood(t *testing.T) {
	full := impl.Fact{Kind: impl.RiPut, A: 5, Res: impl.ReFull, Turn: 0}
	empty := impl.Fact{Kind: impl.RiGet, Res: impl.ReEmpty, Turn: 0}
	for _, x := range []struct {
		what string
		l    []impl.Fact
		left []int
		want bool
	}{
		{"no fact", nil, nil, true},
		{"no fact, nothing left", []impl.Fact{}, []int{}, true},
		{"no fact, but one left", nil, []int{0}, false},
		{"a put", []impl.Fact{putTold(0, 5)}, []int{5}, true},
		{"a put, nothing left", []impl.Fact{putTold(0, 5)}, nil, false},
		{"a put, another left", []impl.Fact{putTold(0, 5)}, []int{6}, false},
		{"a put, left twice", []impl.Fact{putTold(0, 5)}, []int{5, 5}, false},
		{"a put of 0", []impl.Fact{putTold(0, 0)}, []int{0}, true},
		{"a put of 0, nothing left", []impl.Fact{putTold(0, 0)}, nil, false},
		{"a put and its get", []impl.Fact{putTold(0, 5), getTold(0, 5)}, nil, true},
		{"a get and its put", []impl.Fact{getTold(0, 5), putTold(0, 5)}, nil, true},
		{"a put and its get, and it is left", []impl.Fact{putTold(0, 5), getTold(0, 5)}, []int{5}, false},
		{"a put and the get of another", []impl.Fact{putTold(0, 5), getTold(0, 6)}, nil, false},
		{"a get without a put", []impl.Fact{getTold(0, 0)}, nil, false},
		{"a get of 5 without a put", []impl.Fact{getTold(0, 5)}, []int{5}, false},
		{"a get of the number behind", []impl.Fact{putTold(0, 5), getTold(1, 5)}, nil, false},
		{"two puts, the second was got", []impl.Fact{putTold(0, 5), putTold(1, 6), getTold(1, 6)}, []int{5}, false},
		{"two puts, the first was got", []impl.Fact{putTold(0, 5), putTold(1, 6), getTold(0, 5)}, []int{6}, true},
		{"two puts, the first left", []impl.Fact{putTold(0, 5), putTold(1, 6), getTold(0, 5)}, []int{5}, false},
		{"two puts, both left", []impl.Fact{putTold(0, 5), putTold(1, 6)}, []int{5, 6}, true},
		{"two puts, listed in another order", []impl.Fact{putTold(1, 6), putTold(0, 5)}, []int{5, 6}, true},
		{"two puts, left in another order", []impl.Fact{putTold(0, 5), putTold(1, 6)}, []int{6, 5}, false},
		{"two puts, left in the order of the list", []impl.Fact{putTold(1, 6), putTold(0, 5)}, []int{6, 5}, false},
		{"two puts, one left", []impl.Fact{putTold(0, 5), putTold(1, 6)}, []int{5}, false},
		{"two puts, three left", []impl.Fact{putTold(0, 5), putTold(1, 6)}, []int{5, 6, 6}, false},
		{"two puts of one number", []impl.Fact{putTold(0, 5), putTold(0, 5)}, []int{5}, false},
		{"two puts of one number, both left", []impl.Fact{putTold(0, 5), putTold(0, 5)}, []int{5, 5}, false},
		{"two puts of 1", []impl.Fact{putTold(0, 5), putTold(1, 6), putTold(1, 6)}, []int{5, 6, 6}, false},
		{"two gets of one number", []impl.Fact{putTold(0, 5), putTold(1, 5), getTold(0, 5), getTold(0, 5)}, nil, false},
		{"two gets of one number, one left", []impl.Fact{putTold(0, 5), putTold(1, 5), getTold(0, 5), getTold(0, 5)}, []int{5}, false},
		{"puts with a gap", []impl.Fact{putTold(0, 5), putTold(2, 6)}, []int{5, 6}, false},
		{"gets with a gap", []impl.Fact{putTold(0, 5), putTold(1, 6), putTold(2, 7), getTold(0, 5), getTold(2, 7)}, []int{6}, false},
		{"puts from 1 on", []impl.Fact{putTold(1, 5), putTold(2, 6)}, []int{5, 6}, false},
		{"gets from 1 on", []impl.Fact{putTold(0, 5), putTold(1, 6), putTold(2, 7), getTold(1, 6), getTold(2, 7)}, []int{5}, false},
		{"a put below 0", []impl.Fact{putTold(-1, 5)}, []int{5}, false},
		{"puts from -1 on", []impl.Fact{putTold(-1, 5), putTold(0, 6), putTold(1, 7)}, []int{5, 6, 7}, false},
		{"gets from -1 on", []impl.Fact{putTold(0, 5), putTold(1, 6), getTold(-1, 5), getTold(0, 5)}, nil, false},
		{"a put at the end of 64 bits", []impl.Fact{putTold(math.MaxInt, 5)}, []int{5}, false},
		{"a put at the beginning of 64 bits", []impl.Fact{putTold(math.MinInt, 5)}, []int{5}, false},
		{"puts at both ends of 64 bits", []impl.Fact{putTold(math.MinInt, 5), putTold(0, 6), putTold(math.MaxInt, 7)}, []int{5, 6, 7}, false},
		{"gets at both ends of 64 bits", []impl.Fact{putTold(0, 5), putTold(1, 6), getTold(math.MaxInt, 5), getTold(math.MinInt, 6)}, nil, false},
		{"a put at a multiple of 32 bits", []impl.Fact{putTold(1<<32, 5)}, []int{5}, false},
		{"values at the ends of 64 bits", []impl.Fact{putTold(0, math.MinInt), putTold(1, math.MaxInt), getTold(0, math.MinInt)}, []int{math.MaxInt}, true},
		{"a put that told of too many", []impl.Fact{full, putTold(0, 5)}, []int{5}, true},
		{"a put that told of too many alone", []impl.Fact{full}, nil, true},
		{"a put that told of too many, left", []impl.Fact{full}, []int{5}, false},
		{"gets that told of none", []impl.Fact{empty, putTold(0, 5), empty, getTold(0, 5), empty}, nil, true},
		{"a get that told of none takes nothing", []impl.Fact{putTold(0, 0), empty}, nil, false},
		{"other results", []impl.Fact{{Kind: 1, A: 5}, {Kind: 1, A: 5, Res: 4}, {Kind: 2, V: 5, Res: 4}, {Kind: 2, V: 5, Res: -1, Turn: 7}}, nil, true},
		{"other kinds", []impl.Fact{{Kind: 0, A: 5, Res: 1}, {Kind: 3, A: 5, Res: 1, V: 5}, {Kind: -1, Res: 1, Turn: 9}, putTold(0, 4)}, []int{4}, true},
		// A put tells no V and a get no A; who made it and when doesn't count.
		{"what isn't its own", []impl.Fact{{Thread: 5, Kind: 1, A: 5, Res: 1, V: 77, Begun: 8, Ended: 9}, {Thread: -5, Kind: 2, A: 77, Res: 1, V: 5, Begun: 0, Ended: -1}}, nil, true},
	} {
		if got := impl.RingGood(x.l, x.left); got != x.want || got != toldRingGoodSaid(x.l, x.left) {
			t.Errorf("%s: RingGood(%+v, %v) is %v", x.what, x.l, x.left, got)
		}
	}
}

func TestRingGoodOfAllSmallStories(t *testing.T) {
	var all []impl.Fact
	for turn := -1; turn <= 2; turn++ {
		for v := 5; v <= 6; v++ {
			all = append(all, putTold(turn, v), getTold(turn, v))
		}
	}
	all = append(all, impl.Fact{Kind: 1, A: 5, Res: impl.ReFull}, impl.Fact{Kind: 2, Res: impl.ReEmpty}, impl.Fact{Kind: 3, Res: impl.ReOk})
	lefts := [][]int{nil, {5}, {6}, {5, 5}, {5, 6}, {6, 5}, {6, 6}, {5, 6, 5}, {5, 6, 6}}
	good := 0
	hold := func(l ...impl.Fact) {
		for _, left := range lefts {
			got := impl.RingGood(l, left)
			if got != toldRingGoodSaid(l, left) {
				t.Fatalf("RingGood(%+v, %v) is %v", l, left, got)
			}
			if got {
				good++
			}
		}
	}
	for _, a := range all {
		hold(a)
		for _, b := range all {
			hold(a, b)
			for _, c := range all {
				hold(a, b, c)
				hold(putTold(0, 5), a, putTold(1, 6), b, c)
			}
		}
	}
	if good < 100 {
		t.Errorf("%d stories are good", good)
	}
}

func TestRingGoodOfManyFacts(t *testing.T) {
	for _, n := range []int{9, 30, 500} {
		next := storyNumbers(n)
		var l []impl.Fact
		var left []int
		got := n / 3
		for k := range n {
			a := next(1000) - 500
			l = append(l, putTold(k, a))
			if k < got {
				l = append(l, getTold(k, a))
			} else {
				left = append(left, a)
			}
		}
		for i := range l {
			k := next(i + 1)
			l[i], l[k] = l[k], l[i]
		}
		if !impl.RingGood(l, left) {
			t.Errorf("of %d puts: false", n)
		}
		for i := range l {
			for _, hurt := range []func(f *impl.Fact){func(f *impl.Fact) { f.Turn++ }, func(f *impl.Fact) { f.Res++ }, func(f *impl.Fact) { f.A++; f.V++ }, func(f *impl.Fact) { f.Kind = 3 - f.Kind }} {
				was := l[i]
				hurt(&l[i])
				if impl.RingGood(l, left) != toldRingGoodSaid(l, left) {
					t.Fatalf("of %d puts, the fact %d hurt to %+v: %v", n, i, l[i], impl.RingGood(l, left))
				}
				l[i] = was
			}
		}
	}
}

// endedAt: facts with these Ended; the A tells which is which.
func endedAt(times ...int) []impl.Fact {
	var l []impl.Fact
	for i, time := range times {
		l = append(l, impl.Fact{Thread: -i, Kind: i % 3, A: i, Res: 4 - i%5, V: 7 * i % 5, Turn: -i, Begun: 100 - i, Ended: time})
	}
	return l
}

func TestInTime(t *testing.T) {
	for _, x := range []struct {
		what  string
		times []int
		want  []int
	}{
		{"none", nil, nil},
		{"one", []int{4}, []int{0}},
		{"rising", []int{1, 2, 3}, []int{0, 1, 2}},
		{"falling", []int{3, 2, 1}, []int{2, 1, 0}},
		{"alike", []int{4, 4, 4, 4}, []int{0, 1, 2, 3}},
		{"alike and not", []int{4, 1, 4, 1, 9, 4, 1}, []int{1, 3, 6, 0, 2, 5, 4}},
		{"below 0", []int{0, -1, 1, -2}, []int{3, 1, 0, 2}},
		{"at the ends of 64 bits", []int{math.MaxInt, 0, math.MinInt, math.MaxInt, -1, math.MinInt, 1}, []int{2, 5, 4, 1, 6, 0, 3}},
		{"beside the ends of 64 bits", []int{math.MinInt, math.MaxInt - 1, math.MinInt + 1, math.MaxInt}, []int{0, 2, 1, 3}},
		{"apart by 32 bits", []int{1 << 32, 0, 1<<32 + 1, 1}, []int{1, 3, 0, 2}},
	} {
		l := endedAt(x.times...)
		var want []impl.Fact
		for _, i := range x.want {
			want = append(want, l[i])
		}
		if got := impl.InTime(l); !slices.Equal(got, want) {
			t.Errorf("%s: InTime(%+v) is %+v", x.what, l, got)
		}
	}
}

func TestInTimeOfManyFacts(t *testing.T) {
	for n := range 120 {
		next := storyNumbers(n)
		var times []int
		for range n {
			times = append(times, next(1+n/3)-5)
		}
		l := endedAt(times...)
		got := impl.InTime(l)
		if !slices.Equal(got, toldInTimeSaid(l)) {
			t.Fatalf("InTime(%+v) is %+v", l, got)
		}
		if again := impl.InTime(got); !slices.Equal(again, got) {
			t.Fatalf("once more: %+v", again)
		}
	}
}

// storyWatch: what the runs of a crew told, step by step.
type storyWatch struct {
	t     *testing.T
	from  []int
	bad   int
	ends  map[string]int
	tried map[string]int
}

// hurtFacts: the facts, each told otherwise.
func hurtFacts(l []impl.Fact) [][]impl.Fact {
	var all [][]impl.Fact
	for i := range l {
		for _, hurt := range []func(f *impl.Fact){func(f *impl.Fact) { f.V++ }, func(f *impl.Fact) { f.Res = 5 - f.Res }, func(f *impl.Fact) { f.A++ }} {
			other := slices.Clone(l)
			hurt(&other[i])
			all = append(all, other)
		}
	}
	return all
}

// told holds what a run told so far against the orders that may be, and hurts it to see that this is told, too.
func (h *storyWatch) told(w impl.Crew) {
	h.t.Helper()
	facts := impl.Facts(w)
	if !slices.Equal(facts, toldFactsSaid(w)) {
		h.t.Fatalf("Facts(%+v) is %+v", w, facts)
	}
	// A story is told by many runs: once is enough.
	key := fmt.Sprint(w.What, h.from, facts, w.Mem.Cells)
	if h.tried[key]++; h.tried[key] > 1 {
		return
	}
	h.inTime(facts)
	switch w.What {
	case impl.CrRing:
		h.toldByRing(w, facts)
	default:
		h.toldInSomeOrder(w, facts)
	}
}

func (h *storyWatch) inTime(facts []impl.Fact) {
	h.t.Helper()
	last := -1
	for _, f := range impl.InTime(facts) {
		// At each time at most one call ends.
		if f.Ended <= last || f.Begun > f.Ended || f.Begun < 0 {
			h.t.Fatalf("InTime(%+v) is %+v", facts, impl.InTime(facts))
		}
		last = f.Ended
	}
}

// toldInSomeOrder: on stack and list what is done is seen by all, so each run tells a story, done or not.
func (h *storyWatch) toldInSomeOrder(w impl.Crew, facts []impl.Fact) {
	h.t.Helper()
	end, ok := impl.Linear(w.What, h.from, facts)
	if len(facts) > impl.MaxStory {
		if ok || len(end) != 0 {
			h.t.Fatalf("%d facts: %v, %v", len(facts), end, ok)
		}
		return
	}
	if !ok {
		h.t.Fatalf("no order tells %+v from %v", facts, h.from)
	}
	if w.What == impl.CrList {
		if !slices.Equal(end, impl.LiKeys(w.Size, w.Mem)) {
			h.t.Fatalf("%+v leads to %v, but the list has %v", facts, end, impl.LiKeys(w.Size, w.Mem))
		}
	} else {
		h.sameItems(w, facts, end)
	}
	sameLinear(h.t, w.What, h.from, facts)
	if len(facts) > 5 {
		return
	}
	for _, hurt := range hurtFacts(facts) {
		if !sameLinear(h.t, w.What, h.from, hurt) {
			h.bad++
		}
	}
}

// sameItems: the first order may leave others on top than the run did, but the same.
func (h *storyWatch) sameItems(w impl.Crew, facts []impl.Fact, end []int) {
	h.t.Helper()
	items := impl.StItems(w.Size, w.Mem)
	if !slices.Equal(slices.Sorted(slices.Values(end)), slices.Sorted(slices.Values(items))) {
		h.t.Fatalf("%+v leads to %v, but the stack has %v", facts, end, items)
	}
	changes := 0
	for _, f := range facts {
		if f.Res == impl.ReOk {
			changes++
		}
	}
	if tag, _, ok := impl.Unpack(w.Mem.Cells[0]); !ok || tag != changes {
		h.t.Fatalf("the tag is %d behind %+v", tag, facts)
	}
}

// toldByRing: a number may be taken ahead of the value, so only a run that is done tells a whole story.
func (h *storyWatch) toldByRing(w impl.Crew, facts []impl.Fact) {
	h.t.Helper()
	left := impl.RiItems(w.Size, w.Mem)
	good := impl.RingGood(facts, left)
	if impl.Rest(w) == 0 && !good || good != toldRingGoodSaid(facts, left) {
		h.t.Fatalf("RingGood(%+v, %v) is %v", facts, left, good)
	}
	for _, hurt := range hurtFacts(facts) {
		good := impl.RingGood(hurt, left)
		if good != toldRingGoodSaid(hurt, left) {
			h.t.Fatalf("RingGood(%+v, %v) is %v", hurt, left, good)
		}
		if !good {
			h.bad++
		}
	}
}

func (h *storyWatch) tryAllPicks(w impl.Crew) {
	h.told(w)
	for pick := range len(impl.Able(w)) {
		h.tryAllPicks(crewStep(h.t, w, pick))
	}
	if impl.Rest(w) == 0 {
		for _, f := range impl.Facts(w) {
			h.ends[fmt.Sprint(f.Kind, " ", f.Res)]++
		}
	}
}

func watchOf(t *testing.T, w impl.Crew) *storyWatch {
	h := &storyWatch{t: t, ends: map[string]int{}, tried: map[string]int{}}
	if w.What == impl.CrStack {
		h.from = impl.StItems(w.Size, w.Mem)
	}
	return h
}

func TestCrewsTellStories(t *testing.T) {
	for _, x := range []struct {
		what, size int
		full       bool
		l          []impl.Thread
		ends       []string
	}{
		{1, 2, true, []impl.Thread{makes(popOf()), makes(popOf(), ownPush())}, []string{"2 1", "1 1"}},
		{1, 1, true, []impl.Thread{makes(popOf(), ownPush()), makes(popOf(), ownPush())}, []string{"2 1", "2 2", "1 1", "1 4"}},
		{1, 3, true, []impl.Thread{makes(popOf()), makes(popOf()), makes(popOf())}, []string{"2 1"}},
		{1, 2, true, []impl.Thread{makes(ownPush(), popOf()), makes(popOf(), ownPush(), ownPush())}, []string{"2 1", "1 1", "1 4"}},
		{2, 2, false, []impl.Thread{makes(putOf(5)), makes(getOf(), getOf())}, []string{"1 1", "2 1", "2 2"}},
		{2, 2, false, []impl.Thread{makes(putOf(5)), makes(putOf(7))}, []string{"1 1"}},
		{2, 2, false, []impl.Thread{makes(putOf(5), putOf(6), putOf(7)), makes(getOf())}, []string{"1 1", "1 3", "2 1", "2 2"}},
		{3, 2, false, []impl.Thread{makes(addOf(4, 0)), makes(addOf(4, 1))}, []string{"1 1", "1 4"}},
		{3, 2, false, []impl.Thread{makes(addOf(4, 0), delOf(4)), makes(hasOf(4))}, []string{"1 1", "2 1", "3 1", "3 4"}},
		{3, 2, false, []impl.Thread{makes(addOf(4, 0)), makes(delOf(4), addOf(3, 1))}, []string{"1 1", "2 1", "2 4"}},
	} {
		w := newCrew(t, x.what, x.size, x.full, x.l...)
		h := watchOf(t, w)
		h.tryAllPicks(w)
		for _, e := range x.ends {
			if h.ends[e] == 0 {
				t.Errorf("%+v: no call ends with %q: %v", x.l, e, h.ends)
			}
		}
		if len(h.ends) != len(x.ends) || h.bad == 0 {
			t.Errorf("%+v: the calls end so: %v; %d stories that were hurt are none", x.l, h.ends, h.bad)
		}
	}
}

func TestLongCrewsTellStories(t *testing.T) {
	bad, whole := map[int]int{}, map[int]int{}
	for what := impl.CrStack; what <= impl.CrList; what++ {
		for seed := range 60 {
			w := longCrew(t, what, 2+seed%2, seed)
			h, next := watchOf(t, w), storyNumbers(seed)
			for impl.Rest(w) > 0 {
				h.told(w)
				pick := next(6) - 3
				for range 1 + next(3) {
					if impl.Rest(w) > 0 {
						w = crewStep(t, w, pick)
					}
				}
			}
			h.told(w)
			bad[what] += h.bad
			if facts := impl.Facts(w); len(facts) <= impl.MaxStory && len(facts) > 5 {
				whole[what]++
			}
		}
	}
	for what := impl.CrStack; what <= impl.CrList; what++ {
		if bad[what] == 0 || whole[what] == 0 {
			t.Errorf("on the object %d %d runs were told whole, %d stories that were hurt are none", what, whole[what], bad[what])
		}
	}
}

// fillFacts writes into all of the memory of a list of facts.
func fillFacts(l []impl.Fact) {
	l = l[:cap(l)]
	for i := range l {
		l[i] = impl.Fact{Thread: -77, Kind: -77, A: -77, Ended: -77}
	}
}

// storyDeed: a call of chapter 9, of lists that are handed in; what it answers is one of the two lists.
type storyDeed struct {
	what string
	do   func(items []int, l []impl.Fact) ([]int, []impl.Fact)
}

func storyDeeds() []storyDeed {
	deeds := []storyDeed{
		{"InTime", func(items []int, l []impl.Fact) ([]int, []impl.Fact) { return nil, impl.InTime(l) }},
		{"RingGood", func(items []int, l []impl.Fact) ([]int, []impl.Fact) {
			impl.RingGood(l, items)
			return nil, nil
		}},
	}
	for _, what := range []int{impl.CrStack, impl.CrRing, impl.CrList} {
		for n := range 5 {
			deeds = append(deeds, storyDeed{fmt.Sprint("Linear ", what, " of ", n), func(items []int, l []impl.Fact) ([]int, []impl.Fact) {
				end, _ := impl.Linear(what, items, l[:min(n, len(l))])
				return end, nil
			}})
		}
	}
	for kind := 1; kind <= 3; kind++ {
		for _, res := range []int{impl.ReOk, impl.ReEmpty, impl.ReNo} {
			for _, a := range []int{1, 2, 3, 4, 5, 6} {
				f := impl.Fact{Kind: kind, A: a, V: a, Res: res}
				deeds = append(deeds, storyDeed{fmt.Sprintf("StApply %+v", f), func(items []int, l []impl.Fact) ([]int, []impl.Fact) {
					next, _ := impl.StApply(items, f)
					return next, nil
				}}, storyDeed{fmt.Sprintf("LiApply %+v", f), func(items []int, l []impl.Fact) ([]int, []impl.Fact) {
					next, _ := impl.LiApply(items, f)
					return next, nil
				}})
			}
		}
	}
	return deeds
}

// storyStock: lists for which each deed does something, as arguments with memory behind their ends.
func storyStock() ([]int, []impl.Fact) {
	return []int{1, 3, 5}, []impl.Fact{timed(keyTold(1, 4, 1), 4, 9), timed(keyTold(1, 2, 1), 3, 8), timed(putTold(1, 7), 2, 7), timed(keyTold(3, 4, 1), 1, 6), timed(putTold(0, 9), 0, 5)}
}

func TestStoriesChangeNoArgument(t *testing.T) {
	for _, d := range storyDeeds() {
		for n := range 4 {
			stock, story := storyStock()
			items, l := withRoom(stock[:n]), withRoom(story)
			for i, v := range []int{71, 72, 73, 74, 75} {
				items[:cap(items)][n+i] = v
				l[:cap(l)][len(l)+i].A = v
			}
			all, facts := slices.Clone(items[:cap(items)]), slices.Clone(l[:cap(l)])
			d.do(items, l)
			if !slices.Equal(items[:cap(items)], all) || !slices.Equal(l[:cap(l)], facts) {
				t.Errorf("%s: the arguments are now %v, %+v", d.what, items[:cap(items)], l[:cap(l)])
			}
			end, told := d.do(items, l)
			other, otherTold := d.do(items, l)
			want, wantTold := slices.Clone(end), slices.Clone(told)
			fill(end)
			fillFacts(told)
			if !slices.Equal(items[:cap(items)], all) || !slices.Equal(l[:cap(l)], facts) {
				t.Errorf("%s: the answer shares memory with an argument", d.what)
			}
			if !slices.Equal(other, want) || !slices.Equal(otherTold, wantTold) {
				t.Errorf("%s: two answers share memory", d.what)
			}
			fill(items)
			fillFacts(l)
			if !slices.Equal(other, want) || !slices.Equal(otherTold, wantTold) {
				t.Errorf("%s: an argument shares memory with the answer", d.what)
			}
		}
	}
}

func TestFactsChangeNoArgument(t *testing.T) {
	all := 0
	for i, w := range crewsWithRoom(t) {
		before := cloneCrew(w)
		facts, other := impl.Facts(w), impl.Facts(w)
		want := slices.Clone(facts)
		all += len(want)
		fillFacts(facts)
		if !sameCrew(w, before) || !slices.Equal(other, want) {
			t.Errorf("crew %d: the answer shares memory", i)
		}
		for _, write := range crewLists(w) {
			write()
		}
		if !slices.Equal(other, want) {
			t.Errorf("crew %d: an argument shares memory with the answer", i)
		}
	}
	if all < 3 {
		t.Errorf("there are %d facts alone", all)
	}
}

// TestApplyOfKeysThatDontRise: the document says nothing of them but that no call panics and no argument is changed.
func TestApplyOfKeysThatDontRise(t *testing.T) {
	for _, keys := range [][]int{{9, 2}, {5, 5}, {5, 2, 5}, {9, 5, 2}, {math.MaxInt, math.MinInt}} {
		before := slices.Clone(keys)
		for kind := 0; kind <= 4; kind++ {
			for res := 0; res <= 5; res++ {
				for a := range 12 {
					if got, ok := impl.LiApply(keys, keyTold(kind, a, res)); !ok && len(got) != 0 {
						t.Errorf("LiApply(%v) is %v and false", keys, got)
					}
					impl.Linear(impl.CrList, keys, []impl.Fact{keyTold(kind, a, res), keyTold(1, 7, 1)})
				}
			}
		}
		if !slices.Equal(keys, before) {
			t.Errorf("%v was changed to %v", before, keys)
		}
	}
}
