package tests

import (
	"fmt"
	"math"
	"slices"
	"testing"

	"loop.example/g00724/impl"
)

// oddPlaces: ints that are a place of no pool, or of a great one alone.
var oddPlaces = []int{-1, -2, 99, 100, 101, 1 << 32, math.MaxInt - 1, math.MaxInt, math.MinInt, math.MinInt + 1}

func samePool(a impl.Pool, b impl.Pool) bool {
	return slices.Equal(a.Free, b.Free) && slices.Equal(a.Live, b.Live) && sameAges(a.Ages, b.Ages)
}

func clonePool(p impl.Pool) impl.Pool {
	return impl.Pool{Free: slices.Clone(p.Free), Ages: cloneAges(p.Ages), Live: slices.Clone(p.Live)}
}

// poolAt5: a pool in epoch 5, its handles not pinned, pinned in 4 and pinned in 5.
func poolAt5(free []int, live []int, limbo []impl.Gone) impl.Pool {
	return impl.Pool{Free: free, Live: live, Ages: impl.Ages{Age: 5, Pins: []int{-1, 4, 5}, Limbo: limbo}}
}

// sizeOf: how many all three lists have together.
func sizeOf(p impl.Pool) int { return len(p.Free) + len(p.Live) + len(p.Ages.Limbo) }

// The functions whose names begin with pool and end with Said answer what chapter 10 says, by its words alone.

func poolOkSaid(p impl.Pool) bool {
	for i, place := range p.Live {
		if i > 0 && p.Live[i-1] >= place {
			return false
		}
	}
	all := slices.Sorted(slices.Values(slices.Concat(p.Live, nodesGone(p.Ages), p.Free)))
	return agesRight(p.Ages) && len(all) <= 100 && slices.Equal(all, places(0, len(all)))
}

func poolNewSaid(n int, handles int) (impl.Pool, bool) {
	if !between(n, 1, 100) || !between(handles, 1, 8) {
		return impl.Pool{}, false
	}
	return impl.Pool{Free: places(0, n), Ages: impl.Ages{Pins: pinsLike(handles, -1)}}, true
}

func poolAllocSaid(p impl.Pool) (impl.Pool, int, bool) {
	if !poolOkSaid(p) {
		return impl.Pool{}, 0, false
	}
	q := clonePool(p)
	if len(q.Free) == 0 {
		return q, 0, false
	}
	place := q.Free[0]
	q.Free = slices.Delete(q.Free, 0, 1)
	q.Live = append(q.Live, place)
	slices.Sort(q.Live)
	return q, place, true
}

func poolGiveUpSaid(p impl.Pool, place int) (impl.Pool, bool) {
	if !poolOkSaid(p) || !slices.Contains(p.Live, place) {
		return impl.Pool{}, false
	}
	q := clonePool(p)
	q.Live = slices.DeleteFunc(q.Live, func(k int) bool { return k == place })
	q.Ages.Limbo = append(q.Ages.Limbo, impl.Gone{Node: place, At: q.Ages.Age})
	return q, true
}

func poolReclaimSaid(p impl.Pool) (impl.Pool, []int) {
	if !poolOkSaid(p) {
		return impl.Pool{}, nil
	}
	q := clonePool(p)
	var out []int
	q.Ages, out = saidOfCollect(p.Ages)
	for _, place := range slices.Backward(out) {
		q.Free = slices.Insert(q.Free, 0, place)
	}
	return q, out
}

func poolEnterSaid(p impl.Pool, h int) (impl.Pool, bool) {
	if !poolOkSaid(p) || !between(h, 0, len(p.Ages.Pins)-1) || p.Ages.Pins[h] != -1 {
		return impl.Pool{}, false
	}
	q := clonePool(p)
	q.Ages.Pins[h] = q.Ages.Age
	return q, true
}

func poolLeaveSaid(p impl.Pool, h int) (impl.Pool, bool) {
	if !poolOkSaid(p) || !between(h, 0, len(p.Ages.Pins)-1) || p.Ages.Pins[h] == -1 {
		return impl.Pool{}, false
	}
	q := clonePool(p)
	q.Ages.Pins[h] = -1
	return q, true
}

func poolTurnSaid(p impl.Pool) (impl.Pool, bool) {
	if !poolOkSaid(p) {
		return impl.Pool{}, false
	}
	q := clonePool(p)
	for _, pin := range p.Ages.Pins {
		if pin != -1 && pin != p.Ages.Age {
			return q, false
		}
	}
	if q.Ages.Age == lastAge {
		return q, false
	}
	q.Ages.Age++
	return q, true
}

func poolMaySaid(p impl.Pool, h int, place int) bool {
	if !poolOkSaid(p) || !between(h, 0, len(p.Ages.Pins)-1) || p.Ages.Pins[h] == -1 {
		return false
	}
	if slices.Contains(p.Live, place) {
		return true
	}
	return slices.ContainsFunc(p.Ages.Limbo, func(g impl.Gone) bool { return g.Node == place && g.At >= p.Ages.Pins[h] })
}

// poolDeed: a call on a pool, and what chapter 10 says of it; what it tells beside a pool is told as a list, a true as 1 and a false as 0.
type poolDeed struct {
	what string
	do   func(impl.Pool) (impl.Pool, []int)
	said func(impl.Pool) (impl.Pool, []int)
}

func oneIf(ok bool) int {
	if ok {
		return 1
	}
	return 0
}

func allocDeed() poolDeed {
	told := func(f func(impl.Pool) (impl.Pool, int, bool)) func(impl.Pool) (impl.Pool, []int) {
		return func(p impl.Pool) (impl.Pool, []int) {
			q, place, ok := f(p)
			return q, []int{place, oneIf(ok)}
		}
	}
	return poolDeed{"Alloc", told(impl.Alloc), told(poolAllocSaid)}
}

// poolDeedWith makes a deed of a call that takes a number and answers a pool and a bool.
func poolDeedWith(what string, do func(impl.Pool, int) (impl.Pool, bool), said func(impl.Pool, int) (impl.Pool, bool), n int) poolDeed {
	told := func(f func(impl.Pool, int) (impl.Pool, bool)) func(impl.Pool) (impl.Pool, []int) {
		return func(p impl.Pool) (impl.Pool, []int) {
			q, ok := f(p, n)
			return q, []int{oneIf(ok)}
		}
	}
	return poolDeed{fmt.Sprintf("%s %d", what, n), told(do), told(said)}
}

func giveUpDeed(place int) poolDeed {
	return poolDeedWith("GiveUp", impl.GiveUp, poolGiveUpSaid, place)
}

func enterDeed(h int) poolDeed { return poolDeedWith("Enter", impl.Enter, poolEnterSaid, h) }

func leaveDeed(h int) poolDeed { return poolDeedWith("Leave", impl.Leave, poolLeaveSaid, h) }

func turnDeed() poolDeed {
	do := func(p impl.Pool, _ int) (impl.Pool, bool) { return impl.Turn(p) }
	said := func(p impl.Pool, _ int) (impl.Pool, bool) { return poolTurnSaid(p) }
	return poolDeedWith("Turn", do, said, 0)
}

func reclaimDeed() poolDeed { return poolDeed{"Reclaim", impl.Reclaim, poolReclaimSaid} }

func poolDeeds(handles []int, spots []int) []poolDeed {
	l := []poolDeed{allocDeed(), turnDeed(), reclaimDeed()}
	for _, h := range handles {
		l = append(l, enterDeed(h), leaveDeed(h))
	}
	for _, place := range spots {
		l = append(l, giveUpDeed(place))
	}
	return l
}

// poolAsSaid holds all functions of a pool against what chapter 10 says, at these handles and places.
func poolAsSaid(t *testing.T, p impl.Pool, handles []int, spots []int) {
	t.Helper()
	before := clonePool(p)
	if got, want := impl.PoolOk(p), poolOkSaid(p); got != want {
		t.Fatalf("PoolOk(%+v) is %v", p, got)
	}
	for _, d := range poolDeeds(handles, spots) {
		got, told := d.do(p)
		want, right := d.said(p)
		if !samePool(got, want) || !slices.Equal(told, right) {
			t.Fatalf("%s of %+v: %+v, %v; want %+v, %v", d.what, p, got, told, want, right)
		}
	}
	for _, h := range handles {
		for _, place := range spots {
			if got := impl.May(p, h, place); got != poolMaySaid(p, h, place) {
				t.Fatalf("May(%+v, %d, %d) is %v", p, h, place, got)
			}
		}
	}
	if !samePool(p, before) {
		t.Fatalf("%+v was changed from %+v", p, before)
	}
}

func TestPoolOk(t *testing.T) {
	gone := goneAt(3, 2, 1, 4)
	for _, x := range []struct {
		what string
		p    impl.Pool
		want bool
	}{
		{"nothing", impl.Pool{}, false},
		{"no place, Ages that are right", poolAt5(nil, nil, nil), true},
		{"no place, Ages of nothing", impl.Pool{Free: []int{}, Live: []int{}}, false},
		{"one that is free", poolAt5([]int{0}, nil, nil), true},
		{"one that lives", poolAt5(nil, []int{0}, nil), true},
		{"one in limbo", poolAt5(nil, nil, goneAt(0, 5)), true},
		{"in all three", poolAt5([]int{4, 0}, []int{2, 5}, gone), true},
		{"in all three, free in another order", poolAt5([]int{0, 4}, []int{2, 5}, gone), true},
		{"the first is missing", poolAt5([]int{4, 6}, []int{2, 5}, gone), false},
		{"one in between is missing", poolAt5([]int{4, 0}, []int{5, 6}, gone), false},
		{"the one place is missing", poolAt5([]int{1}, nil, nil), false},
		{"the one place is missing, 2 lives", poolAt5(nil, []int{2}, nil), false},
		{"the one place is missing, 1 is in limbo", poolAt5(nil, nil, goneAt(1, 5)), false},
		{"twice in Free", poolAt5([]int{4, 0, 0}, []int{2, 5}, gone), false},
		{"twice in Free, one is missing", poolAt5([]int{4, 4}, []int{2, 5}, gone), false},
		{"twice in Free, the rest is there", poolAt5([]int{0, 1, 0}, nil, nil), false},
		{"twice in Live", poolAt5([]int{4, 0}, []int{2, 2, 5}, gone), false},
		{"twice in Live, one is missing", poolAt5([]int{4, 0}, []int{2, 2}, gone), false},
		{"twice in Limbo", poolAt5([]int{4, 0}, []int{2, 5}, goneAt(3, 2, 1, 4, 3, 5)), false},
		{"twice in Limbo, one is missing", poolAt5([]int{4, 0}, []int{2, 5}, goneAt(3, 2, 3, 5)), false},
		{"in Free and in Live", poolAt5([]int{4, 0, 2}, []int{2, 5}, gone), false},
		{"in Free and in Live, one is missing", poolAt5([]int{4, 5}, []int{2, 5}, gone), false},
		{"in Free and in Limbo", poolAt5([]int{4, 0, 3}, []int{2, 5}, gone), false},
		{"in Free and in Limbo, one is missing", poolAt5([]int{4, 3}, []int{2, 5}, gone), false},
		{"in Live and in Limbo", poolAt5([]int{4, 0}, []int{1, 2, 5}, gone), false},
		{"in Live and in Limbo, one is missing", poolAt5([]int{4, 0}, []int{1, 5}, gone), false},
		{"in all three, and two are missing", poolAt5([]int{0}, []int{0}, goneAt(0, 5)), false},
		{"-1 is free", poolAt5([]int{4, 0, -1}, []int{2, 5}, gone), false},
		{"-1 is free, in place of 0", poolAt5([]int{4, -1}, []int{2, 5}, gone), false},
		{"-1 lives", poolAt5([]int{4, 0}, []int{-1, 2, 5}, gone), false},
		{"-1 is in limbo", poolAt5([]int{4, 0}, []int{2, 5}, goneAt(3, 2, 1, 4, -1, 5)), false},
		{"n is free", poolAt5([]int{4, 6}, []int{2, 5}, gone), false},
		{"n lives", poolAt5([]int{4, 0}, []int{2, 6}, gone), false},
		{"n is in limbo", poolAt5([]int{4, 0}, []int{2, 5}, goneAt(3, 2, 6, 4)), false},
		{"the greatest is free", poolAt5([]int{4, math.MaxInt}, []int{2, 5}, gone), false},
		{"the least is free", poolAt5([]int{4, math.MinInt}, []int{2, 5}, gone), false},
		{"the greatest lives", poolAt5([]int{4, 0}, []int{2, math.MaxInt}, gone), false},
		{"the least lives", poolAt5([]int{4, 0}, []int{math.MinInt, 2}, gone), false},
		{"the greatest is in limbo", poolAt5([]int{4, 0}, []int{2, 5}, goneAt(3, 2, math.MaxInt, 4)), false},
		{"the least is in limbo", poolAt5([]int{4, 0}, []int{2, 5}, goneAt(3, 2, math.MinInt, 4)), false},
		{"Live falls", poolAt5([]int{4, 0}, []int{5, 2}, gone), false},
		{"Live falls at its end", poolAt5(nil, []int{0, 1, 2, 4, 3}, nil), false},
		{"Live falls at its beginning", poolAt5(nil, []int{1, 0, 2, 3, 4}, nil), false},
		{"Live rises over all", poolAt5(nil, []int{0, 1, 2, 3, 4}, nil), true},
		{"Ages without a handle", impl.Pool{Free: []int{0}, Ages: impl.Ages{Age: 5}}, false},
		{"Ages with 9 handles", impl.Pool{Free: []int{0}, Ages: impl.Ages{Age: 5, Pins: pinsLike(9, -1)}}, false},
		{"Ages with 8 handles", impl.Pool{Free: []int{0}, Ages: impl.Ages{Age: 5, Pins: pinsLike(8, -1)}}, true},
		{"Ages with a pin at Age less 2", impl.Pool{Free: []int{0}, Ages: impl.Ages{Age: 5, Pins: []int{3}}}, false},
		{"Ages with an Age below 0", impl.Pool{Free: []int{0}, Ages: impl.Ages{Age: -1, Pins: []int{-1}}}, false},
		{"Ages with an Age beyond MaxNum", impl.Pool{Free: []int{0}, Ages: impl.Ages{Age: lastAge + 1, Pins: []int{-1}}}, false},
		{"Ages at MaxNum", impl.Pool{Free: []int{0}, Ages: impl.Ages{Age: lastAge, Pins: []int{-1}}}, true},
		{"At falls", poolAt5([]int{4, 0}, []int{2, 5}, goneAt(3, 4, 1, 2)), false},
		{"At above Age", poolAt5([]int{4, 0}, []int{2, 5}, goneAt(3, 4, 1, 6)), false},
		{"At below 0", poolAt5([]int{4, 0}, []int{2, 5}, goneAt(3, -1, 1, 5)), false},
	} {
		if got := impl.PoolOk(x.p); got != x.want || poolOkSaid(x.p) != x.want {
			t.Errorf("%s: PoolOk(%+v) is %v", x.what, x.p, got)
		}
		if !x.want {
			poolAsSaid(t, x.p, []int{0, 1}, []int{0, 2})
		}
	}
}

// splitPool: a pool of n places, from 0 on these many that are free, that live, and the rest in limbo.
func splitPool(n int, free int, live int) impl.Pool {
	return poolAt5(places(0, free), places(free, free+live), goneMany(n-free-live, free+live, 5))
}

func TestPoolOkOfGreatPools(t *testing.T) {
	for _, x := range [][2]int{{0, 0}, {1, 0}, {0, 1}, {99, 0}, {0, 99}, {100, 0}, {0, 100}, {50, 50}, {33, 33}, {50, 0}, {0, 50}, {98, 1}, {1, 98}, {1, 1}} {
		for _, n := range []int{99, 100, 101, 102, 200} {
			if x[0]+x[1] > n {
				continue
			}
			p := splitPool(n, x[0], x[1])
			if got := impl.PoolOk(p); got != (n <= 100) {
				t.Errorf("%d places, of them %d free and %d that live: PoolOk is %v", n, x[0], x[1], got)
			}
			poolAsSaid(t, p, []int{-1, 0, 1, 2, 3}, []int{0, 1, 33, 66, 98, 99, 100})
		}
	}
	for _, p := range []impl.Pool{
		poolAt5(slices.Repeat([]int{0}, 100), nil, nil),
		poolAt5(slices.Repeat([]int{7}, 5000), nil, nil),
		poolAt5(nil, places(0, 5000), nil),
		poolAt5(nil, nil, goneMany(5000, 0, 5)),
		poolAt5(places(0, 5000), places(5000, 10000), goneMany(100, 10000, 5)),
	} {
		if impl.PoolOk(p) {
			t.Errorf("%d places: PoolOk is true", sizeOf(p))
		}
		poolAsSaid(t, p, []int{0, 1}, []int{0, 7, 5000})
	}
}

func TestPoolNew(t *testing.T) {
	sizes := []int{1, 2, 3, 50, 99, 100, 0, -1, -2, -100, 101, 102, 1 << 32, 1<<32 + 1, math.MaxInt, math.MinInt, math.MinInt + 1}
	handles := []int{1, 2, 7, 8, 0, -1, -8, 9, 10, 1<<32 + 1, math.MaxInt, math.MinInt}
	for _, n := range sizes {
		for _, k := range handles {
			p, ok := impl.PoolNew(n, k)
			want, right := poolNewSaid(n, k)
			if ok != right || !samePool(p, want) || impl.PoolOk(p) != right {
				t.Fatalf("PoolNew(%d, %d) is %+v, %v", n, k, p, ok)
			}
			for _, write := range poolLists(p) {
				write()
			}
			if again, _ := impl.PoolNew(n, k); !samePool(again, want) {
				t.Errorf("PoolNew(%d, %d) is %+v behind writing into an answer", n, k, again)
			}
		}
	}
	if p, ok := impl.PoolNew(3, 2); !ok || !samePool(p, impl.Pool{Free: []int{0, 1, 2}, Ages: impl.Ages{Pins: []int{-1, -1}}}) {
		t.Errorf("PoolNew(3, 2) is %+v, %v", p, ok)
	}
}

func TestAlloc(t *testing.T) {
	for _, x := range []struct {
		what  string
		p     impl.Pool
		want  impl.Pool
		place int
		ok    bool
	}{
		{"one is free", poolAt5([]int{0}, nil, nil), poolAt5(nil, []int{0}, nil), 0, true},
		{"several are free, the top goes", poolAt5([]int{2, 0, 1}, nil, nil), poolAt5([]int{0, 1}, []int{2}, nil), 2, true},
		{"it comes ahead of those that live", poolAt5([]int{0, 3}, []int{1, 2}, nil), poolAt5([]int{3}, []int{0, 1, 2}, nil), 0, true},
		{"it comes between those that live", poolAt5([]int{1, 3}, []int{0, 2}, nil), poolAt5([]int{3}, []int{0, 1, 2}, nil), 1, true},
		{"it comes behind those that live", poolAt5([]int{3, 0}, []int{1, 2}, nil), poolAt5([]int{0}, []int{1, 2, 3}, nil), 3, true},
		{"what is in limbo stays", poolAt5([]int{2}, []int{3}, goneAt(1, 0, 0, 5)), poolAt5(nil, []int{2, 3}, goneAt(1, 0, 0, 5)), 2, true},
		{"none is free, two live", poolAt5(nil, []int{0, 1}, nil), poolAt5(nil, []int{0, 1}, nil), 0, false},
		{"none is free, those in limbo are old", poolAt5(nil, []int{1}, goneAt(2, 0, 0, 0)), poolAt5(nil, []int{1}, goneAt(2, 0, 0, 0)), 0, false},
		{"there is no place", poolAt5(nil, nil, nil), poolAt5(nil, nil, nil), 0, false},
		{"it isn't right", poolAt5([]int{0, 0}, []int{1}, nil), impl.Pool{}, 0, false},
		{"Live falls", poolAt5([]int{0}, []int{2, 1}, nil), impl.Pool{}, 0, false},
		{"none is free, and it isn't right", poolAt5(nil, []int{0, 2}, nil), impl.Pool{}, 0, false},
		{"nothing", impl.Pool{}, impl.Pool{}, 0, false},
	} {
		got, place, ok := impl.Alloc(x.p)
		if !samePool(got, x.want) || place != x.place || ok != x.ok {
			t.Errorf("%s: Alloc(%+v) is %+v, %d, %v", x.what, x.p, got, place, ok)
		}
	}
}

// TestAllocOfAllPlaces: each of 100 places is given out once, from the top of Free on, whatever the order is in which they are free.
func TestAllocOfAllPlaces(t *testing.T) {
	for k := range 7 {
		p, _ := impl.PoolNew(100, 1)
		next := storyNumbers(k)
		for i := 99; k > 0 && i > 0; i-- {
			other := next(i + 1)
			p.Free[i], p.Free[other] = p.Free[other], p.Free[i]
		}
		order := slices.Clone(p.Free)
		for i, want := range order {
			q, place, ok := impl.Alloc(p)
			if !ok || place != want || !slices.Equal(q.Live, slices.Sorted(slices.Values(order[:i+1]))) || !slices.Equal(q.Free, order[i+1:]) {
				t.Fatalf("Alloc %d of %+v is %+v, %d, %v", i, p, q, place, ok)
			}
			p = q
		}
		if q, place, ok := impl.Alloc(p); ok || place != 0 || !samePool(q, p) {
			t.Fatalf("Alloc of %+v is %+v, %d, %v", p, q, place, ok)
		}
	}
}

func TestGiveUp(t *testing.T) {
	p := poolAt5([]int{6, 0}, []int{1, 3, 5}, goneAt(4, 2, 2, 5))
	for _, x := range []struct {
		place int
		live  []int
	}{
		{1, []int{3, 5}},
		{3, []int{1, 5}},
		{5, []int{1, 3}},
	} {
		want := poolAt5([]int{6, 0}, x.live, goneAt(4, 2, 2, 5, x.place, 5))
		if got, ok := impl.GiveUp(p, x.place); !ok || !samePool(got, want) {
			t.Errorf("GiveUp(%+v, %d) is %+v, %v", p, x.place, got, ok)
		}
	}
	for _, place := range append([]int{0, 6, 2, 4, 7, 8}, oddPlaces...) {
		if got, ok := impl.GiveUp(p, place); ok || !samePool(got, impl.Pool{}) {
			t.Errorf("GiveUp(%+v, %d) is %+v, %v", p, place, got, ok)
		}
	}
	if got, ok := impl.GiveUp(splitPool(100, 0, 1), 0); !ok || len(got.Live) != 0 || !slices.Equal(got.Ages.Limbo, append(goneMany(99, 1, 5), goneAt(0, 5)...)) {
		t.Errorf("the hundredth in limbo: %+v, %v", got, ok)
	}
	for _, p := range []impl.Pool{{}, poolAt5([]int{1}, []int{1}, nil), poolAt5([]int{0}, []int{1, 2, 4}, nil), poolAt5(nil, []int{1, 0}, nil), {Live: []int{0, 1}}} {
		if got, ok := impl.GiveUp(p, 1); ok || !samePool(got, impl.Pool{}) {
			t.Errorf("GiveUp(%+v, 1) is %+v, %v", p, got, ok)
		}
	}
}

func TestReclaim(t *testing.T) {
	for _, x := range []struct {
		what string
		p    impl.Pool
		want impl.Pool
		out  []int
	}{
		{"nobody in limbo", poolAt5([]int{1, 0}, []int{2}, nil), poolAt5([]int{1, 0}, []int{2}, nil), nil},
		{"no place", poolAt5(nil, nil, nil), poolAt5(nil, nil, nil), nil},
		{"At is Age", poolAt5([]int{1}, nil, goneAt(0, 5)), poolAt5([]int{1}, nil, goneAt(0, 5)), nil},
		{"At is Age less 1", poolAt5([]int{1}, nil, goneAt(0, 4)), poolAt5([]int{1}, nil, goneAt(0, 4)), nil},
		{"At is Age less 2", poolAt5([]int{1}, nil, goneAt(0, 3)), poolAt5([]int{0, 1}, nil, nil), []int{0}},
		{"At is Age less 3", poolAt5([]int{1}, nil, goneAt(0, 2)), poolAt5([]int{0, 1}, nil, nil), []int{0}},
		{"all are too young", poolAt5([]int{1}, nil, goneAt(3, 4, 0, 4, 2, 5)), poolAt5([]int{1}, nil, goneAt(3, 4, 0, 4, 2, 5)), nil},
		{"some are old enough", poolAt5([]int{1}, []int{4}, goneAt(3, 0, 0, 3, 5, 4, 2, 5)), poolAt5([]int{3, 0, 1}, []int{4}, goneAt(5, 4, 2, 5)), []int{3, 0}},
		{"all are old enough", poolAt5([]int{5, 1}, []int{4}, goneAt(3, 0, 0, 1, 6, 3, 2, 3)), poolAt5([]int{3, 0, 6, 2, 5, 1}, []int{4}, nil), []int{3, 0, 6, 2}},
		{"none was free", poolAt5(nil, []int{1}, goneAt(2, 0, 0, 3)), poolAt5([]int{2, 0}, []int{1}, nil), []int{2, 0}},
		{"100 come out", splitPool(100, 0, 0), splitPool(100, 0, 0), nil},
	} {
		got, out := impl.Reclaim(x.p)
		if !samePool(got, x.want) || !slices.Equal(out, x.out) {
			t.Errorf("%s: Reclaim(%+v) is %+v, %v", x.what, x.p, got, out)
		}
	}
	p := splitPool(100, 0, 0)
	p.Ages.Age, p.Ages.Pins = 7, []int{-1, 6, 7}
	if got, out := impl.Reclaim(p); len(got.Ages.Limbo) != 0 || !slices.Equal(got.Free, places(0, 100)) || !slices.Equal(out, places(0, 100)) {
		t.Errorf("100 that are old enough: %+v, %v", got, out)
	}
	for _, p := range []impl.Pool{{}, poolAt5([]int{1}, nil, goneAt(1, 0)), poolAt5(nil, nil, goneAt(1, 0)), poolAt5(nil, []int{2, 1}, goneAt(0, 0)), {Ages: impl.Ages{Age: 5, Pins: []int{3}, Limbo: goneAt(0, 0)}}} {
		if got, out := impl.Reclaim(p); len(out) != 0 || !samePool(got, impl.Pool{}) {
			t.Errorf("Reclaim(%+v) is %+v, %v", p, got, out)
		}
	}
}

func TestEnterAndLeave(t *testing.T) {
	p := poolAt5([]int{4, 0}, []int{2, 5}, goneAt(3, 2, 1, 4))
	for _, x := range []struct {
		what string
		do   func(impl.Pool, int) (impl.Pool, bool)
		h    int
		pins []int
	}{
		{"enter", impl.Enter, 0, []int{5, 4, 5}},
		{"enter as one that has, in Age less 1", impl.Enter, 1, nil},
		{"enter as one that has, in Age", impl.Enter, 2, nil},
		{"enter as one beyond", impl.Enter, 3, nil},
		{"enter as one below 0", impl.Enter, -1, nil},
		{"enter as the greatest", impl.Enter, math.MaxInt, nil},
		{"enter as the least", impl.Enter, math.MinInt, nil},
		{"leave as one that hasn't entered", impl.Leave, 0, nil},
		{"leave, in Age less 1", impl.Leave, 1, []int{-1, -1, 5}},
		{"leave, in Age", impl.Leave, 2, []int{-1, 4, -1}},
		{"leave as one beyond", impl.Leave, 3, nil},
		{"leave as one below 0", impl.Leave, -1, nil},
		{"leave as the greatest", impl.Leave, math.MaxInt, nil},
		{"leave as the least", impl.Leave, math.MinInt, nil},
	} {
		want := impl.Pool{}
		if x.pins != nil {
			want = clonePool(p)
			want.Ages.Pins = x.pins
		}
		if got, ok := x.do(p, x.h); ok != (x.pins != nil) || !samePool(got, want) {
			t.Errorf("%s: %+v, %v", x.what, got, ok)
		}
	}
	for _, p := range []impl.Pool{{}, poolAt5([]int{1}, nil, nil), poolAt5([]int{0}, []int{0}, nil), poolAt5(nil, []int{1, 0}, nil)} {
		if got, ok := impl.Enter(p, 0); ok || !samePool(got, impl.Pool{}) {
			t.Errorf("Enter(%+v, 0) is %+v, %v", p, got, ok)
		}
		if got, ok := impl.Leave(p, 1); ok || !samePool(got, impl.Pool{}) {
			t.Errorf("Leave(%+v, 1) is %+v, %v", p, got, ok)
		}
	}
}

func TestTurn(t *testing.T) {
	for _, x := range []struct {
		what string
		age  int
		pins []int
		ok   bool
	}{
		{"nobody pinned", 5, []int{-1, -1}, true},
		{"nobody pinned, Age 4", 4, []int{-1}, true},
		{"all in Age", 5, []int{5, 5, 5}, true},
		{"some in Age", 5, []int{-1, 5}, true},
		{"one in Age less 1", 5, []int{4}, false},
		{"the last of 8 in Age less 1", 5, []int{5, 5, -1, -1, 5, 5, 5, 4}, false},
		{"the first of 8 in Age less 1", 5, []int{4, 5, -1, -1, 5, 5, 5, 5}, false},
		{"to MaxNum", lastAge - 1, []int{lastAge - 1, -1}, true},
		{"from MaxNum, nobody pinned", lastAge, []int{-1}, false},
		{"from MaxNum, all in Age", lastAge, []int{lastAge, lastAge}, false},
		{"from MaxNum, one in Age less 1", lastAge, []int{lastAge - 1}, false},
	} {
		p := impl.Pool{Free: []int{3, 0}, Live: []int{1, 5}, Ages: impl.Ages{Age: x.age, Pins: x.pins, Limbo: goneAt(2, 0, 4, x.age)}}
		want := clonePool(p)
		if x.ok {
			want.Ages.Age++
		}
		if got, ok := impl.Turn(p); ok != x.ok || !samePool(got, want) {
			t.Errorf("%s: Turn(%+v) is %+v, %v", x.what, p, got, ok)
		}
	}
	for _, p := range []impl.Pool{{}, {Ages: impl.Ages{Age: 5, Pins: []int{3}}}, {Free: []int{1}, Ages: impl.Ages{Pins: []int{-1}}}, {Free: []int{1}, Ages: impl.Ages{Age: 5, Pins: []int{4}}}, {Live: []int{1, 0}, Ages: impl.Ages{Pins: []int{-1}}}} {
		if got, ok := impl.Turn(p); ok || !samePool(got, impl.Pool{}) {
			t.Errorf("Turn(%+v) is %+v, %v", p, got, ok)
		}
	}
}

func TestMay(t *testing.T) {
	// 0 and 1 live, 2 and 3 are free, and 4 to 7 are in limbo since the epochs 2 to 5.
	p := poolAt5([]int{3, 2}, []int{0, 1}, goneAt(4, 2, 5, 3, 6, 4, 7, 5))
	for h, seen := range map[int][]int{
		0: nil,
		1: {0, 1, 6, 7},
		2: {0, 1, 7},
	} {
		for _, place := range append(places(0, 10), oddPlaces...) {
			if got := impl.May(p, h, place); got != slices.Contains(seen, place) {
				t.Errorf("May(%+v, %d, %d) is %v", p, h, place, got)
			}
		}
	}
	for _, h := range []int{3, 4, 7, 8, -1, -2, math.MaxInt, math.MinInt} {
		for _, place := range append(places(0, 10), oddPlaces...) {
			if impl.May(p, h, place) {
				t.Errorf("May(%+v, %d, %d)", p, h, place)
			}
		}
	}
	first := impl.Pool{Live: []int{0}, Ages: impl.Ages{Pins: []int{0, -1}, Limbo: goneAt(1, 0)}}
	if !impl.May(first, 0, 0) || !impl.May(first, 0, 1) || impl.May(first, 1, 0) || impl.May(first, 1, 1) {
		t.Errorf("May of %+v is wrong in epoch 0", first)
	}
	for _, p := range []impl.Pool{{}, poolAt5(nil, []int{0, 0}, nil), poolAt5([]int{0}, []int{0}, nil), poolAt5([]int{5}, []int{0}, nil), poolAt5(nil, []int{1, 0}, nil), poolAt5(nil, []int{0}, goneAt(0, 5)), {Live: []int{0}, Ages: impl.Ages{Age: 5, Pins: []int{5, 5, 3}}}} {
		for h := range 3 {
			if impl.May(p, h, 0) {
				t.Errorf("May(%+v, %d, 0)", p, h)
			}
		}
	}
}

// shortLists: all lists of up to this length of these ints.
func shortLists(of []int, most int) [][]int {
	l := [][]int{nil}
	for from := 0; most > 0; most-- {
		end := len(l)
		for _, head := range l[from:end] {
			for _, k := range of {
				l = append(l, append(slices.Clone(head), k))
			}
		}
		from = end
	}
	return l
}

// TestPoolsOfShortLists: all that three short lists may hold, so that each fault there is stands among them.
func TestPoolsOfShortLists(t *testing.T) {
	right := 0
	lists := shortLists([]int{-1, 0, 1, 2, 3}, 2)
	for _, free := range lists {
		for _, live := range lists {
			for _, nodes := range lists {
				p := poolAt5(free, live, nil)
				for i, node := range nodes {
					p.Ages.Limbo = append(p.Ages.Limbo, impl.Gone{Node: node, At: 3 + 2*i})
				}
				if poolOkSaid(p) {
					right++
					poolAsSaid(t, p, []int{-1, 0, 1, 2, 3}, []int{-1, 0, 1, 2, 3, 4, 5, 6})
				} else {
					poolAsSaid(t, p, []int{0, 1}, []int{1})
				}
			}
		}
	}
	if right < 50 {
		t.Errorf("only %d of them are right", right)
	}
}

// sharedOut: the pool of as many places as digits, each where its digit says: free, living, or in limbo with an At that begins at first and grows by one each time.
func sharedOut(digits []int, ages impl.Ages, first int) impl.Pool {
	p := impl.Pool{Ages: cloneAges(ages)}
	for place, digit := range digits {
		switch digit {
		case 0:
			p.Free = slices.Insert(p.Free, len(p.Free)/2, place)
		case 1:
			p.Live = append(p.Live, place)
		case 2:
			at := min(max(first+len(p.Ages.Limbo), 0), ages.Age)
			p.Ages.Limbo = append(p.Ages.Limbo, impl.Gone{Node: len(digits) - 1 - place, At: at})
		}
	}
	return p
}

// mirrored: places in limbo are told from the other end, so the digits must be alike from both ends.
func mirrored(digits []int) []int {
	back := slices.Clone(digits)
	slices.Reverse(back)
	return append(slices.Clone(digits), back...)
}

func TestRightPoolsAtManyArguments(t *testing.T) {
	ages := []impl.Ages{
		{Age: 0, Pins: []int{-1}},
		{Age: 0, Pins: []int{0, -1}},
		{Age: 1, Pins: []int{0, 1}},
		{Age: 2, Pins: []int{-1, 2, 1}},
		{Age: 5, Pins: []int{5, 4, -1, 5, 4, -1, 5, 4}},
		{Age: lastAge, Pins: []int{lastAge, -1, lastAge - 1}},
		{Age: lastAge, Pins: []int{-1}},
		{Age: lastAge - 1, Pins: []int{lastAge - 1}},
	}
	for _, a := range ages {
		for _, half := range shortLists([]int{0, 1, 2}, 3) {
			for _, first := range []int{a.Age - 4, a.Age - 2, a.Age - 1, a.Age} {
				p := sharedOut(mirrored(half), a, first)
				if !impl.PoolOk(p) {
					t.Fatalf("PoolOk(%+v) is false", p)
				}
				poolAsSaid(t, p, someHandles(a), append(places(-1, 8), oddPlaces...))
			}
		}
	}
}

func TestPoolsOfManyAges(t *testing.T) {
	for i, a := range manyAges() {
		p := impl.Pool{Ages: a}
		n := len(a.Limbo)
		switch i % 4 {
		case 1:
			p.Free = places(n, n+2)
		case 2:
			p.Live = places(n, n+2)
		case 3:
			p.Free, p.Live = []int{n + 3, n}, []int{n + 1, n + 2}
		}
		handles, spots := []int{0, len(a.Pins) - 1}, []int{n + 1}
		if poolOkSaid(p) {
			handles, spots = someHandles(a), append(someNodes, n, n+1, n+2)
		}
		poolAsSaid(t, p, handles, spots)
	}
}

// poolLists: for each list that a pool has, a call that writes into all of its memory.
func poolLists(p impl.Pool) []func() {
	return []func(){
		func() { fill(p.Free) },
		func() { fill(p.Live) },
		func() { fill(p.Ages.Pins) },
		func() { fillGone(p.Ages.Limbo) },
	}
}

// poolsWithRoom: pools for which each deed does something, their lists with something behind the ends. In the second all ints stand in one row, and so behind each list is another; in the last no place is free.
func poolsWithRoom() []impl.Pool {
	apart := poolAt5(withRoom([]int{4, 0}), withRoom([]int{2, 5}), withRoom(goneAt(3, 2, 1, 4)))
	apart.Ages.Pins = withRoom(apart.Ages.Pins)
	row := []int{4, 0, 2, 5, -1, 5, 5, 66, 77}
	gone := goneAt(3, 2, 1, 4, 88, 99)
	together := impl.Pool{Free: row[:2], Live: row[2:4], Ages: impl.Ages{Age: 5, Pins: row[4:7], Limbo: gone[:2]}}
	none := poolAt5(withRoom([]int{}), withRoom([]int{1, 2, 4, 5}), withRoom(goneAt(3, 2, 0, 3)))
	return []impl.Pool{apart, together, none}
}

func TestPoolsAnswerNewMemory(t *testing.T) {
	for _, d := range poolDeeds([]int{0, 1, 2, 3}, []int{2, 5, 0, 1, 7}) {
		for i := range poolsWithRoom() {
			p := poolsWithRoom()[i]
			// The row is looked at as far as its memory goes, since that behind its end is the caller's too.
			behind := func() impl.Pool {
				return impl.Pool{Free: p.Free[:cap(p.Free)], Live: p.Live[:cap(p.Live)], Ages: impl.Ages{Pins: p.Ages.Pins[:cap(p.Ages.Pins)], Limbo: p.Ages.Limbo[:cap(p.Ages.Limbo)]}}
			}
			before := clonePool(behind())
			want, right := d.said(p)
			first, told := d.do(p)
			other, again := d.do(p)
			for _, write := range poolLists(first) {
				write()
			}
			fill(told)
			if !samePool(behind(), before) {
				t.Errorf("%s of pool %d: the argument is now %+v", d.what, i, behind())
			}
			if !samePool(other, want) || !slices.Equal(again, right) {
				t.Errorf("%s of pool %d: two answers share memory, or one is wrong: %+v, %v", d.what, i, other, again)
			}
			for _, write := range poolLists(p) {
				write()
			}
			if !samePool(other, want) || !slices.Equal(again, right) {
				t.Errorf("%s of pool %d: the answer shares memory with the argument", d.what, i)
			}
		}
	}
}

func TestListsOfPoolsShareNothing(t *testing.T) {
	for _, d := range poolDeeds([]int{0, 1, 2}, []int{2, 5, 1}) {
		for i, p := range poolsWithRoom() {
			want, right := d.said(p)
			for k := range poolLists(want) {
				// The lists of hurt are apart, so there a write into one of them is to be seen in that one alone.
				got, told := d.do(p)
				hurt := clonePool(want)
				poolLists(got)[k]()
				poolLists(hurt)[k]()
				if !samePool(got, hurt) || !slices.Equal(told, right) {
					t.Errorf("%s of pool %d: the list %d shares memory with another", d.what, i, k)
				}
			}
			got, told := d.do(p)
			fill(told)
			if !samePool(got, want) {
				t.Errorf("%s of pool %d: what is told shares memory with the pool", d.what, i)
			}
		}
	}
}

// poolMove: a deed in a run, what it tells beside the pool, and what the pool is behind it.
type poolMove struct {
	d    poolDeed
	told []int
	p    impl.Pool
}

// poolRun does the moves one after the other; a move that answers nothing leaves the pool as it was.
func poolRun(t *testing.T, n int, handles int, moves []poolMove) {
	t.Helper()
	p, ok := impl.PoolNew(n, handles)
	if !ok {
		t.Fatalf("PoolNew(%d, %d) says false", n, handles)
	}
	for i, m := range moves {
		got, told := m.d.do(p)
		if !samePool(got, m.p) || !slices.Equal(told, m.told) {
			t.Fatalf("move %d, %s: %+v, %v", i, m.d.what, got, told)
		}
		if poolOkSaid(got) {
			p = got
		}
	}
}

// poolIn: a pool in this epoch with these pins.
func poolIn(age int, pins []int, free []int, live []int, limbo ...int) impl.Pool {
	return impl.Pool{Free: free, Live: live, Ages: impl.Ages{Age: age, Pins: pins, Limbo: goneAt(limbo...)}}
}

var (
	toldFalse = []int{0}
	noneFree  = []int{0, 0}
	nobodyIn  = []int{-1, -1}
	firstIn0  = []int{0, -1}
	firstIn1  = []int{1, -1}
	secondIn1 = []int{-1, 1}
	firstIn2  = []int{2, -1}
	in0And1   = []int{0, 1}
)

func TestAPlaceComesBackWhenNobodyMayLookAtIt(t *testing.T) {
	poolRun(t, 3, 2, []poolMove{
		{allocDeed(), []int{0, 1}, poolIn(0, nobodyIn, []int{1, 2}, []int{0})},
		{enterDeed(0), toldTrue, poolIn(0, firstIn0, []int{1, 2}, []int{0})},
		{allocDeed(), []int{1, 1}, poolIn(0, firstIn0, []int{2}, []int{0, 1})},
		{giveUpDeed(0), toldTrue, poolIn(0, firstIn0, []int{2}, []int{1}, 0, 0)},
		{giveUpDeed(0), toldFalse, impl.Pool{}},
		{giveUpDeed(2), toldFalse, impl.Pool{}},
		{reclaimDeed(), nil, poolIn(0, firstIn0, []int{2}, []int{1}, 0, 0)},
		{turnDeed(), toldTrue, poolIn(1, firstIn0, []int{2}, []int{1}, 0, 0)},
		{turnDeed(), toldFalse, poolIn(1, firstIn0, []int{2}, []int{1}, 0, 0)},
		{enterDeed(1), toldTrue, poolIn(1, in0And1, []int{2}, []int{1}, 0, 0)},
		{giveUpDeed(1), toldTrue, poolIn(1, in0And1, []int{2}, nil, 0, 0, 1, 1)},
		{allocDeed(), []int{2, 1}, poolIn(1, in0And1, nil, []int{2}, 0, 0, 1, 1)},
		{allocDeed(), noneFree, poolIn(1, in0And1, nil, []int{2}, 0, 0, 1, 1)},
		{reclaimDeed(), nil, poolIn(1, in0And1, nil, []int{2}, 0, 0, 1, 1)},
		{leaveDeed(0), toldTrue, poolIn(1, secondIn1, nil, []int{2}, 0, 0, 1, 1)},
		{leaveDeed(0), toldFalse, impl.Pool{}},
		{reclaimDeed(), nil, poolIn(1, secondIn1, nil, []int{2}, 0, 0, 1, 1)},
		{turnDeed(), toldTrue, poolIn(2, secondIn1, nil, []int{2}, 0, 0, 1, 1)},
		{turnDeed(), toldFalse, poolIn(2, secondIn1, nil, []int{2}, 0, 0, 1, 1)},
		{reclaimDeed(), []int{0}, poolIn(2, secondIn1, []int{0}, []int{2}, 1, 1)},
		{reclaimDeed(), nil, poolIn(2, secondIn1, []int{0}, []int{2}, 1, 1)},
		{allocDeed(), []int{0, 1}, poolIn(2, secondIn1, nil, []int{0, 2}, 1, 1)},
		{giveUpDeed(2), toldTrue, poolIn(2, secondIn1, nil, []int{0}, 1, 1, 2, 2)},
		{leaveDeed(1), toldTrue, poolIn(2, nobodyIn, nil, []int{0}, 1, 1, 2, 2)},
		{turnDeed(), toldTrue, poolIn(3, nobodyIn, nil, []int{0}, 1, 1, 2, 2)},
		{turnDeed(), toldTrue, poolIn(4, nobodyIn, nil, []int{0}, 1, 1, 2, 2)},
		{reclaimDeed(), []int{1, 2}, poolIn(4, nobodyIn, []int{1, 2}, []int{0})},
		{giveUpDeed(0), toldTrue, poolIn(4, nobodyIn, []int{1, 2}, nil, 0, 4)},
		{turnDeed(), toldTrue, poolIn(5, nobodyIn, []int{1, 2}, nil, 0, 4)},
		{reclaimDeed(), nil, poolIn(5, nobodyIn, []int{1, 2}, nil, 0, 4)},
		{turnDeed(), toldTrue, poolIn(6, nobodyIn, []int{1, 2}, nil, 0, 4)},
		{reclaimDeed(), []int{0}, poolIn(6, nobodyIn, []int{0, 1, 2}, nil)},
	})
}

func TestAHandleThatComesAgainLetsTheEpochsGoOn(t *testing.T) {
	poolRun(t, 2, 2, []poolMove{
		{allocDeed(), []int{0, 1}, poolIn(0, nobodyIn, []int{1}, []int{0})},
		{giveUpDeed(0), toldTrue, poolIn(0, nobodyIn, []int{1}, nil, 0, 0)},
		{enterDeed(0), toldTrue, poolIn(0, firstIn0, []int{1}, nil, 0, 0)},
		{enterDeed(0), toldFalse, impl.Pool{}},
		{turnDeed(), toldTrue, poolIn(1, firstIn0, []int{1}, nil, 0, 0)},
		{turnDeed(), toldFalse, poolIn(1, firstIn0, []int{1}, nil, 0, 0)},
		{leaveDeed(0), toldTrue, poolIn(1, nobodyIn, []int{1}, nil, 0, 0)},
		{enterDeed(0), toldTrue, poolIn(1, firstIn1, []int{1}, nil, 0, 0)},
		{turnDeed(), toldTrue, poolIn(2, firstIn1, []int{1}, nil, 0, 0)},
		{turnDeed(), toldFalse, poolIn(2, firstIn1, []int{1}, nil, 0, 0)},
		{reclaimDeed(), []int{0}, poolIn(2, firstIn1, []int{0, 1}, nil)},
		{leaveDeed(0), toldTrue, poolIn(2, nobodyIn, []int{0, 1}, nil)},
		{enterDeed(0), toldTrue, poolIn(2, firstIn2, []int{0, 1}, nil)},
		{turnDeed(), toldTrue, poolIn(3, firstIn2, []int{0, 1}, nil)},
		{enterDeed(2), toldFalse, impl.Pool{}},
		{leaveDeed(1), toldFalse, impl.Pool{}},
	})
}

// poolStory: a pool with what only who saw the whole run knows: for each handle that is in, how often the epochs went on since it entered, and the places that have lived at some time since then; held are those that Alloc gave out and nobody gave up.
type poolStory struct {
	p     impl.Pool
	size  int
	since []int
	sight [][]int
	held  []int
}

func newPoolStory(t *testing.T, n int, handles int) poolStory {
	t.Helper()
	p, ok := impl.PoolNew(n, handles)
	if !ok {
		t.Fatalf("PoolNew(%d, %d) says false", n, handles)
	}
	return poolStory{p: p, size: n, since: make([]int, handles), sight: make([][]int, handles)}
}

func (s poolStory) copied(p impl.Pool) poolStory {
	next := poolStory{p: p, size: s.size, since: slices.Clone(s.since), held: slices.Clone(s.held)}
	for _, seen := range s.sight {
		next.sight = append(next.sight, slices.Clone(seen))
	}
	return next
}

// done does a deed and holds it against what chapter 10 says. A deed that answers nothing leaves the story as it is.
func (s poolStory) done(t *testing.T, d poolDeed) (poolStory, []int) {
	t.Helper()
	before := clonePool(s.p)
	p, told := d.do(s.p)
	if want, right := d.said(s.p); !samePool(p, want) || !slices.Equal(told, right) {
		t.Fatalf("%s of %+v: %+v, %v", d.what, s.p, p, told)
	}
	if !samePool(s.p, before) {
		t.Fatalf("%s changed %+v to %+v", d.what, before, s.p)
	}
	if samePool(p, impl.Pool{}) {
		p = s.p
	}
	return s.copied(p), told
}

// look holds the pool against the story: each place stands in just one list, what lives is what is held, and who has entered may look at all that has lived since then, none of which is free.
func (s poolStory) look(t *testing.T) {
	t.Helper()
	all := slices.Concat(s.p.Free, s.p.Live, nodesGone(s.p.Ages))
	if !impl.PoolOk(s.p) || !slices.Equal(slices.Sorted(slices.Values(all)), places(0, s.size)) {
		t.Fatalf("%+v isn't a pool of %d places", s.p, s.size)
	}
	if !slices.Equal(s.p.Live, slices.Sorted(slices.Values(s.held))) {
		t.Fatalf("%+v: held are %v", s.p, s.held)
	}
	for h, seen := range s.sight {
		if s.since[h] > 1 {
			t.Fatalf("%+v: the epochs went on %d times since %d entered", s.p, s.since[h], h)
		}
		for _, place := range seen {
			if slices.Contains(s.p.Free, place) || !impl.May(s.p, h, place) {
				t.Fatalf("%+v: %d has seen %d alive since it entered, and may not look at it any more", s.p, h, place)
			}
		}
		for place := range s.size {
			if impl.May(s.p, h, place) && slices.Contains(s.p.Free, place) {
				t.Fatalf("%+v: %d may look at %d, which is free", s.p, h, place)
			}
		}
	}
}

func (s poolStory) pinned() []int {
	var l []int
	for h, pin := range s.p.Ages.Pins {
		if pin >= 0 {
			l = append(l, h)
		}
	}
	return l
}

func (s poolStory) alloc(t *testing.T) (poolStory, bool) {
	t.Helper()
	next, told := s.done(t, allocDeed())
	if told[1] == 0 {
		return next, false
	}
	if !slices.Contains(s.p.Free, told[0]) || slices.Contains(s.held, told[0]) {
		t.Fatalf("Alloc(%+v) gives out %d, which wasn't free", s.p, told[0])
	}
	next.held = append(next.held, told[0])
	for _, h := range s.pinned() {
		next.sight[h] = append(next.sight[h], told[0])
	}
	return next, true
}

func (s poolStory) giveUp(t *testing.T, place int) (poolStory, bool) {
	t.Helper()
	next, told := s.done(t, giveUpDeed(place))
	if told[0] == 0 {
		return next, false
	}
	next.held = slices.DeleteFunc(next.held, func(k int) bool { return k == place })
	return next, true
}

// reclaim tells as its bool whether anything came out; what comes out nobody has seen alive who is in.
func (s poolStory) reclaim(t *testing.T) (poolStory, bool) {
	t.Helper()
	next, out := s.done(t, reclaimDeed())
	for _, place := range out {
		for _, h := range s.pinned() {
			if impl.May(s.p, h, place) || slices.Contains(s.sight[h], place) {
				t.Fatalf("Reclaim(%+v) lets go %d, at which %d may look", s.p, place, h)
			}
		}
	}
	return next, len(out) > 0
}

func (s poolStory) enter(t *testing.T, h int) (poolStory, bool) {
	t.Helper()
	next, told := s.done(t, enterDeed(h))
	if told[0] == 1 {
		next.since[h], next.sight[h] = 0, slices.Clone(s.p.Live)
	}
	return next, told[0] == 1
}

func (s poolStory) leave(t *testing.T, h int) (poolStory, bool) {
	t.Helper()
	next, told := s.done(t, leaveDeed(h))
	if told[0] == 1 {
		next.since[h], next.sight[h] = 0, nil
	}
	return next, told[0] == 1
}

func (s poolStory) turn(t *testing.T) (poolStory, bool) {
	t.Helper()
	next, told := s.done(t, turnDeed())
	for _, h := range s.pinned() {
		next.since[h] += told[0]
	}
	return next, told[0] == 1
}

// cleared: with nobody in any more, all who are in limbo come out when the epochs have gone on twice.
func (s poolStory) cleared(t *testing.T) {
	t.Helper()
	for _, h := range s.pinned() {
		s, _ = s.leave(t, h)
	}
	for range 2 {
		next, ok := s.turn(t)
		if !ok {
			t.Fatalf("Turn(%+v) says false, with nobody in", s.p)
		}
		s = next
	}
	if s, _ = s.reclaim(t); len(s.p.Ages.Limbo) > 0 || len(s.p.Free)+len(s.p.Live) != s.size {
		t.Fatalf("%+v is left, with nobody in and two epochs on", s.p)
	}
	s.look(t)
}

// nexts: what may come to pass next.
func (s poolStory) nexts(t *testing.T) []poolStory {
	t.Helper()
	var l []poolStory
	put := func(next poolStory, ok bool) {
		if ok {
			l = append(l, next)
		}
	}
	for h := range s.p.Ages.Pins {
		put(s.enter(t, h))
		put(s.leave(t, h))
	}
	for place := range s.size {
		put(s.giveUp(t, place))
	}
	put(s.alloc(t))
	put(s.turn(t))
	put(s.reclaim(t))
	return l
}

func (s poolStory) tryAllMoves(t *testing.T, deep int) int {
	t.Helper()
	s.look(t)
	if deep == 0 {
		s.cleared(t)
		return 1
	}
	n := 1
	for _, next := range s.nexts(t) {
		n += next.tryAllMoves(t, deep-1)
	}
	return n
}

func TestAllOrdersOfMovesOnPools(t *testing.T) {
	for _, x := range []struct {
		size    int
		handles int
		deep    int
		least   int
	}{
		{1, 1, 9, 1000},
		{2, 1, 7, 1000},
		{1, 2, 7, 1000},
		{2, 2, 6, 1000},
		{3, 2, 5, 500},
		{2, 3, 5, 500},
	} {
		if n := newPoolStory(t, x.size, x.handles).tryAllMoves(t, x.deep); n < x.least {
			t.Errorf("%d places, %d handles: only %d runs", x.size, x.handles, n)
		}
	}
}

// move does one of the moves that there are, by these numbers; those that give up come as often as those that give out.
func (s poolStory) move(t *testing.T, next func(below int) int) (poolStory, bool) {
	t.Helper()
	h := next(len(s.since)+2) - 1
	switch pick := next(12); pick {
	case 0, 1:
		return s.enter(t, h)
	case 2, 3:
		return s.leave(t, h)
	case 4:
		return s.turn(t)
	case 5:
		return s.reclaim(t)
	case 6, 7, 8:
		return s.giveUp(t, next(s.size+2)-1)
	}
	return s.alloc(t)
}

func TestLongRunsOnPools(t *testing.T) {
	for i, size := range []int{1, 2, 3, 5, 8, 20, 99, 100} {
		for _, handles := range []int{1 + i%3, 8} {
			s, next := newPoolStory(t, size, handles), storyNumbers(31*size+handles)
			came := 0
			for k := range 1500 {
				later, ok := s.move(t, next)
				came += oneIf(ok && len(later.p.Free) > len(s.p.Free))
				s = later
				// In great pools a look takes long.
				if k%(1+size/4) == 0 {
					s.look(t)
				}
			}
			s.cleared(t)
			if came == 0 || s.p.Ages.Age < 3 {
				t.Errorf("%d places, %d handles: places came back %d times, at the end %+v", size, handles, came, s.p)
			}
		}
	}
}

// TestAllPlacesGoRound: all of 100 places are given out, given up and come out, in the order in which they were given up.
func TestAllPlacesGoRound(t *testing.T) {
	s := newPoolStory(t, 100, 1)
	s, _ = s.enter(t, 0)
	for range 100 {
		s, _ = s.alloc(t)
	}
	s.look(t)
	for k := range 100 {
		s, _ = s.giveUp(t, 99-k)
	}
	s.look(t)
	if len(s.p.Ages.Limbo) != 100 {
		t.Fatalf("%d are in limbo", len(s.p.Ages.Limbo))
	}
	s, _ = s.leave(t, 0)
	s, _ = s.turn(t)
	if _, ok := s.reclaim(t); ok {
		t.Error("they come out in the epoch behind that in which they were given up")
	}
	s, _ = s.turn(t)
	s, _ = s.reclaim(t)
	back := places(0, 100)
	slices.Reverse(back)
	if !slices.Equal(s.p.Free, back) {
		t.Errorf("free are %v", s.p.Free)
	}
}

func TestPoolsInTheLastEpochs(t *testing.T) {
	p := impl.Pool{Free: []int{1}, Live: []int{0}, Ages: impl.Ages{Age: lastAge - 1, Pins: []int{lastAge - 2, -1}, Limbo: goneAt(2, lastAge-2)}}
	if q, ok := impl.Turn(p); ok || !samePool(q, p) {
		t.Fatalf("Turn(%+v) is %+v, %v", p, q, ok)
	}
	p, _ = impl.Leave(p, 0)
	p, ok := impl.Turn(p)
	if !ok || p.Ages.Age != lastAge {
		t.Fatalf("to MaxNum: %+v, %v", p, ok)
	}
	p, out := impl.Reclaim(p)
	if !slices.Equal(out, []int{2}) || !slices.Equal(p.Free, []int{2, 1}) {
		t.Fatalf("at MaxNum: %+v, %v", p, out)
	}
	// There is no epoch behind it, so what is given up now stays in limbo.
	p, ok = impl.GiveUp(p, 0)
	if q, on := impl.Turn(p); !ok || on || !samePool(q, p) {
		t.Errorf("from MaxNum: %+v, %v", q, on)
	}
	if q, out := impl.Reclaim(p); len(out) != 0 || !samePool(q, p) {
		t.Errorf("given up in MaxNum: %+v, %v", q, out)
	}
}
