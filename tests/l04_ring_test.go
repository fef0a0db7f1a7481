package tests

import (
	"fmt"
	"math"
	"math/big"
	"slices"
	"testing"

	"loop.example/g00724/impl"
)

// noRingSizes: ints that are no size of a ring.
var noRingSizes = append([]int{1}, noSizes...)

// placeIn: the number k mod n, reckoned without the program's own.
func placeIn(n int, k int) int {
	return int(new(big.Int).Mod(big.NewInt(int64(k)), big.NewInt(int64(n))).Int64())
}

// leadOf: -1, 0 or 1 as a - b, cut to 64 bits, is below, at or above 0.
func leadOf(a int, b int) int {
	d := uint64(a) - uint64(b)
	switch {
	case d == 0:
		return 0
	case d>>63 == 1:
		return -1
	}
	return 1
}

// actOfRing: what chapter 5 says of the next act of a call.
func actOfRing(n int, c impl.Call) (impl.Act, bool) {
	if n < 2 || n > 16 || c.Done || c.Kind != 1 && c.Kind != 2 {
		return impl.Act{}, false
	}
	seq := 2 + 2*placeIn(n, c.P)
	put := c.Kind == 1
	switch {
	case c.Pc == 0:
		return impl.Act{Kind: 1, At: c.Kind - 1}, true
	case c.Pc == 1:
		return impl.Act{Kind: 1, At: seq}, true
	case c.Pc == 2:
		return impl.Act{Kind: 3, At: c.Kind - 1, A: c.P, B: c.P + 1}, true
	case c.Pc == 3 && put:
		return impl.Act{Kind: 2, At: seq + 1, A: c.A}, true
	case c.Pc == 3:
		return impl.Act{Kind: 1, At: seq + 1}, true
	case c.Pc == 4 && put:
		return impl.Act{Kind: 2, At: seq, A: c.P + 1}, true
	case c.Pc == 4:
		return impl.Act{Kind: 2, At: seq, A: c.P + n}, true
	}
	return impl.Act{}, false
}

// stepOfRing: what chapter 5 says of a step, done on the cells themselves.
func stepOfRing(n int, cells []int, c impl.Call) ([]int, impl.Call, bool) {
	a, ok := actOfRing(n, c)
	if !ok || len(cells) != 2*n+2 {
		return nil, impl.Call{}, false
	}
	next := slices.Clone(cells)
	pc := c.Pc + 1
	switch c.Pc {
	case 0:
		c.P = next[a.At]
	case 1:
		c.C = next[a.At]
		awaited, res := c.P, 3
		if c.Kind == 2 {
			awaited, res = c.P+1, 2
		}
		switch leadOf(c.C, awaited) {
		case -1:
			c.Done, c.Res = true, res
		case 1:
			pc = 0
		}
	case 2:
		if next[a.At] == c.P {
			next[a.At] = c.P + 1
		} else {
			pc = 0
		}
	case 3:
		if c.Kind == 1 {
			next[a.At] = c.A
		} else {
			c.V = next[a.At]
		}
	case 4:
		next[a.At] = a.A
		c.Done, c.Res = true, 1
	}
	c.Pc = pc
	return next, c, true
}

// manyNumbers: numbers of values at the edges for a ring of size n.
func manyNumbers(n int) []int {
	return []int{0, 1, n - 1, n, n + 1, 2*n - 1, 2 * n, 5*n + 1, -1, -n, -n - 1, 1 - n, 4294967295, 4294967296, math.MaxInt, math.MaxInt - 1, math.MaxInt - n, math.MinInt, math.MinInt + 1, math.MinInt + n}
}

// manyRingCalls: each kind and some that are none, at and beside each step, with numbers and values at their edges. What a step doesn't ask for is not 0.
func manyRingCalls(n int) []impl.Call {
	var l []impl.Call
	for _, kind := range []int{1, 2, 0, -1, 3, 4, 1<<32 + 1, math.MaxInt, math.MinInt} {
		for _, pc := range []int{0, 1, 2, 3, 4, -1, 5, 6, 1 << 32, math.MaxInt, math.MinInt} {
			for _, a := range []int{0, 7, -1, math.MaxInt, math.MinInt} {
				for _, p := range manyNumbers(n) {
					l = append(l, impl.Call{Kind: kind, A: a, X: -3, Pc: pc, P: p, C: 41, W: -9, Res: 4, V: 77})
				}
			}
		}
	}
	return l
}

// ringFrom: the cells of an empty ring whose next number is k.
func ringFrom(n int, k int) impl.Mem {
	cells := make([]int, 2+2*n)
	cells[0], cells[1] = k, k
	for i := range n {
		cells[2+2*placeIn(n, k+i)] = k + i
	}
	return impl.Mem{Cells: cells}
}

func putOf(a int) impl.Call { return impl.RiCall(impl.RiPut, a) }

func getOf() impl.Call { return impl.RiCall(impl.RiGet, 0) }

// turnOn makes so many steps on a ring, all of which must come to pass.
func turnOn(t *testing.T, n int, m impl.Mem, c impl.Call, steps int) (impl.Mem, impl.Call) {
	t.Helper()
	for range steps {
		next, behind, ok := impl.RiStep(n, m, c)
		if !ok {
			t.Fatalf("RiStep(%d, %v, %+v) says false", n, m.Cells, c)
		}
		m, c = next, behind
	}
	return m, c
}

func newRing(t *testing.T, n int) impl.Mem {
	t.Helper()
	m, ok := impl.RiNew(n)
	if !ok {
		t.Fatalf("RiNew(%d) says false", n)
	}
	return m
}

func TestRingConstants(t *testing.T) {
	if impl.RiPut != 1 || impl.RiGet != 2 {
		t.Errorf("RiPut %d, RiGet %d", impl.RiPut, impl.RiGet)
	}
}

func TestRiNew(t *testing.T) {
	for _, x := range []struct {
		n    int
		want []int
	}{
		{2, []int{0, 0, 0, 0, 1, 0}},
		{3, []int{0, 0, 0, 0, 1, 0, 2, 0}},
		{15, []int{0, 0, 0, 0, 1, 0, 2, 0, 3, 0, 4, 0, 5, 0, 6, 0, 7, 0, 8, 0, 9, 0, 10, 0, 11, 0, 12, 0, 13, 0, 14, 0}},
		{16, []int{0, 0, 0, 0, 1, 0, 2, 0, 3, 0, 4, 0, 5, 0, 6, 0, 7, 0, 8, 0, 9, 0, 10, 0, 11, 0, 12, 0, 13, 0, 14, 0, 15, 0}},
	} {
		m, ok := impl.RiNew(x.n)
		if !ok || !slices.Equal(m.Cells, x.want) {
			t.Errorf("RiNew(%d) = %v, %v, want %v, true", x.n, m.Cells, ok, x.want)
		}
		fill(m.Cells)
		if again, _ := impl.RiNew(x.n); !slices.Equal(again.Cells, x.want) {
			t.Errorf("RiNew(%d) answers memory that it had given out: %v", x.n, again.Cells)
		}
	}
	for n := 2; n <= 16; n++ {
		m := newRing(t, n)
		if !slices.Equal(m.Cells, ringFrom(n, 0).Cells) || len(impl.RiItems(n, m)) != 0 {
			t.Errorf("RiNew(%d) = %v, with %v in it", n, m.Cells, impl.RiItems(n, m))
		}
	}
}

func TestRiNewRefuses(t *testing.T) {
	for _, n := range noRingSizes {
		if m, ok := impl.RiNew(n); len(m.Cells) != 0 || ok {
			t.Errorf("RiNew(%d) = %v, %v", n, m.Cells, ok)
		}
	}
}

func TestRiCall(t *testing.T) {
	for _, a := range someInts {
		if got := impl.RiCall(1, a); got != (impl.Call{Kind: 1, A: a}) {
			t.Errorf("RiCall of a put of %d = %+v", a, got)
		}
		if got := impl.RiCall(2, a); got != (impl.Call{Kind: 2}) {
			t.Errorf("RiCall of a get with %d = %+v", a, got)
		}
		for _, kind := range append([]int{3, 4}, noKinds...) {
			if got := impl.RiCall(kind, a); got != (impl.Call{}) {
				t.Errorf("RiCall(%d, %d) = %+v", kind, a, got)
			}
		}
	}
}

func TestRiAct(t *testing.T) {
	const load, store, cas = impl.AcLoad, impl.AcStore, impl.AcCas
	for _, x := range []struct {
		what string
		n    int
		c    impl.Call
		want impl.Act
	}{
		{"a put begins", 3, putOf(8), impl.Act{Kind: load}},
		{"a put begins with a P", 3, impl.Call{Kind: 1, P: 2, C: 9}, impl.Act{Kind: load}},
		{"a put looks at seq", 3, impl.Call{Kind: 1, Pc: 1}, impl.Act{Kind: load, At: 2}},
		{"of n - 1", 3, impl.Call{Kind: 1, Pc: 1, P: 2}, impl.Act{Kind: load, At: 6}},
		{"of n", 3, impl.Call{Kind: 1, Pc: 1, P: 3}, impl.Act{Kind: load, At: 2}},
		{"of many rounds on", 3, impl.Call{Kind: 1, Pc: 1, P: 301}, impl.Act{Kind: load, At: 4}},
		{"of one below 0", 3, impl.Call{Kind: 1, Pc: 1, P: -1}, impl.Act{Kind: load, At: 6}},
		{"of n below 0", 3, impl.Call{Kind: 1, Pc: 1, P: -3}, impl.Act{Kind: load, At: 2}},
		{"of the greatest", 3, impl.Call{Kind: 1, Pc: 1, P: math.MaxInt}, impl.Act{Kind: load, At: 4}},
		{"of the least", 3, impl.Call{Kind: 1, Pc: 1, P: math.MinInt}, impl.Act{Kind: load, At: 4}},
		{"of the least, n 16", 16, impl.Call{Kind: 1, Pc: 1, P: math.MinInt}, impl.Act{Kind: load, At: 2}},
		{"of the greatest, n 16", 16, impl.Call{Kind: 1, Pc: 1, P: math.MaxInt}, impl.Act{Kind: load, At: 32}},
		{"a put takes its number", 3, impl.Call{Kind: 1, Pc: 2, P: 5, C: 9}, impl.Act{Kind: cas, A: 5, B: 6}},
		{"takes one below 0", 3, impl.Call{Kind: 1, Pc: 2, P: -1}, impl.Act{Kind: cas, A: -1}},
		{"takes the greatest", 3, impl.Call{Kind: 1, Pc: 2, P: math.MaxInt}, impl.Act{Kind: cas, A: math.MaxInt, B: math.MinInt}},
		{"a put stores its value", 3, impl.Call{Kind: 1, A: 8, Pc: 3, P: 5}, impl.Act{Kind: store, At: 7, A: 8}},
		{"stores one below 0", 3, impl.Call{Kind: 1, A: -8, Pc: 3, P: 3}, impl.Act{Kind: store, At: 3, A: -8}},
		{"stores the least at one below 0", 3, impl.Call{Kind: 1, A: math.MinInt, Pc: 3, P: -2}, impl.Act{Kind: store, At: 5, A: math.MinInt}},
		{"a put gives free", 3, impl.Call{Kind: 1, A: 8, Pc: 4, P: 5}, impl.Act{Kind: store, At: 6, A: 6}},
		{"gives free one below 0", 3, impl.Call{Kind: 1, A: 8, Pc: 4, P: -1}, impl.Act{Kind: store, At: 6}},
		{"gives free the greatest", 4, impl.Call{Kind: 1, Pc: 4, P: math.MaxInt}, impl.Act{Kind: store, At: 8, A: math.MinInt}},
		{"a get begins", 3, getOf(), impl.Act{Kind: load, At: 1}},
		{"a get begins with an A", 3, impl.Call{Kind: 2, A: 99, P: -1}, impl.Act{Kind: load, At: 1}},
		{"a get looks at seq", 3, impl.Call{Kind: 2, Pc: 1, P: 4}, impl.Act{Kind: load, At: 4}},
		{"a get looks at seq of one below 0", 3, impl.Call{Kind: 2, Pc: 1, P: -1}, impl.Act{Kind: load, At: 6}},
		{"a get takes its number", 3, impl.Call{Kind: 2, Pc: 2, P: 5}, impl.Act{Kind: cas, At: 1, A: 5, B: 6}},
		{"a get takes the greatest", 3, impl.Call{Kind: 2, Pc: 2, P: math.MaxInt}, impl.Act{Kind: cas, At: 1, A: math.MaxInt, B: math.MinInt}},
		{"a get loads its value", 3, impl.Call{Kind: 2, A: 8, Pc: 3, P: 5}, impl.Act{Kind: load, At: 7}},
		{"a get gives free", 3, impl.Call{Kind: 2, A: 8, Pc: 4, P: 5}, impl.Act{Kind: store, At: 6, A: 8}},
		{"a get gives free one below 0", 3, impl.Call{Kind: 2, Pc: 4, P: -3}, impl.Act{Kind: store, At: 2}},
		{"a get gives free the greatest", 4, impl.Call{Kind: 2, Pc: 4, P: math.MaxInt}, impl.Act{Kind: store, At: 8, A: math.MinInt + 3}},
		{"the least size", 2, impl.Call{Kind: 2, Pc: 4, P: 3}, impl.Act{Kind: store, At: 4, A: 5}},
		{"the greatest size", 16, impl.Call{Kind: 2, Pc: 4, P: 15}, impl.Act{Kind: store, At: 32, A: 31}},
	} {
		if got, ok := impl.RiAct(x.n, x.c); got != x.want || !ok {
			t.Errorf("%s: RiAct(%d, %+v) = %+v, %v, want %+v, true", x.what, x.n, x.c, got, ok, x.want)
		}
	}
}

func TestRiActRefuses(t *testing.T) {
	for _, c := range []impl.Call{
		{}, {Kind: 3}, {Kind: -1}, {Kind: 0, Pc: 1},
		{Kind: 1, Pc: -1}, {Kind: 2, Pc: -1}, {Kind: 1, Pc: 5}, {Kind: 2, Pc: 5}, {Kind: 1, Pc: math.MinInt}, {Kind: 2, Pc: math.MaxInt},
		{Kind: 1, Done: true}, {Kind: 2, Done: true}, {Kind: 1, Pc: 2, Done: true}, {Kind: 2, Pc: 4, Done: true},
	} {
		for _, n := range []int{2, 3, 16} {
			if got, ok := impl.RiAct(n, c); got != (impl.Act{}) || ok {
				t.Errorf("RiAct(%d, %+v) = %+v, %v", n, c, got, ok)
			}
		}
	}
	for _, n := range noRingSizes {
		for pc := range 5 {
			for kind := 1; kind <= 2; kind++ {
				if got, ok := impl.RiAct(n, impl.Call{Kind: kind, Pc: pc}); got != (impl.Act{}) || ok {
					t.Errorf("RiAct(%d) of kind %d at %d = %+v, %v", n, kind, pc, got, ok)
				}
			}
		}
	}
}

func TestRiActAtManyCalls(t *testing.T) {
	for _, n := range append([]int{2, 3, 4, 7, 15, 16}, noRingSizes...) {
		for _, c := range manyRingCalls(n) {
			for _, done := range []bool{false, true} {
				c.Done = done
				want, right := actOfRing(n, c)
				if got, ok := impl.RiAct(n, c); got != want || ok != right {
					t.Fatalf("RiAct(%d, %+v) = %+v, %v, want %+v, %v", n, c, got, ok, want, right)
				}
			}
		}
	}
}

// An act that RiAct tells is right for the cells of such a ring.
func TestRiActTellsActsThatAreRight(t *testing.T) {
	for n := 2; n <= 16; n++ {
		m := newRing(t, n)
		for _, c := range manyRingCalls(n) {
			if a, ok := impl.RiAct(n, c); ok && !impl.ActOk(m, a) {
				t.Fatalf("RiAct(%d, %+v) = %+v", n, c, a)
			}
		}
	}
}

// behindStep: all that the cells and the call are behind a step.
type behindStep struct {
	cells []int
	c     impl.Call
}

// walkRing takes a call through these steps and then asks for one more.
func walkRing(t *testing.T, what string, n int, m impl.Mem, c impl.Call, steps []behindStep) {
	t.Helper()
	for i, x := range steps {
		m, c = turnOn(t, n, m, c, 1)
		if !slices.Equal(m.Cells, x.cells) || c != x.c {
			t.Fatalf("%s, step %d: %v, %+v, want %v, %+v", what, i, m.Cells, c, x.cells, x.c)
		}
	}
	if next, behind, ok := impl.RiStep(n, m, c); len(next.Cells) != 0 || behind != (impl.Call{}) || ok {
		t.Errorf("%s: a call that is done goes on: %v, %+v, %v", what, next.Cells, behind, ok)
	}
}

func TestPutStepByStep(t *testing.T) {
	walkRing(t, "the first put", 2, newRing(t, 2), putOf(8), []behindStep{
		{[]int{0, 0, 0, 0, 1, 0}, impl.Call{Kind: 1, A: 8, Pc: 1}},
		{[]int{0, 0, 0, 0, 1, 0}, impl.Call{Kind: 1, A: 8, Pc: 2}},
		{[]int{1, 0, 0, 0, 1, 0}, impl.Call{Kind: 1, A: 8, Pc: 3}},
		{[]int{1, 0, 0, 8, 1, 0}, impl.Call{Kind: 1, A: 8, Pc: 4}},
		{[]int{1, 0, 1, 8, 1, 0}, impl.Call{Kind: 1, A: 8, Pc: 5, Res: impl.ReOk, Done: true}},
	})
	walkRing(t, "a put some rounds on", 3, impl.Mem{Cells: []int{7, 6, 7, 60, 7, 40, 8, 50}}, putOf(-5), []behindStep{
		{[]int{7, 6, 7, 60, 7, 40, 8, 50}, impl.Call{Kind: 1, A: -5, Pc: 1, P: 7}},
		{[]int{7, 6, 7, 60, 7, 40, 8, 50}, impl.Call{Kind: 1, A: -5, Pc: 2, P: 7, C: 7}},
		{[]int{8, 6, 7, 60, 7, 40, 8, 50}, impl.Call{Kind: 1, A: -5, Pc: 3, P: 7, C: 7}},
		{[]int{8, 6, 7, 60, 7, -5, 8, 50}, impl.Call{Kind: 1, A: -5, Pc: 4, P: 7, C: 7}},
		{[]int{8, 6, 7, 60, 8, -5, 8, 50}, impl.Call{Kind: 1, A: -5, Pc: 5, P: 7, C: 7, Res: impl.ReOk, Done: true}},
	})
	walkRing(t, "a put with the number -1", 2, ringFrom(2, -1), putOf(4), []behindStep{
		{[]int{-1, -1, 0, 0, -1, 0}, impl.Call{Kind: 1, A: 4, Pc: 1, P: -1}},
		{[]int{-1, -1, 0, 0, -1, 0}, impl.Call{Kind: 1, A: 4, Pc: 2, P: -1, C: -1}},
		{[]int{0, -1, 0, 0, -1, 0}, impl.Call{Kind: 1, A: 4, Pc: 3, P: -1, C: -1}},
		{[]int{0, -1, 0, 0, -1, 4}, impl.Call{Kind: 1, A: 4, Pc: 4, P: -1, C: -1}},
		{[]int{0, -1, 0, 0, 0, 4}, impl.Call{Kind: 1, A: 4, Pc: 5, P: -1, C: -1, Res: impl.ReOk, Done: true}},
	})
	walkRing(t, "a put on what is full", 2, impl.Mem{Cells: []int{2, 0, 1, 8, 2, 9}}, putOf(7), []behindStep{
		{[]int{2, 0, 1, 8, 2, 9}, impl.Call{Kind: 1, A: 7, Pc: 1, P: 2}},
		{[]int{2, 0, 1, 8, 2, 9}, impl.Call{Kind: 1, A: 7, Pc: 2, P: 2, C: 1, Res: impl.ReFull, Done: true}},
	})
}

func TestGetStepByStep(t *testing.T) {
	walkRing(t, "the first get", 2, impl.Mem{Cells: []int{1, 0, 1, 8, 1, 0}}, getOf(), []behindStep{
		{[]int{1, 0, 1, 8, 1, 0}, impl.Call{Kind: 2, Pc: 1}},
		{[]int{1, 0, 1, 8, 1, 0}, impl.Call{Kind: 2, Pc: 2, C: 1}},
		{[]int{1, 1, 1, 8, 1, 0}, impl.Call{Kind: 2, Pc: 3, C: 1}},
		{[]int{1, 1, 1, 8, 1, 0}, impl.Call{Kind: 2, Pc: 4, C: 1, V: 8}},
		{[]int{1, 1, 2, 8, 1, 0}, impl.Call{Kind: 2, Pc: 5, C: 1, Res: impl.ReOk, V: 8, Done: true}},
	})
	walkRing(t, "a get some rounds on", 3, impl.Mem{Cells: []int{8, 7, 9, 60, 8, -5, 8, 50}}, getOf(), []behindStep{
		{[]int{8, 7, 9, 60, 8, -5, 8, 50}, impl.Call{Kind: 2, Pc: 1, P: 7}},
		{[]int{8, 7, 9, 60, 8, -5, 8, 50}, impl.Call{Kind: 2, Pc: 2, P: 7, C: 8}},
		{[]int{8, 8, 9, 60, 8, -5, 8, 50}, impl.Call{Kind: 2, Pc: 3, P: 7, C: 8}},
		{[]int{8, 8, 9, 60, 8, -5, 8, 50}, impl.Call{Kind: 2, Pc: 4, P: 7, C: 8, V: -5}},
		{[]int{8, 8, 9, 60, 10, -5, 8, 50}, impl.Call{Kind: 2, Pc: 5, P: 7, C: 8, Res: impl.ReOk, V: -5, Done: true}},
	})
	walkRing(t, "a get of nothing", 2, newRing(t, 2), getOf(), []behindStep{
		{[]int{0, 0, 0, 0, 1, 0}, impl.Call{Kind: 2, Pc: 1}},
		{[]int{0, 0, 0, 0, 1, 0}, impl.Call{Kind: 2, Pc: 2, Res: impl.ReEmpty, Done: true}},
	})
	walkRing(t, "a get of nothing, rounds on", 2, impl.Mem{Cells: []int{5, 5, 6, 3, 5, 4}}, getOf(), []behindStep{
		{[]int{5, 5, 6, 3, 5, 4}, impl.Call{Kind: 2, Pc: 1, P: 5}},
		{[]int{5, 5, 6, 3, 5, 4}, impl.Call{Kind: 2, Pc: 2, P: 5, C: 5, Res: impl.ReEmpty, Done: true}},
	})
}

// Of two puts that read the same tail one gets the number; the other begins again, and what it has read stays until it reads anew.
func TestTwoPutsAtOnce(t *testing.T) {
	m := ringFrom(3, 4)
	m, p := turnOn(t, 3, m, putOf(70), 2)
	m, q := turnOn(t, 3, m, putOf(80), 3)
	before := slices.Clone(m.Cells)
	m, p = turnOn(t, 3, m, p, 1)
	if want := (impl.Call{Kind: 1, A: 70, P: 4, C: 4}); p != want || !slices.Equal(m.Cells, before) {
		t.Fatalf("behind a cas that doesn't find its number: %+v, %v", p, m.Cells)
	}
	m, p = turnOn(t, 3, m, p, 5)
	if want := (impl.Call{Kind: 1, A: 70, Pc: 5, P: 5, C: 5, Res: impl.ReOk, Done: true}); p != want {
		t.Errorf("the first put is %+v, want %+v", p, want)
	}
	m, q = turnOn(t, 3, m, q, 2)
	if !q.Done || q.P != 4 || !slices.Equal(impl.RiItems(3, m), []int{80, 70}) {
		t.Errorf("the second put is %+v, and the ring has %v", q, impl.RiItems(3, m))
	}
}

func TestTwoGetsAtOnce(t *testing.T) {
	m := ringFrom(3, 4)
	m, _ = turnOn(t, 3, m, putOf(70), 5)
	m, _ = turnOn(t, 3, m, putOf(80), 5)
	m, p := turnOn(t, 3, m, getOf(), 2)
	m, q := turnOn(t, 3, m, getOf(), 3)
	before := slices.Clone(m.Cells)
	m, p = turnOn(t, 3, m, p, 1)
	if want := (impl.Call{Kind: 2, P: 4, C: 5}); p != want || !slices.Equal(m.Cells, before) {
		t.Fatalf("behind a cas that doesn't find its number: %+v, %v", p, m.Cells)
	}
	m, p = turnOn(t, 3, m, p, 5)
	if want := (impl.Call{Kind: 2, Pc: 5, P: 5, C: 6, Res: impl.ReOk, V: 80, Done: true}); p != want {
		t.Errorf("the first get is %+v, want %+v", p, want)
	}
	m, q = turnOn(t, 3, m, q, 2)
	if !q.Done || q.V != 70 || q.P != 4 || len(impl.RiItems(3, m)) != 0 {
		t.Errorf("the second get is %+v, and the ring has %v", q, impl.RiItems(3, m))
	}
}

// A seq that is ahead of the number that was read sends a call back to its beginning.
func TestANumberThatWasTakenInBetween(t *testing.T) {
	m, slow := turnOn(t, 3, newRing(t, 3), putOf(7), 1)
	m, _ = turnOn(t, 3, m, putOf(8), 5)
	m, slow = turnOn(t, 3, m, slow, 1)
	if want := (impl.Call{Kind: 1, A: 7, C: 1}); slow != want {
		t.Fatalf("a put whose number was taken: %+v, want %+v", slow, want)
	}
	m, slow = turnOn(t, 3, m, slow, 5)
	if !slow.Done || slow.P != 1 || !slices.Equal(impl.RiItems(3, m), []int{8, 7}) {
		t.Fatalf("it ends as %+v, with %v", slow, impl.RiItems(3, m))
	}
	m, slow = turnOn(t, 3, m, getOf(), 1)
	m, _ = turnOn(t, 3, m, getOf(), 5)
	m, slow = turnOn(t, 3, m, slow, 1)
	if want := (impl.Call{Kind: 2, C: 3}); slow != want {
		t.Fatalf("a get whose number was taken: %+v, want %+v", slow, want)
	}
	m, slow = turnOn(t, 3, m, slow, 5)
	if !slow.Done || slow.V != 7 || slow.P != 1 || len(impl.RiItems(3, m)) != 0 {
		t.Errorf("it ends as %+v, with %v", slow, impl.RiItems(3, m))
	}
}

// A number is got only when its put is done, and its cell is free only when its get is done.
func TestCallsThatAreUnderWay(t *testing.T) {
	m := newRing(t, 2)
	for steps := 3; steps <= 4; steps++ {
		half, put := turnOn(t, 2, m, putOf(8), steps)
		half, get := turnOn(t, 2, half, getOf(), 2)
		if !get.Done || get.Res != impl.ReEmpty || half.Cells[0] != 1 {
			t.Fatalf("a get behind %d steps of a put: %+v, %v", steps, get, half.Cells)
		}
		half, put = turnOn(t, 2, half, put, 5-steps)
		if _, get = turnOn(t, 2, half, getOf(), 5); !put.Done || get.V != 8 || get.Res != impl.ReOk {
			t.Fatalf("a get behind a put that is done: %+v", get)
		}
	}
	m, _ = turnOn(t, 2, m, putOf(8), 5)
	m, _ = turnOn(t, 2, m, putOf(9), 5)
	for steps := 3; steps <= 4; steps++ {
		half, get := turnOn(t, 2, m, getOf(), steps)
		half, put := turnOn(t, 2, half, putOf(10), 2)
		if !put.Done || put.Res != impl.ReFull || half.Cells[1] != 1 {
			t.Fatalf("a put behind %d steps of a get: %+v, %v", steps, put, half.Cells)
		}
		half, get = turnOn(t, 2, half, get, 5-steps)
		half, put = turnOn(t, 2, half, putOf(10), 5)
		if get.V != 8 || put.Res != impl.ReOk || put.P != 2 || !slices.Equal(impl.RiItems(2, half), []int{9, 10}) {
			t.Fatalf("a put behind a get that is done: %+v, %v", put, half.Cells)
		}
	}
}

// How far seq is from what is awaited decides, as a difference of 64 bits.
func TestLeadsOfSeq(t *testing.T) {
	for _, n := range []int{2, 3, 16} {
		for _, p := range manyNumbers(n) {
			for _, lead := range []int{0, 1, -1, 2, -2, n, -n, 1 << 40, -1 << 40, math.MaxInt, math.MaxInt - 1, math.MinInt, math.MinInt + 1} {
				for kind := 1; kind <= 2; kind++ {
					seq := p + lead + kind - 1
					cells := rowOf(2 + 2*n)
					cells[2+2*placeIn(n, p)] = seq
					want := impl.Call{Kind: kind, A: 5, Pc: 2, P: p, C: seq}
					switch {
					case lead < 0:
						want.Done, want.Res = true, []int{impl.ReFull, impl.ReEmpty}[kind-1]
					case lead > 0:
						want.Pc = 0
					}
					next, got, ok := impl.RiStep(n, impl.Mem{Cells: cells}, impl.Call{Kind: kind, A: 5, Pc: 1, P: p})
					if got != want || !ok || !slices.Equal(next.Cells, cells) {
						t.Fatalf("n %d, P %d, seq %d: %+v, %v, want %+v", n, p, seq, got, ok, want)
					}
				}
			}
		}
	}
}

// ringRows: cells for a ring of size n: empty, from some numbers on, and no sense.
func ringRows(n int) [][]int {
	l := [][]int{rowOf(2 + 2*n), make([]int, 2+2*n)}
	for _, k := range manyNumbers(n) {
		l = append(l, ringFrom(n, k).Cells)
		put := ringFrom(n, k).Cells
		put[0], put[2+2*placeIn(n, k)] = k+1, k+1
		l = append(l, put)
		l = append(l, slices.Repeat([]int{k}, 2+2*n))
	}
	return l
}

func TestRiStepAtManyCalls(t *testing.T) {
	for _, n := range []int{2, 3, 16} {
		calls := manyRingCalls(n)
		for _, cells := range ringRows(n) {
			before := slices.Clone(cells)
			for i, c := range calls {
				c.Done = i%97 == 0
				want, call, right := stepOfRing(n, before, c)
				next, got, ok := impl.RiStep(n, impl.Mem{Cells: cells}, c)
				if !slices.Equal(next.Cells, want) || got != call || ok != right {
					t.Fatalf("RiStep(%d, %v, %+v) = %v, %+v, %v, want %v, %+v, %v", n, cells, c, next.Cells, got, ok, want, call, right)
				}
			}
			if !slices.Equal(cells, before) {
				t.Fatalf("RiStep changed %v to %v", before, cells)
			}
		}
	}
}

// ringSteps: a call at each step of each kind.
func ringSteps() []impl.Call {
	var l []impl.Call
	for kind := 1; kind <= 2; kind++ {
		for pc := range 5 {
			l = append(l, impl.Call{Kind: kind, A: 6, Pc: pc})
		}
	}
	return l
}

func TestRiStepRefuses(t *testing.T) {
	refused := func(n int, rows int, c impl.Call) {
		next, behind, ok := impl.RiStep(n, impl.Mem{Cells: make([]int, rows)}, c)
		if len(next.Cells) != 0 || behind != (impl.Call{}) || ok {
			t.Errorf("RiStep of size %d on %d cells and %+v = %v, %+v, %v", n, rows, c, next.Cells, behind, ok)
		}
	}
	for n := 2; n <= 16; n++ {
		for _, rows := range []int{0, 1, 2, n, 1 + n, 1 + 2*n, 3 + 2*n, 4 + 2*n, 300, 301} {
			for _, c := range ringSteps() {
				refused(n, rows, c)
			}
		}
	}
	for _, n := range noRingSizes {
		for _, rows := range []int{0, 1, 2, 4, 6, 34, 36, 38, 301} {
			for _, c := range ringSteps() {
				refused(n, rows, c)
			}
		}
	}
	for _, c := range []impl.Call{{}, {Kind: 3}, {Kind: -1}, {Kind: 1, Pc: 5}, {Kind: 2, Pc: 5}, {Kind: 1, Pc: -1}, {Kind: 2, Pc: -1}, {Kind: 1, Done: true}, {Kind: 2, Pc: 3, Done: true}} {
		refused(3, 8, c)
	}
	if next, behind, ok := impl.RiStep(3, impl.Mem{}, putOf(1)); len(next.Cells) != 0 || behind != (impl.Call{}) || ok {
		t.Errorf("RiStep on no cells = %v, %+v, %v", next.Cells, behind, ok)
	}
}

// Cells that lie in the memory of the row but beyond its end don't count.
func TestNoRingBehindTheEnd(t *testing.T) {
	m := impl.Mem{Cells: []int{1, 0, 1, 8, 1, 0, 2, 0}[:6]}
	if _, _, ok := impl.RiStep(3, m, getOf()); ok {
		t.Error("RiStep finds cells behind the last")
	}
	if got := impl.RiItems(3, m); len(got) != 0 {
		t.Errorf("RiItems finds %v", got)
	}
}

func TestRiStepAnswersNewMemory(t *testing.T) {
	for _, c := range append(ringSteps(), impl.Call{Kind: 1, Pc: 2, P: 1}, impl.Call{Kind: 9}) {
		all := []int{1, 0, 1, 8, 1, 0, 55, 66}
		before := slices.Clone(all)
		m := impl.Mem{Cells: all[:6]}
		first, _, _ := impl.RiStep(2, m, c)
		second, _, _ := impl.RiStep(2, m, c)
		kept := slices.Clone(second.Cells)
		fill(first.Cells)
		if !slices.Equal(all, before) || len(m.Cells) != 6 {
			t.Errorf("RiStep of %+v: the argument is now %v", c, all)
		}
		if !slices.Equal(second.Cells, kept) {
			t.Errorf("RiStep of %+v: two answers share memory", c)
		}
		fill(m.Cells)
		if !slices.Equal(second.Cells, kept) {
			t.Errorf("RiStep of %+v: the answer shares memory: %v", c, second.Cells)
		}
	}
}

func TestRiItems(t *testing.T) {
	const last = 4294967295
	for _, x := range []struct {
		what  string
		n     int
		cells []int
		want  []int
	}{
		{"empty", 2, []int{0, 0, 0, 10, 1, 20}, nil},
		{"one", 2, []int{1, 0, 1, 10, 1, 20}, []int{10}},
		{"full", 2, []int{2, 0, 1, 10, 2, 20}, []int{10, 20}},
		{"empty, a round on", 2, []int{3, 3, 4, 10, 3, 20}, nil},
		{"across the end", 2, []int{3, 1, 3, 10, 2, 20}, []int{20, 10}},
		{"two of three", 3, []int{8, 6, 7, 10, 8, 20, 8, 30}, []int{10, 20}},
		{"two of three across the end", 3, []int{7, 5, 7, 10, 7, 20, 6, 30}, []int{30, 10}},
		{"three of three across the end", 3, []int{8, 5, 7, 10, 8, 20, 6, 30}, []int{30, 10, 20}},
		{"whatever seq is", 3, []int{2, 0, -1, 10, math.MaxInt, 20, math.MinInt, 30}, []int{10, 20}},
		{"values of any kind", 3, []int{3, 0, 0, math.MinInt, 0, -1, 0, math.MaxInt}, []int{math.MinInt, -1, math.MaxInt}},
		{"the same value more than once", 3, []int{3, 0, 0, 7, 0, 7, 0, 7}, []int{7, 7, 7}},
		{"the last number", 2, []int{last, last - 1, 0, 10, 0, 20}, []int{10}},
		{"the last two", 2, []int{last, last - 2, 0, 10, 0, 20}, []int{20, 10}},
		{"both the last number", 2, []int{last, last, 0, 10, 0, 20}, nil},
		{"a tail beyond the last number", 2, []int{last + 1, last, 0, 10, 0, 20}, nil},
		{"both beyond the last number", 2, []int{last + 2, last + 1, 0, 10, 0, 20}, nil},
		{"a tail below 0", 2, []int{-1, -2, 0, 10, 0, 20}, nil},
		{"a head below 0", 2, []int{1, -1, 0, 10, 0, 20}, nil},
		{"a head below a tail of 0", 2, []int{0, -1, 0, 10, 0, 20}, nil},
		{"more than fit", 2, []int{3, 0, 0, 10, 0, 20}, nil},
		{"many more than fit", 2, []int{last, 0, 0, 10, 0, 20}, nil},
		{"a head ahead of the tail", 2, []int{0, 1, 0, 10, 0, 20}, nil},
		{"a head far ahead of the tail", 2, []int{0, last, 0, 10, 0, 20}, nil},
		{"a difference that wraps around", 2, []int{math.MinInt, math.MaxInt, 0, 10, 0, 20}, nil},
		{"the greatest", 2, []int{math.MaxInt, math.MaxInt - 1, 0, 10, 0, 20}, nil},
		{"the least", 2, []int{math.MinInt + 1, math.MinInt, 0, 10, 0, 20}, nil},
		{"a cell too few", 2, []int{1, 0, 1, 10, 1}, nil},
		{"a cell too many", 2, []int{1, 0, 1, 10, 1, 20, 0}, nil},
		{"cells for one more", 2, []int{1, 0, 1, 10, 1, 20, 2, 0}, nil},
		{"no cells", 2, nil, nil},
		{"cells for 1", 1, []int{1, 0, 1, 10}, nil},
		{"cells for 0", 0, []int{0, 0}, nil},
	} {
		before := slices.Clone(x.cells)
		got := impl.RiItems(x.n, impl.Mem{Cells: x.cells})
		if !slices.Equal(got, x.want) {
			t.Errorf("%s: RiItems(%d, %v) = %v, want %v", x.what, x.n, x.cells, got, x.want)
		}
		fill(got)
		if !slices.Equal(x.cells, before) {
			t.Errorf("%s: the argument is now %v", x.what, x.cells)
		}
	}
}

func TestRiItemsOfAllFills(t *testing.T) {
	for n := 2; n <= 16; n++ {
		for head := range 3*n + 1 {
			for count := -1; count <= n+1; count++ {
				cells := rowOf(2 + 2*n)
				cells[0], cells[1] = head+count, head
				var want []int
				if count <= n {
					for k := head; k < head+count; k++ {
						want = append(want, 1000+3*(3+2*(k%n)))
					}
				}
				if got := impl.RiItems(n, impl.Mem{Cells: cells}); !slices.Equal(got, want) {
					t.Fatalf("RiItems(%d) from %d, %d of them = %v, want %v", n, head, count, got, want)
				}
			}
		}
	}
}

func TestRiItemsRefusesSizes(t *testing.T) {
	for _, n := range noRingSizes {
		for _, rows := range []int{2, 4, 6, 34, 36, 38, 301} {
			cells := rowOf(rows)
			cells[0], cells[1] = 1, 0
			if got := impl.RiItems(n, impl.Mem{Cells: cells}); len(got) != 0 {
				t.Errorf("RiItems(%d) of %d cells = %v", n, rows, got)
			}
		}
	}
}

// asAQueue makes calls one after the other on an empty ring whose next number is k, beside a queue with room for n.
func asAQueue(t *testing.T, n int, m impl.Mem, k int, calls int) {
	t.Helper()
	var queue []int
	tail, head, seed := k, k, n
	for i := range calls {
		seed = (seed*1103515245 + 12345) % 4294967296
		// Stretches in which puts or gets are more come to rings that are full and that are empty.
		c := getOf()
		if seed>>16%8 < 2+4*(i/(3*n)%2) {
			c = putOf(seed>>8%1000 - 500)
		}
		want := c
		want.Pc, want.Done = 2, true
		switch {
		case c.Kind == impl.RiPut && len(queue) == n:
			want.Res, want.P, want.C = impl.ReFull, tail, tail-n+1
		case c.Kind == impl.RiPut:
			want.Res, want.P, want.C, want.Pc = impl.ReOk, tail, tail, 5
			queue, tail = append(queue, c.A), tail+1
		case len(queue) == 0:
			want.Res, want.P, want.C = impl.ReEmpty, head, head
		default:
			want.Res, want.P, want.C, want.V, want.Pc = impl.ReOk, head, head+1, queue[0], 5
			queue, head = queue[1:], head+1
		}
		m, c = turnOn(t, n, m, c, want.Pc)
		if c != want {
			t.Fatalf("size %d, call %d: %+v, want %+v", n, i, c, want)
		}
		items := impl.RiItems(n, m)
		if m.Cells[0] != tail || m.Cells[1] != head {
			t.Fatalf("size %d, call %d: tail and head %v, want %d, %d", n, i, m.Cells[:2], tail, head)
		}
		numbers := tail >= 0 && tail <= 4294967295 && head >= 0 && head <= 4294967295
		if numbers && !slices.Equal(items, queue) || !numbers && len(items) != 0 {
			t.Fatalf("size %d, call %d: %v in it, want %v", n, i, items, queue)
		}
	}
	if uint64(tail)-uint64(k) < uint64(5*n) {
		t.Errorf("size %d: %d values alone, which isn't often round", n, tail-k)
	}
}

func TestRingTellsWhatAQueueTells(t *testing.T) {
	for n := 2; n <= 16; n++ {
		asAQueue(t, n, newRing(t, n), 0, 100*n)
		asAQueue(t, n, ringFrom(n, 4294967295-2*n), 4294967295-2*n, 100*n)
		asAQueue(t, n, ringFrom(n, -3*n+1), -3*n+1, 100*n)
	}
	// Behind the greatest int comes the least; only where n goes into 2 to the power of 64 is their cell one on.
	for _, n := range []int{2, 4, 8, 16} {
		asAQueue(t, n, ringFrom(n, math.MaxInt-2*n), math.MaxInt-2*n, 100*n)
	}
}

// caller makes these calls on a ring one after the other; a call that came to nothing isn't made anew.
type caller struct {
	calls []impl.Call
	at    int
}

// ringScene: a ring between two steps, with the values that have a number and which of these are put and got to the end.
type ringScene struct {
	n       int
	m       impl.Mem
	value   []int
	put     []bool
	got     []bool
	callers []caller
}

// number notes what a call took with its cas: the next number, and none twice.
func (f *ringScene) number(t *testing.T, c impl.Call) {
	switch {
	case c.Kind == impl.RiPut && c.P == len(f.value):
		f.value = append(slices.Clone(f.value), c.A)
		f.put = append(slices.Clone(f.put), false)
	case c.Kind == impl.RiGet && c.P == len(f.got) && c.P < len(f.put) && f.put[c.P]:
		f.got = append(slices.Clone(f.got), false)
	default:
		t.Fatalf("%+v took a number that isn't the next one, or whose put isn't done", c)
	}
}

// end notes that a call is done; what it tells must be so.
func (f *ringScene) end(t *testing.T, c impl.Call) {
	right := false
	switch {
	case c.Res == impl.ReFull:
		old := c.P - f.n
		right = c.Kind == impl.RiPut && old >= 0 && (old >= len(f.got) || !f.got[old])
	case c.Res == impl.ReEmpty:
		right = c.Kind == impl.RiGet && (c.P >= len(f.put) || !f.put[c.P])
	case c.Kind == impl.RiPut:
		f.put = slices.Clone(f.put)
		f.put[c.P], right = true, c.Res == impl.ReOk
	default:
		f.got = slices.Clone(f.got)
		f.got[c.P], right = true, c.Res == impl.ReOk && c.V == f.value[c.P]
	}
	if !right {
		t.Fatalf("%+v where the values are %v, put %v, got %v", c, f.value, f.put, f.got)
	}
}

// after: the scene behind a step of one caller.
func (f ringScene) after(t *testing.T, i int) ringScene {
	h := f.callers[i]
	c := h.calls[h.at]
	var behind impl.Call
	f.m, behind = turnOn(t, f.n, f.m, c, 1)
	if c.Pc == 2 && behind.Pc == 3 {
		f.number(t, behind)
	}
	h.calls = slices.Clone(h.calls)
	h.calls[h.at] = behind
	if behind.Done {
		f.end(t, behind)
		h.at++
	}
	f.callers = slices.Clone(f.callers)
	f.callers[i] = h
	f.look(t)
	return f
}

// look: at any time the ring has what has a number and wasn't taken; where its put is done, with its value.
func (f ringScene) look(t *testing.T) {
	items := impl.RiItems(f.n, f.m)
	if len(items) != len(f.value)-len(f.got) {
		t.Fatalf("%v in the ring %v, of the values %v %d were taken", items, f.m.Cells, f.value, len(f.got))
	}
	for i, v := range items {
		if k := len(f.got) + i; f.put[k] && v != f.value[k] {
			t.Fatalf("%v in the ring %v, of the values %v %d were taken", items, f.m.Cells, f.value, len(f.got))
		}
	}
}

// tryAllOnRing lets the callers take their steps in all orders; a scene that was there before leads to nothing new. It counts how often calls ended in which way.
func tryAllOnRing(t *testing.T, f ringScene, seen map[string]bool, ends map[int]int) {
	key := fmt.Sprint(f)
	if seen[key] {
		return
	}
	seen[key] = true
	for i, h := range f.callers {
		if h.at < len(h.calls) {
			next := f.after(t, i)
			if next.callers[i].at > h.at {
				ends[next.callers[i].calls[h.at].Res]++
			}
			tryAllOnRing(t, next, seen, ends)
		}
	}
}

func TestAllOrdersOfRingSteps(t *testing.T) {
	full := []int{impl.ReOk, impl.ReFull}
	empty := []int{impl.ReOk, impl.ReEmpty}
	both := []int{impl.ReOk, impl.ReFull, impl.ReEmpty}
	for _, x := range []struct {
		what  string
		n     int
		calls [][]impl.Call
		ends  []int
	}{
		{"two puts", 2, [][]impl.Call{{putOf(70)}, {putOf(80)}}, []int{impl.ReOk}},
		{"three puts, of which one finds no room", 2, [][]impl.Call{{putOf(70)}, {putOf(80)}, {putOf(90)}}, full},
		{"a put and a get", 2, [][]impl.Call{{putOf(70)}, {getOf()}}, empty},
		{"two puts and two gets", 2, [][]impl.Call{{putOf(70), putOf(80)}, {getOf(), getOf()}}, empty},
		{"one puts, two get", 2, [][]impl.Call{{putOf(70), putOf(80)}, {getOf()}, {getOf()}}, empty},
		{"two put, one gets", 3, [][]impl.Call{{putOf(70), putOf(80)}, {putOf(90)}, {getOf(), getOf()}}, empty},
		{"round and round", 2, [][]impl.Call{{putOf(70), putOf(80), putOf(90), putOf(60)}, {getOf(), getOf(), getOf()}}, both},
		{"each puts and gets", 2, [][]impl.Call{{putOf(70), getOf(), putOf(60)}, {putOf(80), getOf(), putOf(50)}}, both},
		{"three that put and get", 2, [][]impl.Call{{putOf(70), getOf()}, {putOf(80), getOf()}, {putOf(90), getOf()}}, both},
	} {
		f := ringScene{n: x.n, m: newRing(t, x.n)}
		for _, l := range x.calls {
			f.callers = append(f.callers, caller{calls: l})
		}
		seen, ends := map[string]bool{}, map[int]int{}
		tryAllOnRing(t, f, seen, ends)
		// Fewer would mean that the callers didn't come between each other's steps.
		if len(seen) < 20 {
			t.Errorf("%s: %d scenes alone", x.what, len(seen))
		}
		for _, res := range x.ends {
			if ends[res] == 0 {
				t.Errorf("%s: no call ends with %d: %v", x.what, res, ends)
			}
		}
		if len(ends) != len(x.ends) {
			t.Errorf("%s: the calls end so: %v", x.what, ends)
		}
	}
}
