package tests

import (
	"fmt"
	"math"
	"slices"
	"testing"

	"loop.example/g00724/impl"
)

// tellsOf: the node that a link tells, from 0 on, and whether it tells one.
func tellsOf(link int) (int, bool) {
	if link < 2 {
		return 0, false
	}
	return (link - link%2 - 2) / 2, true
}

// linkRight: a link that isn't below 0 and tells no node that isn't there.
func linkRight(n int, link int) bool {
	k, some := tellsOf(link)
	return link >= 0 && (!some || k < n)
}

// lastStep: the last step of a kind, -1 where the kind is none. The chapter tells the steps of a LiAdd and of a LiDel as one row.
func lastStep(kind int) int {
	switch kind {
	case 1, 2:
		return 7
	case 3:
		return 2
	}
	return -1
}

// askedRight: what chapter 6 asks of C, W, X and P at the step at which the call is.
func askedRight(n int, c impl.Call) bool {
	head := c.P == 0
	for k := range n {
		head = head || c.P == 2+2*k
	}
	if !head {
		return false
	}
	if c.Pc >= 1 && !linkRight(n, c.C) {
		return false
	}
	if (c.Pc == 3 || c.Pc == 7) && !linkRight(n, c.W) {
		return false
	}
	if _, some := tellsOf(c.C); !some && slices.Contains([]int{1, 2, 3, 7}, c.Pc) {
		return false
	}
	return !slices.Contains([]int{4, 5, 6}, c.Pc) || c.X >= 0 && c.X < n
}

// actOfList: what chapter 6 says of the next act of a call.
func actOfList(n int, c impl.Call) (impl.Act, bool) {
	if n < 1 || n > 16 || c.Done || c.Pc < 0 || c.Pc > lastStep(c.Kind) || !askedRight(n, c) {
		return impl.Act{}, false
	}
	k, _ := tellsOf(c.C)
	return []impl.Act{
		{Kind: 1, At: c.P},
		{Kind: 1, At: 2 + 2*k},
		{Kind: 1, At: 1 + 2*k},
		{Kind: 3, At: c.P, A: c.C, B: c.W - c.W%2},
		{Kind: 2, At: 1 + 2*c.X, A: c.A},
		{Kind: 2, At: 2 + 2*c.X, A: c.C},
		{Kind: 3, At: c.P, A: c.C, B: 2*c.X + 2},
		{Kind: 3, At: 2 + 2*k, A: c.W, B: c.W - c.W%2 + 1},
	}[c.Pc], true
}

// stepOfList: what chapter 6 says of a step, done on the cells themselves.
func stepOfList(n int, cells []int, c impl.Call) ([]int, impl.Call, bool) {
	a, ok := actOfList(n, c)
	if !ok || len(cells) != 1+2*n {
		return nil, impl.Call{}, false
	}
	next := slices.Clone(cells)
	was, told := next[a.At], 0
	switch {
	case a.Kind == 2:
		next[a.At] = a.A
	case a.Kind == 3 && was == a.A:
		next[a.At], told = a.B, 1
	}
	if c.Pc <= 1 && !linkRight(n, was) {
		return nil, impl.Call{}, false
	}
	pc := c.Pc
	c.Pc++
	if c.Kind == 3 {
		return next, behindHas(c, pc, was), true
	}
	return next, behindAddOrDel(c, pc, was, told), true
}

func endedWith(c impl.Call, res int) impl.Call {
	c.Res, c.Done = res, true
	return c
}

// behindHas: the call, whose Pc is one on, behind the step pc that read this.
func behindHas(c impl.Call, pc int, was int) impl.Call {
	k, _ := tellsOf(c.C)
	switch pc {
	case 0:
		c.C = was
		if was == 0 || was == 1 {
			return endedWith(c, 4)
		}
	case 1:
		c.W = was
	case 2:
		c.V = was
		switch {
		case was < c.A:
			c.P, c.Pc = 2+2*k, 0
		case was == c.A && c.W%2 == 0:
			return endedWith(c, 1)
		default:
			return endedWith(c, 4)
		}
	}
	return c
}

// behindAddOrDel: likewise of a LiAdd and of a LiDel; told is what a cas tells.
func behindAddOrDel(c impl.Call, pc int, was int, told int) impl.Call {
	add := c.Kind == 1
	k, _ := tellsOf(c.C)
	switch {
	case pc == 0:
		c.C = was
		switch {
		case was%2 == 1:
			c.P, c.Pc = 0, 0
		case was == 0 && add:
			c.Pc = 4
		case was == 0:
			return endedWith(c, 4)
		}
	case pc == 1:
		c.W = was
		if was%2 == 1 {
			c.Pc = 3
		}
	case pc == 2:
		c.V = was
		switch {
		case was < c.A:
			c.P, c.Pc = 2+2*k, 0
		case was == c.A && !add:
			c.Pc = 7
		case was > c.A && add:
			c.Pc = 4
		default:
			return endedWith(c, 4)
		}
	case pc == 3 && told == 1:
		c.Pc = 0
	case pc >= 6 && told == 1:
		return endedWith(c, 1)
	case pc == 3 || pc >= 6:
		c.P, c.Pc = 0, 0
	}
	return c
}

func addOf(a int, x int) impl.Call { return impl.LiCall(impl.LiAdd, a, x) }

func delOf(a int) impl.Call { return impl.LiCall(impl.LiDel, a, 0) }

func hasOf(a int) impl.Call { return impl.LiCall(impl.LiHas, a, 0) }

func newList(t *testing.T, n int) impl.Mem {
	t.Helper()
	m, ok := impl.LiNew(n)
	if !ok {
		t.Fatalf("LiNew(%d) says false", n)
	}
	return m
}

// walkOn makes so many steps on a list, all of which must come to pass.
func walkOn(t *testing.T, n int, m impl.Mem, c impl.Call, steps int) (impl.Mem, impl.Call) {
	t.Helper()
	for range steps {
		next, behind, ok := impl.LiStep(n, m, c)
		if !ok {
			t.Fatalf("LiStep(%d, %v, %+v) says false", n, m.Cells, c)
		}
		m, c = next, behind
	}
	return m, c
}

// callOn makes a whole call; alone it has at most five steps for each node that it passes or takes out, and some at its end.
func callOn(t *testing.T, n int, m impl.Mem, c impl.Call) (impl.Mem, impl.Call) {
	t.Helper()
	for range 5*n + 6 {
		if m, c = walkOn(t, n, m, c, 1); c.Done {
			return m, c
		}
	}
	t.Fatalf("a call that is made alone doesn't end: %+v on %v", c, m.Cells)
	return m, c
}

// listOf: a list of n nodes with these keys, which were added in this order as the nodes 0, 1 and so on.
func listOf(t *testing.T, n int, keys ...int) impl.Mem {
	t.Helper()
	m := newList(t, n)
	for x, a := range keys {
		var c impl.Call
		if m, c = callOn(t, n, m, addOf(a, x)); c.Res != impl.ReOk {
			t.Fatalf("adding %d as %d: %+v", a, x, c)
		}
	}
	return m
}

func TestListConstants(t *testing.T) {
	if impl.LiAdd != 1 || impl.LiDel != 2 || impl.LiHas != 3 {
		t.Errorf("LiAdd %d, LiDel %d, LiHas %d", impl.LiAdd, impl.LiDel, impl.LiHas)
	}
}

func TestLiNew(t *testing.T) {
	for n := 1; n <= 16; n++ {
		m, ok := impl.LiNew(n)
		if !ok || !slices.Equal(m.Cells, make([]int, 1+2*n)) {
			t.Errorf("LiNew(%d) = %v, %v", n, m.Cells, ok)
		}
		if got := impl.LiKeys(n, m); len(got) != 0 {
			t.Errorf("LiKeys(%d) of a new list = %v", n, got)
		}
		fill(m.Cells)
		if again, _ := impl.LiNew(n); !slices.Equal(again.Cells, make([]int, 1+2*n)) {
			t.Errorf("LiNew(%d) answers memory that it had given out: %v", n, again.Cells)
		}
	}
	for _, n := range noSizes {
		if m, ok := impl.LiNew(n); len(m.Cells) != 0 || ok {
			t.Errorf("LiNew(%d) = %v, %v", n, m.Cells, ok)
		}
	}
}

func TestLiCall(t *testing.T) {
	for _, a := range someInts {
		for _, x := range someInts {
			if got := impl.LiCall(1, a, x); got != (impl.Call{Kind: 1, A: a, X: x}) {
				t.Errorf("LiCall of an adding of %d as %d = %+v", a, x, got)
			}
			for kind := 2; kind <= 3; kind++ {
				if got := impl.LiCall(kind, a, x); got != (impl.Call{Kind: kind, A: a}) {
					t.Errorf("LiCall(%d, %d, %d) = %+v", kind, a, x, got)
				}
			}
			for _, kind := range append([]int{4}, noKinds...) {
				if got := impl.LiCall(kind, a, x); got != (impl.Call{}) {
					t.Errorf("LiCall(%d, %d, %d) = %+v", kind, a, x, got)
				}
			}
		}
	}
}

func TestLiAct(t *testing.T) {
	const load, store, cas = impl.AcLoad, impl.AcStore, impl.AcCas
	for _, x := range []struct {
		what string
		n    int
		c    impl.Call
		want impl.Act
	}{
		{"an adding begins", 3, addOf(8, 2), impl.Act{Kind: load}},
		{"a deleting begins", 3, delOf(8), impl.Act{Kind: load}},
		{"an asking begins", 3, hasOf(8), impl.Act{Kind: load}},
		{"an adding that begins asks for no X yet", 3, addOf(8, 3), impl.Act{Kind: load}},
		{"nor for C and W", 3, impl.Call{Kind: 1, P: 2, C: -1, W: -1, X: -1}, impl.Act{Kind: load, At: 2}},
		{"at the link of the last node", 3, impl.Call{Kind: 1, P: 6, C: 99, W: 99}, impl.Act{Kind: load, At: 6}},
		{"at the link of the first of one", 1, impl.Call{Kind: 3, P: 2}, impl.Act{Kind: load, At: 2}},
		{"at the link of the last of 16", 16, impl.Call{Kind: 2, P: 32}, impl.Act{Kind: load, At: 32}},
		{"the link of the first node", 3, impl.Call{Kind: 1, Pc: 1, C: 2, W: -1, X: -1}, impl.Act{Kind: load, At: 2}},
		{"the link of the last node", 3, impl.Call{Kind: 2, Pc: 1, C: 6, W: 99}, impl.Act{Kind: load, At: 6}},
		{"the link of a node, C being marked", 3, impl.Call{Kind: 1, Pc: 1, C: 7}, impl.Act{Kind: load, At: 6}},
		{"an asking looks on", 3, impl.Call{Kind: 3, Pc: 1, P: 2, C: 5}, impl.Act{Kind: load, At: 4}},
		{"the key of the first node", 3, impl.Call{Kind: 1, Pc: 2, C: 2, W: -1, X: -1}, impl.Act{Kind: load, At: 1}},
		{"the key of the last node", 3, impl.Call{Kind: 2, Pc: 2, C: 7, W: 99}, impl.Act{Kind: load, At: 5}},
		{"an asking reads a key", 3, impl.Call{Kind: 3, Pc: 2, C: 4, W: -5}, impl.Act{Kind: load, At: 3}},
		{"takes out the last", 3, impl.Call{Kind: 1, Pc: 3, C: 2, W: 1, X: -1}, impl.Act{Kind: cas, A: 2}},
		{"takes out one in the middle", 3, impl.Call{Kind: 2, Pc: 3, P: 4, C: 2, W: 7}, impl.Act{Kind: cas, At: 4, A: 2, B: 6}},
		{"takes out with a W that isn't marked", 3, impl.Call{Kind: 2, Pc: 3, P: 4, C: 2, W: 6}, impl.Act{Kind: cas, At: 4, A: 2, B: 6}},
		{"takes out with a C that is marked", 3, impl.Call{Kind: 1, Pc: 3, P: 2, C: 5, W: 0}, impl.Act{Kind: cas, At: 2, A: 5}},
		{"writes a key", 3, impl.Call{Kind: 1, A: 8, X: 2, Pc: 4, C: 4, W: -1}, impl.Act{Kind: store, At: 5, A: 8}},
		{"writes the least key", 3, impl.Call{Kind: 1, A: math.MinInt, Pc: 4}, impl.Act{Kind: store, At: 1, A: math.MinInt}},
		{"writes the greatest key with a C that tells none and is marked", 3, impl.Call{Kind: 1, A: math.MaxInt, X: 1, Pc: 4, C: 1}, impl.Act{Kind: store, At: 3, A: math.MaxInt}},
		{"writes a link", 3, impl.Call{Kind: 1, A: 8, X: 2, Pc: 5, P: 4, C: 2, W: 99}, impl.Act{Kind: store, At: 6, A: 2}},
		{"writes a link to none", 3, impl.Call{Kind: 1, A: 8, X: 0, Pc: 5}, impl.Act{Kind: store, At: 2}},
		{"writes a link that is marked", 3, impl.Call{Kind: 1, A: 8, X: 0, Pc: 5, C: 7}, impl.Act{Kind: store, At: 2, A: 7}},
		{"puts the first node in", 3, impl.Call{Kind: 1, A: 8, X: 0, Pc: 6}, impl.Act{Kind: cas, B: 2}},
		{"puts the last node in", 3, impl.Call{Kind: 1, A: 8, X: 2, Pc: 6, P: 2, C: 4, W: -1}, impl.Act{Kind: cas, At: 2, A: 4, B: 6}},
		{"puts a node in where it is marked", 3, impl.Call{Kind: 1, A: 8, X: 1, Pc: 6, P: 2, C: 1}, impl.Act{Kind: cas, At: 2, A: 1, B: 4}},
		{"marks the last of a list", 3, impl.Call{Kind: 2, A: 8, X: -1, Pc: 7, C: 2}, impl.Act{Kind: cas, At: 2, B: 1}},
		{"marks one ahead of others", 3, impl.Call{Kind: 2, A: 8, Pc: 7, P: 2, C: 6, W: 4}, impl.Act{Kind: cas, At: 6, A: 4, B: 5}},
		{"marks what is marked", 3, impl.Call{Kind: 2, A: 8, Pc: 7, C: 5, W: 7}, impl.Act{Kind: cas, At: 4, A: 7, B: 7}},
		{"the greatest size", 16, impl.Call{Kind: 1, A: 8, X: 15, Pc: 6, P: 30, C: 33}, impl.Act{Kind: cas, At: 30, A: 33, B: 32}},
		{"the least size", 1, impl.Call{Kind: 2, A: 8, Pc: 7, P: 2, C: 3, W: 2}, impl.Act{Kind: cas, At: 2, A: 2, B: 3}},
	} {
		if got, ok := impl.LiAct(x.n, x.c); got != x.want || !ok {
			t.Errorf("%s: LiAct(%d, %+v) = %+v, %v, want %+v, true", x.what, x.n, x.c, got, ok, x.want)
		}
	}
}

// refusedCalls: calls that can't go on in a list of 3 nodes.
var refusedCalls = []impl.Call{
	{}, {Kind: 4}, {Kind: -1}, {Kind: 0, Pc: 1, C: 2}, {Kind: 4, Pc: 2, C: 2}, {Kind: math.MinInt},
	{Kind: 1, Done: true}, {Kind: 2, Done: true}, {Kind: 3, Done: true}, {Kind: 1, Pc: 6, X: 1, Done: true}, {Kind: 2, Pc: 7, C: 2, Done: true},
	{Kind: 1, Pc: -1, C: 2}, {Kind: 2, Pc: -1, C: 2}, {Kind: 3, Pc: -1, C: 2}, {Kind: 1, Pc: 8, C: 2}, {Kind: 2, Pc: 8, C: 2}, {Kind: 3, Pc: 3, C: 2},
	{Kind: 3, Pc: 4, C: 2}, {Kind: 3, Pc: 5, C: 2}, {Kind: 3, Pc: 6, C: 2}, {Kind: 3, Pc: 7, C: 2}, {Kind: 3, Pc: math.MinInt, C: 2}, {Kind: 1, Pc: math.MaxInt, C: 2},
	// P is none of the cells 0, 2, 4 and 6.
	{Kind: 1, P: 1}, {Kind: 2, P: 3}, {Kind: 3, P: 5}, {Kind: 1, P: 7}, {Kind: 2, P: 8}, {Kind: 3, P: -1}, {Kind: 1, P: -2}, {Kind: 3, P: math.MinInt}, {Kind: 2, P: math.MaxInt},
	{Kind: 1, Pc: 1, P: 1, C: 2}, {Kind: 3, Pc: 2, P: 8, C: 2}, {Kind: 2, Pc: 3, P: -2, C: 2}, {Kind: 1, Pc: 4, P: 3}, {Kind: 1, Pc: 5, P: 8}, {Kind: 1, Pc: 6, P: 5}, {Kind: 2, Pc: 7, P: 7, C: 2},
	// C tells none where a node is asked for.
	{Kind: 1, Pc: 1}, {Kind: 2, Pc: 2}, {Kind: 3, Pc: 1}, {Kind: 3, Pc: 2, C: 1}, {Kind: 1, Pc: 3}, {Kind: 1, Pc: 1, C: 1}, {Kind: 2, Pc: 3, C: 1}, {Kind: 2, Pc: 7}, {Kind: 2, Pc: 7, C: 1},
	// C is below 0 or tells a node that isn't there.
	{Kind: 1, Pc: 1, C: -1}, {Kind: 1, Pc: 2, C: -2}, {Kind: 2, Pc: 3, C: 8}, {Kind: 1, Pc: 4, C: 8}, {Kind: 1, Pc: 4, C: -1}, {Kind: 1, Pc: 5, C: 9}, {Kind: 1, Pc: 5, C: -2}, {Kind: 1, Pc: 6, C: 8}, {Kind: 1, Pc: 6, C: -1},
	{Kind: 2, Pc: 7, C: 9}, {Kind: 2, Pc: 7, C: -1}, {Kind: 3, Pc: 1, C: 8}, {Kind: 3, Pc: 1, C: math.MaxInt}, {Kind: 3, Pc: 2, C: math.MinInt}, {Kind: 3, Pc: 2, C: -4},
	// W likewise, where it is asked for.
	{Kind: 1, Pc: 3, C: 2, W: -1}, {Kind: 1, Pc: 3, C: 2, W: 8}, {Kind: 2, Pc: 3, C: 2, W: 9}, {Kind: 2, Pc: 7, C: 2, W: -2}, {Kind: 2, Pc: 7, C: 2, W: 8}, {Kind: 2, Pc: 7, C: 2, W: 9}, {Kind: 2, Pc: 7, C: 2, W: math.MinInt}, {Kind: 1, Pc: 3, C: 2, W: math.MaxInt},
	// X isn't there where it is asked for.
	{Kind: 1, Pc: 4, X: 3}, {Kind: 1, Pc: 4, X: -1}, {Kind: 1, Pc: 5, X: 3}, {Kind: 1, Pc: 5, X: -1}, {Kind: 1, Pc: 6, X: 3}, {Kind: 1, Pc: 6, X: -1}, {Kind: 1, Pc: 6, X: math.MaxInt}, {Kind: 1, Pc: 4, X: math.MinInt},
}

func TestLiActRefuses(t *testing.T) {
	for _, c := range refusedCalls {
		if got, ok := impl.LiAct(3, c); got != (impl.Act{}) || ok {
			t.Errorf("LiAct(3, %+v) = %+v, %v", c, got, ok)
		}
		next, behind, ok := impl.LiStep(3, impl.Mem{Cells: make([]int, 7)}, c)
		if len(next.Cells) != 0 || behind != (impl.Call{}) || ok {
			t.Errorf("LiStep of %+v = %v, %+v, %v", c, next.Cells, behind, ok)
		}
	}
	for _, n := range noSizes {
		for _, c := range listSteps() {
			if got, ok := impl.LiAct(n, c); got != (impl.Act{}) || ok {
				t.Errorf("LiAct(%d, %+v) = %+v, %v", n, c, got, ok)
			}
		}
	}
}

// manyLinks: links, and ints that are none, at the edges for n nodes, each marked and not marked.
func manyLinks(n int) []int {
	return []int{0, 1, 2, 3, 2 * n, 2*n + 1, 2*n + 2, 2*n + 3, -1, -2, -3, math.MaxInt, math.MaxInt - 1, math.MinInt, math.MinInt + 1}
}

// manyListCalls: each kind and some that are none, at and beside each step, with cells, links and nodes at their edges.
func manyListCalls(n int) []impl.Call {
	cells := []int{0, 1, 2, 2*n - 1, 2 * n, 2*n + 1, 2*n + 2, -1, -2, math.MaxInt, math.MinInt}
	nodes := []int{0, n - 1, n, -1, math.MaxInt, math.MinInt}
	keys := []int{0, 5, 6, -6, math.MaxInt, math.MinInt}
	var l []impl.Call
	for _, kind := range []int{1, 2, 3, 0, -1, 4, 1<<32 + 1, math.MaxInt, math.MinInt} {
		for pc := -1; pc <= 9; pc++ {
			for _, p := range cells {
				for _, c := range manyLinks(n) {
					for _, w := range manyLinks(n) {
						x, a := nodes[len(l)%7%6], keys[len(l)%11%6]
						l = append(l, impl.Call{Kind: kind, A: a, X: x, Pc: pc, P: p, C: c, W: w, Res: 3, V: 77})
					}
				}
			}
		}
		for _, pc := range []int{0, 1, 2, 3, 4, 5, 6, 7, 8, 1 << 32, 1<<32 + 1, math.MaxInt, math.MinInt} {
			for _, x := range nodes {
				for _, a := range keys {
					l = append(l, impl.Call{Kind: kind, A: a, X: x, Pc: pc, C: 2, W: 1, Res: 3, V: 77})
				}
			}
		}
	}
	return l
}

func TestLiActAtManyCalls(t *testing.T) {
	for _, n := range []int{1, 2, 3, 15, 16, 0, -1, 17, math.MaxInt, math.MinInt} {
		for i, c := range manyListCalls(n) {
			c.Done = i%89 == 0
			want, right := actOfList(n, c)
			if got, ok := impl.LiAct(n, c); got != want || ok != right {
				t.Fatalf("LiAct(%d, %+v) = %+v, %v, want %+v, %v", n, c, got, ok, want, right)
			}
		}
	}
}

// listRows: cells for a list of n nodes: empty, full with keys that rise, one marked, all marked, round, and no sense.
func listRows(n int) [][]int {
	full := make([]int, 1+2*n)
	for k := range n {
		full[2*k], full[1+2*k] = 2*k+2, 5*k+1
	}
	last, all, round, beyond, below := slices.Clone(full), slices.Clone(full), slices.Clone(full), slices.Clone(full), slices.Clone(full)
	last[2*n]++
	for k := range n {
		all[2+2*k]++
	}
	round[2*n] = 2
	beyond[0], beyond[2*n] = 2*n+2, 2*n+3
	below[0], below[2*n] = -1, -2
	rows := [][]int{make([]int, 1+2*n), full, last, all, round, beyond, below, rowOf(1 + 2*n)}
	for _, v := range manyLinks(n) {
		rows = append(rows, slices.Repeat([]int{v}, 1+2*n))
	}
	return rows
}

func TestLiStepAtManyCalls(t *testing.T) {
	for _, n := range []int{1, 3, 16} {
		calls := manyListCalls(n)
		for r, cells := range listRows(n) {
			before := slices.Clone(cells)
			for i, c := range calls {
				// Each row takes a part of the calls; what can't go on is asked for less often than what can.
				if _, ok := actOfList(n, c); i%5 != r%5 && (!ok || i%2 != r%2) {
					continue
				}
				c.Done = i%97 == 0
				want, call, right := stepOfList(n, before, c)
				next, got, ok := impl.LiStep(n, impl.Mem{Cells: cells}, c)
				if !slices.Equal(next.Cells, want) || got != call || ok != right {
					t.Fatalf("LiStep(%d, %v, %+v) = %v, %+v, %v, want %v, %+v, %v", n, cells, c, next.Cells, got, ok, want, call, right)
				}
			}
			if !slices.Equal(cells, before) {
				t.Fatalf("LiStep changed %v to %v", before, cells)
			}
		}
	}
}

// A step is the act that LiAct tells, on the cells, and nothing else.
func TestLiStepDoesTheActThatLiActTells(t *testing.T) {
	for n := 1; n <= 16; n++ {
		for _, cells := range listRows(n)[:5] {
			for _, c := range listSteps() {
				m := impl.Mem{Cells: cells}
				a, ok := impl.LiAct(n, c)
				if !ok || !impl.ActOk(m, a) {
					t.Fatalf("LiAct(%d, %+v) = %+v, %v", n, c, a, ok)
				}
				want, _, _ := impl.Do(m, a)
				if next, _, ok := impl.LiStep(n, m, c); !ok || !slices.Equal(next.Cells, want.Cells) {
					t.Fatalf("LiStep(%d, %v, %+v) = %v, %v, the act %+v says %v", n, cells, c, next.Cells, ok, a, want.Cells)
				}
			}
		}
	}
}

// listSteps: a call at each step of each kind, which asks for the first node alone.
func listSteps() []impl.Call {
	var l []impl.Call
	for kind := 1; kind <= 3; kind++ {
		for pc := 0; pc <= lastStep(kind); pc++ {
			l = append(l, impl.Call{Kind: kind, A: 6, Pc: pc, C: 2})
		}
	}
	return l
}

// walkList takes a call through these steps and then asks for one more.
func walkList(t *testing.T, what string, n int, cells []int, c impl.Call, steps []behindStep) {
	t.Helper()
	m := impl.Mem{Cells: cells}
	for i, x := range steps {
		m, c = walkOn(t, n, m, c, 1)
		if !slices.Equal(m.Cells, x.cells) || c != x.c {
			t.Fatalf("%s, step %d: %v, %+v, want %v, %+v", what, i, m.Cells, c, x.cells, x.c)
		}
	}
	if next, behind, ok := impl.LiStep(n, m, c); len(next.Cells) != 0 || behind != (impl.Call{}) || ok {
		t.Errorf("%s: a call that is done goes on: %v, %+v, %v", what, next.Cells, behind, ok)
	}
}

func TestAddStepByStep(t *testing.T) {
	walkList(t, "the first adding", 2, []int{0, 0, 0, 0, 0}, addOf(8, 1), []behindStep{
		{[]int{0, 0, 0, 0, 0}, impl.Call{Kind: 1, A: 8, X: 1, Pc: 4}},
		{[]int{0, 0, 0, 8, 0}, impl.Call{Kind: 1, A: 8, X: 1, Pc: 5}},
		{[]int{0, 0, 0, 8, 0}, impl.Call{Kind: 1, A: 8, X: 1, Pc: 6}},
		{[]int{4, 0, 0, 8, 0}, impl.Call{Kind: 1, A: 8, X: 1, Pc: 7, Res: impl.ReOk, Done: true}},
	})
	walkList(t, "ahead of a greater key", 2, []int{4, 0, 0, 8, 0}, addOf(-3, 0), []behindStep{
		{[]int{4, 0, 0, 8, 0}, impl.Call{Kind: 1, A: -3, Pc: 1, C: 4}},
		{[]int{4, 0, 0, 8, 0}, impl.Call{Kind: 1, A: -3, Pc: 2, C: 4}},
		{[]int{4, 0, 0, 8, 0}, impl.Call{Kind: 1, A: -3, Pc: 4, C: 4, V: 8}},
		{[]int{4, -3, 0, 8, 0}, impl.Call{Kind: 1, A: -3, Pc: 5, C: 4, V: 8}},
		{[]int{4, -3, 4, 8, 0}, impl.Call{Kind: 1, A: -3, Pc: 6, C: 4, V: 8}},
		{[]int{2, -3, 4, 8, 0}, impl.Call{Kind: 1, A: -3, Pc: 7, C: 4, V: 8, Res: impl.ReOk, Done: true}},
	})
	walkList(t, "between two keys", 3, []int{2, -3, 4, 8, 0, 0, 0}, addOf(5, 2), []behindStep{
		{[]int{2, -3, 4, 8, 0, 0, 0}, impl.Call{Kind: 1, A: 5, X: 2, Pc: 1, C: 2}},
		{[]int{2, -3, 4, 8, 0, 0, 0}, impl.Call{Kind: 1, A: 5, X: 2, Pc: 2, C: 2, W: 4}},
		{[]int{2, -3, 4, 8, 0, 0, 0}, impl.Call{Kind: 1, A: 5, X: 2, Pc: 0, P: 2, C: 2, W: 4, V: -3}},
		{[]int{2, -3, 4, 8, 0, 0, 0}, impl.Call{Kind: 1, A: 5, X: 2, Pc: 1, P: 2, C: 4, W: 4, V: -3}},
		{[]int{2, -3, 4, 8, 0, 0, 0}, impl.Call{Kind: 1, A: 5, X: 2, Pc: 2, P: 2, C: 4, W: 0, V: -3}},
		{[]int{2, -3, 4, 8, 0, 0, 0}, impl.Call{Kind: 1, A: 5, X: 2, Pc: 4, P: 2, C: 4, W: 0, V: 8}},
		{[]int{2, -3, 4, 8, 0, 5, 0}, impl.Call{Kind: 1, A: 5, X: 2, Pc: 5, P: 2, C: 4, W: 0, V: 8}},
		{[]int{2, -3, 4, 8, 0, 5, 4}, impl.Call{Kind: 1, A: 5, X: 2, Pc: 6, P: 2, C: 4, W: 0, V: 8}},
		{[]int{2, -3, 6, 8, 0, 5, 4}, impl.Call{Kind: 1, A: 5, X: 2, Pc: 7, P: 2, C: 4, W: 0, V: 8, Res: impl.ReOk, Done: true}},
	})
	walkList(t, "behind the last", 2, []int{2, 7, 0, 0, 0}, addOf(math.MaxInt, 1), []behindStep{
		{[]int{2, 7, 0, 0, 0}, impl.Call{Kind: 1, A: math.MaxInt, X: 1, Pc: 1, C: 2}},
		{[]int{2, 7, 0, 0, 0}, impl.Call{Kind: 1, A: math.MaxInt, X: 1, Pc: 2, C: 2}},
		{[]int{2, 7, 0, 0, 0}, impl.Call{Kind: 1, A: math.MaxInt, X: 1, P: 2, C: 2, V: 7}},
		{[]int{2, 7, 0, 0, 0}, impl.Call{Kind: 1, A: math.MaxInt, X: 1, Pc: 4, P: 2, V: 7}},
		{[]int{2, 7, 0, math.MaxInt, 0}, impl.Call{Kind: 1, A: math.MaxInt, X: 1, Pc: 5, P: 2, V: 7}},
		{[]int{2, 7, 0, math.MaxInt, 0}, impl.Call{Kind: 1, A: math.MaxInt, X: 1, Pc: 6, P: 2, V: 7}},
		{[]int{2, 7, 4, math.MaxInt, 0}, impl.Call{Kind: 1, A: math.MaxInt, X: 1, Pc: 7, P: 2, V: 7, Res: impl.ReOk, Done: true}},
	})
	walkList(t, "a key that is there", 2, []int{2, 7, 0, 0, 0}, addOf(7, 1), []behindStep{
		{[]int{2, 7, 0, 0, 0}, impl.Call{Kind: 1, A: 7, X: 1, Pc: 1, C: 2}},
		{[]int{2, 7, 0, 0, 0}, impl.Call{Kind: 1, A: 7, X: 1, Pc: 2, C: 2}},
		{[]int{2, 7, 0, 0, 0}, impl.Call{Kind: 1, A: 7, X: 1, Pc: 3, C: 2, V: 7, Res: impl.ReNo, Done: true}},
	})
}

// A key that is there but marked is taken out on the way, and added anew.
func TestAddOfAMarkedKey(t *testing.T) {
	walkList(t, "a key that is there but marked", 2, []int{2, 7, 1, 0, 0}, addOf(7, 1), []behindStep{
		{[]int{2, 7, 1, 0, 0}, impl.Call{Kind: 1, A: 7, X: 1, Pc: 1, C: 2}},
		{[]int{2, 7, 1, 0, 0}, impl.Call{Kind: 1, A: 7, X: 1, Pc: 3, C: 2, W: 1}},
		{[]int{0, 7, 1, 0, 0}, impl.Call{Kind: 1, A: 7, X: 1, C: 2, W: 1}},
		{[]int{0, 7, 1, 0, 0}, impl.Call{Kind: 1, A: 7, X: 1, Pc: 4, W: 1}},
		{[]int{0, 7, 1, 7, 0}, impl.Call{Kind: 1, A: 7, X: 1, Pc: 5, W: 1}},
		{[]int{0, 7, 1, 7, 0}, impl.Call{Kind: 1, A: 7, X: 1, Pc: 6, W: 1}},
		{[]int{4, 7, 1, 7, 0}, impl.Call{Kind: 1, A: 7, X: 1, Pc: 7, W: 1, Res: impl.ReOk, Done: true}},
	})
}

func TestDelStepByStep(t *testing.T) {
	walkList(t, "of an empty list", 1, []int{0, 0, 0}, delOf(8), []behindStep{
		{[]int{0, 0, 0}, impl.Call{Kind: 2, A: 8, Pc: 1, Res: impl.ReNo, Done: true}},
	})
	walkList(t, "the only key", 1, []int{2, 8, 0}, delOf(8), []behindStep{
		{[]int{2, 8, 0}, impl.Call{Kind: 2, A: 8, Pc: 1, C: 2}},
		{[]int{2, 8, 0}, impl.Call{Kind: 2, A: 8, Pc: 2, C: 2}},
		{[]int{2, 8, 0}, impl.Call{Kind: 2, A: 8, Pc: 7, C: 2, V: 8}},
		{[]int{2, 8, 1}, impl.Call{Kind: 2, A: 8, Pc: 8, C: 2, V: 8, Res: impl.ReOk, Done: true}},
	})
	walkList(t, "the least key, others behind it", 2, []int{4, 9, 0, math.MinInt, 2}, delOf(math.MinInt), []behindStep{
		{[]int{4, 9, 0, math.MinInt, 2}, impl.Call{Kind: 2, A: math.MinInt, Pc: 1, C: 4}},
		{[]int{4, 9, 0, math.MinInt, 2}, impl.Call{Kind: 2, A: math.MinInt, Pc: 2, C: 4, W: 2}},
		{[]int{4, 9, 0, math.MinInt, 2}, impl.Call{Kind: 2, A: math.MinInt, Pc: 7, C: 4, W: 2, V: math.MinInt}},
		{[]int{4, 9, 0, math.MinInt, 3}, impl.Call{Kind: 2, A: math.MinInt, Pc: 8, C: 4, W: 2, V: math.MinInt, Res: impl.ReOk, Done: true}},
	})
	walkList(t, "one that isn't there, a greater one is", 1, []int{2, 8, 0}, delOf(7), []behindStep{
		{[]int{2, 8, 0}, impl.Call{Kind: 2, A: 7, Pc: 1, C: 2}},
		{[]int{2, 8, 0}, impl.Call{Kind: 2, A: 7, Pc: 2, C: 2}},
		{[]int{2, 8, 0}, impl.Call{Kind: 2, A: 7, Pc: 3, C: 2, V: 8, Res: impl.ReNo, Done: true}},
	})
	walkList(t, "one that isn't there, a lesser one is", 1, []int{2, 8, 0}, delOf(9), []behindStep{
		{[]int{2, 8, 0}, impl.Call{Kind: 2, A: 9, Pc: 1, C: 2}},
		{[]int{2, 8, 0}, impl.Call{Kind: 2, A: 9, Pc: 2, C: 2}},
		{[]int{2, 8, 0}, impl.Call{Kind: 2, A: 9, P: 2, C: 2, V: 8}},
		{[]int{2, 8, 0}, impl.Call{Kind: 2, A: 9, Pc: 1, P: 2, V: 8, Res: impl.ReNo, Done: true}},
	})
	walkList(t, "one that is marked, behind another", 2, []int{2, 3, 4, 8, 1}, delOf(8), []behindStep{
		{[]int{2, 3, 4, 8, 1}, impl.Call{Kind: 2, A: 8, Pc: 1, C: 2}},
		{[]int{2, 3, 4, 8, 1}, impl.Call{Kind: 2, A: 8, Pc: 2, C: 2, W: 4}},
		{[]int{2, 3, 4, 8, 1}, impl.Call{Kind: 2, A: 8, P: 2, C: 2, W: 4, V: 3}},
		{[]int{2, 3, 4, 8, 1}, impl.Call{Kind: 2, A: 8, Pc: 1, P: 2, C: 4, W: 4, V: 3}},
		{[]int{2, 3, 4, 8, 1}, impl.Call{Kind: 2, A: 8, Pc: 3, P: 2, C: 4, W: 1, V: 3}},
		{[]int{2, 3, 0, 8, 1}, impl.Call{Kind: 2, A: 8, P: 2, C: 4, W: 1, V: 3}},
		{[]int{2, 3, 0, 8, 1}, impl.Call{Kind: 2, A: 8, Pc: 1, P: 2, W: 1, V: 3, Res: impl.ReNo, Done: true}},
	})
}

// Asking changes no cell, and goes past marked nodes without taking them out.
func TestHasStepByStep(t *testing.T) {
	empty := []int{0, 0, 0}
	walkList(t, "of an empty list", 1, empty, hasOf(8), []behindStep{
		{empty, impl.Call{Kind: 3, A: 8, Pc: 1, Res: impl.ReNo, Done: true}},
	})
	two := []int{2, 3, 4, 8, 0}
	walkList(t, "a key that is there", 2, two, hasOf(8), []behindStep{
		{two, impl.Call{Kind: 3, A: 8, Pc: 1, C: 2}},
		{two, impl.Call{Kind: 3, A: 8, Pc: 2, C: 2, W: 4}},
		{two, impl.Call{Kind: 3, A: 8, P: 2, C: 2, W: 4, V: 3}},
		{two, impl.Call{Kind: 3, A: 8, Pc: 1, P: 2, C: 4, W: 4, V: 3}},
		{two, impl.Call{Kind: 3, A: 8, Pc: 2, P: 2, C: 4, W: 0, V: 3}},
		{two, impl.Call{Kind: 3, A: 8, Pc: 3, P: 2, C: 4, W: 0, V: 8, Res: impl.ReOk, Done: true}},
	})
	walkList(t, "a key that isn't there", 2, two, hasOf(2), []behindStep{
		{two, impl.Call{Kind: 3, A: 2, Pc: 1, C: 2}},
		{two, impl.Call{Kind: 3, A: 2, Pc: 2, C: 2, W: 4}},
		{two, impl.Call{Kind: 3, A: 2, Pc: 3, C: 2, W: 4, V: 3, Res: impl.ReNo, Done: true}},
	})
	marked := []int{2, 3, 5, 8, 1}
	walkList(t, "a key that is there but marked, behind a marked one", 2, marked, hasOf(8), []behindStep{
		{marked, impl.Call{Kind: 3, A: 8, Pc: 1, C: 2}},
		{marked, impl.Call{Kind: 3, A: 8, Pc: 2, C: 2, W: 5}},
		{marked, impl.Call{Kind: 3, A: 8, P: 2, C: 2, W: 5, V: 3}},
		{marked, impl.Call{Kind: 3, A: 8, Pc: 1, P: 2, C: 5, W: 5, V: 3}},
		{marked, impl.Call{Kind: 3, A: 8, Pc: 2, P: 2, C: 5, W: 1, V: 3}},
		{marked, impl.Call{Kind: 3, A: 8, Pc: 3, P: 2, C: 5, W: 1, V: 8, Res: impl.ReNo, Done: true}},
	})
	walkList(t, "behind a marked one that is the last", 2, marked, hasOf(9), []behindStep{
		{marked, impl.Call{Kind: 3, A: 9, Pc: 1, C: 2}},
		{marked, impl.Call{Kind: 3, A: 9, Pc: 2, C: 2, W: 5}},
		{marked, impl.Call{Kind: 3, A: 9, P: 2, C: 2, W: 5, V: 3}},
		{marked, impl.Call{Kind: 3, A: 9, Pc: 1, P: 2, C: 5, W: 5, V: 3}},
		{marked, impl.Call{Kind: 3, A: 9, Pc: 2, P: 2, C: 5, W: 1, V: 3}},
		{marked, impl.Call{Kind: 3, A: 9, P: 4, C: 5, W: 1, V: 8}},
		{marked, impl.Call{Kind: 3, A: 9, Pc: 1, P: 4, C: 1, W: 1, V: 8, Res: impl.ReNo, Done: true}},
	})
}

// Of two that add the same key at the same place one comes in; the other begins again at the head, and finds it.
func TestTwoAddsAtOnce(t *testing.T) {
	m := listOf(t, 3, 1)
	m, p := walkOn(t, 3, m, addOf(5, 1), 6)
	m, q := walkOn(t, 3, m, addOf(5, 2), 7)
	if p.Pc != 6 || q.Res != impl.ReOk {
		t.Fatalf("%+v, %+v", p, q)
	}
	before := slices.Clone(m.Cells)
	m, p = walkOn(t, 3, m, p, 1)
	if want := (impl.Call{Kind: 1, A: 5, X: 1, V: 1}); p != want || !slices.Equal(m.Cells, before) {
		t.Fatalf("behind a cas that doesn't find its link: %+v, %v", p, m.Cells)
	}
	m, p = callOn(t, 3, m, p)
	if p.Res != impl.ReNo || !slices.Equal(impl.LiKeys(3, m), []int{1, 5}) {
		t.Errorf("it ends as %+v, with %v", p, impl.LiKeys(3, m))
	}
	// Of two with different keys both come in.
	for _, key := range []int{4, 6} {
		m := listOf(t, 3, 1)
		m, p := walkOn(t, 3, m, addOf(5, 1), 6)
		m, q := callOn(t, 3, m, addOf(key, 2))
		m, p = callOn(t, 3, m, p)
		want := []int{1, min(key, 5), max(key, 5)}
		if p.Res != impl.ReOk || q.Res != impl.ReOk || !slices.Equal(impl.LiKeys(3, m), want) {
			t.Errorf("5 and %d at once: %+v, %+v, with %v", key, p, q, impl.LiKeys(3, m))
		}
	}
}

// Of two that delete the same key one does; the other's cas finds the mark.
func TestTwoDelsAtOnce(t *testing.T) {
	m := listOf(t, 3, 1, 5)
	m, p := walkOn(t, 3, m, delOf(5), 6)
	m, q := callOn(t, 3, m, delOf(5))
	if p.Pc != 7 || q.Res != impl.ReOk || !slices.Equal(impl.LiKeys(3, m), []int{1}) {
		t.Fatalf("%+v, %+v, %v", p, q, m.Cells)
	}
	before := slices.Clone(m.Cells)
	m, p = walkOn(t, 3, m, p, 1)
	if want := (impl.Call{Kind: 2, A: 5, C: 4, V: 5}); p != want || !slices.Equal(m.Cells, before) {
		t.Fatalf("behind a cas that doesn't find its link: %+v, %v", p, m.Cells)
	}
	m, p = callOn(t, 3, m, p)
	if p.Res != impl.ReNo || !slices.Equal(m.Cells, []int{2, 1, 0, 5, 1, 0, 0}) {
		t.Errorf("it ends as %+v, with %v", p, m.Cells)
	}
}

// A node that is put in behind the one to be marked changes its link: the deleting begins again, and deletes.
func TestDelWhileOneComesBehind(t *testing.T) {
	m := listOf(t, 3, 1)
	m, p := walkOn(t, 3, m, delOf(1), 3)
	m, _ = callOn(t, 3, m, addOf(4, 1))
	m, p = walkOn(t, 3, m, p, 1)
	if want := (impl.Call{Kind: 2, A: 1, C: 2, V: 1}); p != want {
		t.Fatalf("behind a cas that doesn't find its link: %+v, want %+v", p, want)
	}
	m, p = callOn(t, 3, m, p)
	if p.Res != impl.ReOk || p.W != 4 || m.Cells[2] != 5 || !slices.Equal(impl.LiKeys(3, m), []int{4}) {
		t.Errorf("it ends as %+v, with %v", p, m.Cells)
	}
}

// Behind a node that was marked in between nothing is put in: the link has changed, and looked at anew it is marked.
func TestAddBehindANodeThatIsMarked(t *testing.T) {
	m := listOf(t, 3, 1)
	late, p := walkOn(t, 3, m, addOf(4, 1), 6)
	late, _ = callOn(t, 3, late, delOf(1))
	late, p = walkOn(t, 3, late, p, 1)
	if want := (impl.Call{Kind: 1, A: 4, X: 1, V: 1}); p != want {
		t.Fatalf("behind a cas at a marked link: %+v, want %+v", p, want)
	}
	late, p = callOn(t, 3, late, p)
	if p.Res != impl.ReOk || !slices.Equal(late.Cells, []int{4, 1, 1, 4, 0, 0, 0}) {
		t.Errorf("it ends as %+v, with %v", p, late.Cells)
	}
	for _, c := range []impl.Call{addOf(4, 1), delOf(4)} {
		early, p := walkOn(t, 3, m, c, 3)
		early, _ = callOn(t, 3, early, delOf(1))
		before := slices.Clone(early.Cells)
		early, p = walkOn(t, 3, early, p, 1)
		want := c
		want.C, want.V = 1, 1
		if p != want || !slices.Equal(early.Cells, before) {
			t.Errorf("at a marked link: %+v, want %+v", p, want)
		}
		if early, p = callOn(t, 3, early, p); len(impl.LiKeys(3, early)) != 2-c.Kind {
			t.Errorf("it ends as %+v, with %v", p, early.Cells)
		}
	}
}

// Two that take the same marked node out: the one that comes second finds another link and begins at the head.
func TestTwoTakeTheSameOut(t *testing.T) {
	for _, c := range []impl.Call{addOf(7, 2), delOf(7)} {
		m := listOf(t, 3, 1, 5)
		m, _ = callOn(t, 3, m, delOf(5))
		m, p := walkOn(t, 3, m, c, 5)
		m, q := walkOn(t, 3, m, delOf(9), 5)
		if p.Pc != 3 || p.W != 1 || p.P != 2 || q.Pc != 3 {
			t.Fatalf("both are to take 5 out: %+v, %+v", p, q)
		}
		m, q = walkOn(t, 3, m, q, 1)
		if want := (impl.Call{Kind: 2, A: 9, P: 2, C: 4, W: 1, V: 1}); q != want || m.Cells[2] != 0 {
			t.Fatalf("the first that takes it out is %+v, want %+v, %v", q, want, m.Cells)
		}
		before := slices.Clone(m.Cells)
		m, p = walkOn(t, 3, m, p, 1)
		want := c
		want.C, want.W, want.V = 4, 1, 1
		if p != want || !slices.Equal(m.Cells, before) {
			t.Fatalf("the second is %+v, want %+v, %v", p, want, m.Cells)
		}
		m, p = callOn(t, 3, m, p)
		m, q = callOn(t, 3, m, q)
		if p.Res != []int{impl.ReOk, impl.ReNo}[c.Kind-1] || q.Res != impl.ReNo || len(impl.LiKeys(3, m)) != 3-c.Kind {
			t.Errorf("they end as %+v and %+v, with %v", p, q, m.Cells)
		}
	}
}

// An asking that stands on a node which is deleted and taken out goes on along its link.
func TestHasOnANodeThatGoes(t *testing.T) {
	m := listOf(t, 3, 1, 5)
	for steps, res := range map[int]int{1: impl.ReNo, 2: impl.ReOk} {
		half, p := walkOn(t, 3, m, hasOf(1), steps)
		half, _ = callOn(t, 3, half, delOf(1))
		half, _ = callOn(t, 3, half, delOf(1))
		if half.Cells[0] != 4 {
			t.Fatalf("1 isn't taken out: %v", half.Cells)
		}
		if _, p = callOn(t, 3, half, p); p.Res != res {
			t.Errorf("behind %d steps: %+v, want %d", steps, p, res)
		}
	}
	half, p := walkOn(t, 3, m, hasOf(5), 3)
	half, _ = callOn(t, 3, half, delOf(1))
	half, _ = callOn(t, 3, half, delOf(1))
	if _, p = callOn(t, 3, half, p); p.Res != impl.ReOk || p.P != 2 || p.C != 5 {
		t.Errorf("5 from a node that is out: %+v", p)
	}
}

// A link that is loaded and isn't one ends what can be done, and changes nothing.
func TestLoadsOfNoLink(t *testing.T) {
	for n := 1; n <= 16; n++ {
		for _, link := range []int{-1, -2, -3, math.MinInt, math.MinInt + 1, 2*n + 2, 2*n + 3, 2*n + 4, math.MaxInt, math.MaxInt - 1} {
			for kind := 1; kind <= 3; kind++ {
				for k := range n {
					for _, c := range []impl.Call{{Kind: kind, A: 6, P: 2 + 2*k}, {Kind: kind, A: 6, Pc: 1, C: 2 + 2*k}, {Kind: kind, A: 6, Pc: 1, C: 3 + 2*k}} {
						cells := make([]int, 1+2*n)
						cells[2+2*k] = link
						next, behind, ok := impl.LiStep(n, impl.Mem{Cells: cells}, c)
						if len(next.Cells) != 0 || behind != (impl.Call{}) || ok {
							t.Fatalf("LiStep(%d, %v, %+v) = %v, %+v, %v", n, cells, c, next.Cells, behind, ok)
						}
						if _, ok := impl.LiAct(n, c); !ok {
							t.Fatalf("LiAct(%d, %+v) says false", n, c)
						}
					}
				}
				cells := make([]int, 1+2*n)
				cells[0] = link
				if _, _, ok := impl.LiStep(n, impl.Mem{Cells: cells}, impl.LiCall(kind, 6, 0)); ok {
					t.Fatalf("LiStep(%d) of kind %d takes the head link %d", n, kind, link)
				}
				// As a key it is as good as any.
				cells[0], cells[1] = 0, link
				if _, c, ok := impl.LiStep(n, impl.Mem{Cells: cells}, impl.Call{Kind: kind, A: 6, Pc: 2, C: 2}); !ok || c.V != link {
					t.Fatalf("LiStep(%d) of kind %d on the key %d = %+v, %v", n, kind, link, c, ok)
				}
			}
		}
	}
}

// A head link with a mark: an adding or a deleting begins again each time, an asking leaves the mark out.
func TestAMarkedHeadLink(t *testing.T) {
	m := impl.Mem{Cells: []int{3, 7, 0}}
	for _, c := range []impl.Call{addOf(7, 0), delOf(7)} {
		_, behind := walkOn(t, 1, m, c, 3)
		want := c
		want.C = 3
		if behind != want {
			t.Errorf("on a marked head link: %+v, want %+v", behind, want)
		}
	}
	if _, c := walkOn(t, 1, m, hasOf(7), 3); c.Res != impl.ReOk {
		t.Errorf("an asking on a marked head link: %+v", c)
	}
}

func TestLiStepRefusesRows(t *testing.T) {
	refused := func(n int, rows int, c impl.Call) {
		next, behind, ok := impl.LiStep(n, impl.Mem{Cells: make([]int, rows)}, c)
		if len(next.Cells) != 0 || behind != (impl.Call{}) || ok {
			t.Errorf("LiStep of size %d on %d cells and %+v = %v, %+v, %v", n, rows, c, next.Cells, behind, ok)
		}
	}
	for n := 1; n <= 16; n++ {
		for _, rows := range []int{0, 1, n, 2 * n, 2*n - 1, 2*n + 2, 2*n + 3, 300, 301} {
			if rows == 1+2*n {
				continue
			}
			for _, c := range listSteps() {
				refused(n, rows, c)
			}
		}
	}
	for _, n := range noSizes {
		for _, rows := range []int{0, 1, 3, 5, 33, 35, 37, 301} {
			for _, c := range listSteps() {
				refused(n, rows, c)
			}
		}
	}
	if next, behind, ok := impl.LiStep(3, impl.Mem{}, addOf(1, 0)); len(next.Cells) != 0 || behind != (impl.Call{}) || ok {
		t.Errorf("LiStep on no cells = %v, %+v, %v", next.Cells, behind, ok)
	}
}

// Cells that lie in the memory of the row but beyond its end don't count.
func TestNoNodeBehindTheEnd(t *testing.T) {
	m := impl.Mem{Cells: []int{2, 7, 4, 9, 0}[:3]}
	if _, _, ok := impl.LiStep(2, m, hasOf(7)); ok {
		t.Error("LiStep finds cells behind the last")
	}
	if got := impl.LiKeys(2, m); len(got) != 0 {
		t.Errorf("LiKeys(2) finds %v", got)
	}
	if got := impl.LiKeys(1, m); len(got) != 0 {
		t.Errorf("LiKeys(1) finds %v", got)
	}
}

func TestLiStepAnswersNewMemory(t *testing.T) {
	for _, c := range append(listSteps(), impl.Call{Kind: 1, Pc: 6, P: 2, C: 4}, impl.Call{Kind: 9}) {
		all := []int{2, 6, 0, 9, 1, 55, 66}
		before := slices.Clone(all)
		m := impl.Mem{Cells: all[:5]}
		first, _, _ := impl.LiStep(2, m, c)
		second, _, _ := impl.LiStep(2, m, c)
		kept := slices.Clone(second.Cells)
		fill(first.Cells)
		if !slices.Equal(all, before) || len(m.Cells) != 5 {
			t.Errorf("LiStep of %+v: the argument is now %v", c, all)
		}
		if !slices.Equal(second.Cells, kept) {
			t.Errorf("LiStep of %+v: two answers share memory", c)
		}
		fill(m.Cells)
		if !slices.Equal(second.Cells, kept) {
			t.Errorf("LiStep of %+v: the answer shares memory: %v", c, second.Cells)
		}
	}
}

func TestLiKeys(t *testing.T) {
	for _, x := range []struct {
		what  string
		n     int
		cells []int
		want  []int
	}{
		{"empty", 2, []int{0, 7, 0, 9, 0}, nil},
		{"one", 2, []int{2, 7, 0, 9, 0}, []int{7}},
		{"the other", 2, []int{4, 7, 0, 9, 0}, []int{9}},
		{"both", 2, []int{2, 7, 4, 9, 0}, []int{7, 9}},
		{"both, the last node first", 2, []int{4, 9, 0, 7, 2}, []int{7, 9}},
		{"the first marked", 2, []int{2, 7, 5, 9, 0}, []int{9}},
		{"the last marked", 2, []int{2, 7, 4, 9, 1}, []int{7}},
		{"both marked", 2, []int{2, 7, 5, 9, 1}, nil},
		{"the middle one marked", 3, []int{6, 8, 1, 5, 0, 3, 5}, []int{5}},
		{"keys of any kind", 3, []int{2, math.MinInt, 4, -1, 6, math.MaxInt, 0}, []int{math.MinInt, -1, math.MaxInt}},
		{"as they stand, in the order of the links", 3, []int{2, 9, 4, 5, 6, 5, 0}, []int{9, 5, 5}},
		{"a mark at the head link means no node", 2, []int{3, 7, 4, 9, 0}, []int{7, 9}},
		{"a mark alone at the head link", 2, []int{1, 7, 4, 9, 0}, nil},
		{"links of nodes that don't follow", 2, []int{2, 7, 0, 9, -1}, []int{7}},
		{"a link beyond of a node that doesn't follow", 2, []int{2, 7, 0, 9, 6}, []int{7}},
		{"a ring of nodes that don't follow", 3, []int{2, 7, 0, 9, 6, 9, 4}, []int{7}},
		{"a head link below 0", 2, []int{-1, 7, 4, 9, 0}, nil},
		{"an even head link below 0", 2, []int{-2, 7, 4, 9, 0}, nil},
		{"the least head link", 2, []int{math.MinInt, 7, 4, 9, 0}, nil},
		{"the greatest head link", 2, []int{math.MaxInt, 7, 4, 9, 0}, nil},
		{"a head link beyond", 2, []int{6, 7, 4, 9, 0}, nil},
		{"a head link beyond with a mark", 2, []int{7, 7, 4, 9, 0}, nil},
		{"a link below 0", 2, []int{2, 7, 4, 9, -1}, nil},
		{"an even link below 0", 2, []int{2, 7, 4, 9, -2}, nil},
		{"the first link below 0", 2, []int{2, 7, -4, 9, 0}, nil},
		{"a link beyond", 2, []int{2, 7, 4, 9, 6}, nil},
		{"a link beyond with a mark", 2, []int{2, 7, 4, 9, 7}, nil},
		{"the least link", 2, []int{2, 7, 4, 9, math.MinInt}, nil},
		{"the greatest link", 2, []int{2, 7, 4, 9, math.MaxInt}, nil},
		{"a node that follows itself", 2, []int{2, 7, 2, 9, 0}, nil},
		{"a marked node that follows itself", 2, []int{2, 7, 3, 9, 0}, nil},
		{"round", 2, []int{2, 7, 4, 9, 2}, nil},
		{"round, all marked", 2, []int{2, 7, 5, 9, 3}, nil},
		{"round behind the first", 3, []int{2, 7, 4, 8, 6, 9, 4}, nil},
		{"a cell too few", 2, []int{2, 7, 4, 9}, nil},
		{"a cell too many", 2, []int{2, 7, 4, 9, 0, 0}, nil},
		{"cells for one more", 2, []int{2, 7, 4, 9, 0, 0, 0}, nil},
		{"cells for one less", 2, []int{2, 7, 0}, nil},
		{"no cells", 2, nil, nil},
		{"cells for 0", 0, []int{0}, nil},
		{"the least size", 1, []int{2, 7, 0}, []int{7}},
	} {
		before := slices.Clone(x.cells)
		got := impl.LiKeys(x.n, impl.Mem{Cells: x.cells})
		if !slices.Equal(got, x.want) {
			t.Errorf("%s: LiKeys(%d, %v) = %v, want %v", x.what, x.n, x.cells, got, x.want)
		}
		fill(got)
		if !slices.Equal(x.cells, before) {
			t.Errorf("%s: the argument is now %v", x.what, x.cells)
		}
	}
}

// Lists of each size with so many nodes of which every how-manieth is marked.
func TestLiKeysOfAllFills(t *testing.T) {
	for n := 1; n <= 16; n++ {
		for count := range n + 1 {
			for every := 1; every <= n+1; every++ {
				cells := rowOf(1 + 2*n)
				cells[0] = 0
				at := 0
				var want []int
				for i := range count {
					node := n - 1 - i
					cells[at] += 2*node + 2
					at = 2 + 2*node
					cells[at], cells[at-1] = 0, 10*i-30
					if i%every == every-1 {
						cells[at] = 1
					} else {
						want = append(want, 10*i-30)
					}
				}
				if got := impl.LiKeys(n, impl.Mem{Cells: cells}); !slices.Equal(got, want) {
					t.Fatalf("LiKeys(%d, %v) = %v, want %v", n, cells, got, want)
				}
			}
		}
	}
}

func TestLiKeysRefusesSizes(t *testing.T) {
	for _, n := range noSizes {
		for _, rows := range []int{1, 3, 5, 33, 35, 37, 301} {
			cells := make([]int, rows)
			if rows > 1 {
				cells[0], cells[1] = 2, 7
			}
			if got := impl.LiKeys(n, impl.Mem{Cells: cells}); len(got) != 0 {
				t.Errorf("LiKeys(%d) of %d cells = %v", n, rows, got)
			}
		}
	}
}

// nodesIn: the nodes that follow from the head link on, marked or not.
func nodesIn(cells []int) []int {
	var l []int
	for k, some := tellsOf(cells[0]); some; k, some = tellsOf(cells[2+2*k]) {
		l = append(l, k)
	}
	return l
}

// freeNode: a node that doesn't follow, looked for from first on; -1 where all do.
func freeNode(n int, cells []int, first int) int {
	in := nodesIn(cells)
	for i := range n {
		if k := (first + i) % n; !slices.Contains(in, k) {
			return k
		}
	}
	return -1
}

// toldBySet: what a set tells of a call, and what it is then.
func toldBySet(set []int, kind int, a int) ([]int, int) {
	at, there := slices.BinarySearch(set, a)
	switch {
	case kind == impl.LiAdd && !there:
		return slices.Insert(slices.Clone(set), at, a), impl.ReOk
	case kind == impl.LiDel && there:
		return slices.Delete(slices.Clone(set), at, at+1), impl.ReOk
	case kind == impl.LiHas && there:
		return set, impl.ReOk
	}
	return set, impl.ReNo
}

// asASet makes calls one after the other on an empty list, beside a set. A node that went is used again once it is taken out.
func asASet(t *testing.T, n int, keys []int, calls int) {
	t.Helper()
	var set []int
	m, seed := newList(t, n), n
	most, ends := 0, map[[2]int]int{}
	for i := range calls {
		seed = (seed*1103515245 + 12345) % 4294967296
		kind, a := 1+seed>>16%3, keys[seed>>20%len(keys)]
		// Stretches in which keys come come to lists that are full.
		if kind == impl.LiDel && i/(4*n)%2 == 0 {
			kind = impl.LiAdd
		}
		x := freeNode(n, m.Cells, seed>>8%n)
		if kind == impl.LiAdd && x < 0 && !slices.Contains(set, a) {
			// Marked nodes may still stand in the list; a deleting that goes to its end takes them out.
			kind, a = impl.LiDel, keys[len(keys)-1]
		}
		var res int
		set, res = toldBySet(set, kind, a)
		var c impl.Call
		m, c = callOn(t, n, m, impl.LiCall(kind, a, x))
		if c.Res != res || c.A != a || c.Kind != kind {
			t.Fatalf("size %d, call %d: %+v, want %d", n, i, c, res)
		}
		if got := impl.LiKeys(n, m); !slices.Equal(got, set) {
			t.Fatalf("size %d, call %d: %v in it, want %v", n, i, got, set)
		}
		most = max(most, len(set))
		ends[[2]int{kind, res}]++
	}
	if most != min(n, len(keys)) || len(ends) != 6 {
		t.Errorf("size %d: at most %d keys, and the calls ended so: %v", n, most, ends)
	}
}

func TestListTellsWhatASetTells(t *testing.T) {
	keys := []int{math.MinInt, math.MinInt + 1, -1 << 40, -7, -1, 0, 1, 2, 3, 5, 8, 13, 4294967295, 4294967296, 1 << 60, math.MaxInt - 1, math.MaxInt}
	for n := 1; n <= 16; n++ {
		asASet(t, n, keys, 200*n)
		asASet(t, n, []int{-2, 3, 4}, 200*n)
	}
}

// A full list: a key that is there is found, and no node is left for another.
func TestAFullList(t *testing.T) {
	var keys []int
	for k := range 16 {
		keys = append(keys, 7*(k*5%16)-40)
	}
	m := listOf(t, 16, keys...)
	slices.Sort(keys)
	if got := impl.LiKeys(16, m); !slices.Equal(got, keys) {
		t.Fatalf("%v, want %v", got, keys)
	}
	for _, a := range keys {
		var c impl.Call
		if _, c = callOn(t, 16, m, hasOf(a)); c.Res != impl.ReOk || c.V != a {
			t.Errorf("asking for %d: %+v", a, c)
		}
		if _, c = callOn(t, 16, m, hasOf(a+1)); c.Res != impl.ReNo {
			t.Errorf("asking for %d: %+v", a+1, c)
		}
		if _, c = callOn(t, 16, m, addOf(a, 16)); c.Res != impl.ReNo {
			t.Errorf("adding %d: %+v", a, c)
		}
		less, c := callOn(t, 16, m, delOf(a))
		if c.Res != impl.ReOk || len(impl.LiKeys(16, less)) != 15 || slices.Contains(impl.LiKeys(16, less), a) {
			t.Errorf("deleting %d: %+v, %v", a, c, impl.LiKeys(16, less))
		}
	}
	c := addOf(1000, 16)
	for c.Pc != 4 {
		m, c = walkOn(t, 16, m, c, 1)
	}
	if next, behind, ok := impl.LiStep(16, m, c); len(next.Cells) != 0 || behind != (impl.Call{}) || ok {
		t.Errorf("adding as a node that isn't there: %v, %+v, %v", next.Cells, behind, ok)
	}
}

// listScene: a list between two steps, with all ways in which what was told till now may have come to pass.
type listScene struct {
	n       int
	m       impl.Mem
	callers []caller
	ways    []way
}

// way: a set of keys, rising, and for each caller what its call under way was told: 0 nothing yet, -1 there is none under way.
type way struct {
	set  []int
	told []int
}

// spread: the ways with all that may come to pass of the calls under way by now.
func (f listScene) spread(ways []way) []way {
	seen := map[string]bool{}
	var all []way
	for len(ways) > 0 {
		w := ways[0]
		ways = ways[1:]
		if key := fmt.Sprint(w); !seen[key] {
			seen[key] = true
			all = append(all, w)
			for i, told := range w.told {
				if told == 0 {
					c := f.callers[i].calls[f.callers[i].at]
					next := way{told: slices.Clone(w.told)}
					next.set, next.told[i] = toldBySet(w.set, c.Kind, c.A)
					ways = append(ways, next)
				}
			}
		}
	}
	slices.SortFunc(all, func(a, b way) int {
		if d := slices.Compare(a.set, b.set); d != 0 {
			return d
		}
		return slices.Compare(a.told, b.told)
	})
	return all
}

// marked: the ways in which the caller's call was told this before, which now becomes that.
func marked(ways []way, caller int, told int, then int) []way {
	var l []way
	for _, w := range ways {
		if w.told[caller] == told {
			next := way{set: w.set, told: slices.Clone(w.told)}
			next.told[caller] = then
			l = append(l, next)
		}
	}
	return l
}

// after: the scene behind a step of one caller. A call is under way from its first step to its last.
func (f listScene) after(t *testing.T, i int) listScene {
	h := f.callers[i]
	c := h.calls[h.at]
	if f.ways[0].told[i] == -1 {
		f.ways = f.spread(marked(f.ways, i, -1, 0))
	}
	var behind impl.Call
	f.m, behind = walkOn(t, f.n, f.m, c, 1)
	h.calls = slices.Clone(h.calls)
	h.calls[h.at] = behind
	if behind.Done {
		f.ways = marked(f.ways, i, behind.Res, -1)
		h.at++
	}
	f.callers = slices.Clone(f.callers)
	f.callers[i] = h
	f.look(t)
	return f
}

// look: at any time the keys rise, there is a way in which all that was told came to pass, and in one of them the set is what the list has.
func (f listScene) look(t *testing.T) {
	keys := impl.LiKeys(f.n, f.m)
	for i := 1; i < len(keys); i++ {
		if keys[i-1] >= keys[i] {
			t.Fatalf("the keys %v don't rise: %v", keys, f.m.Cells)
		}
	}
	for _, w := range f.ways {
		if slices.Equal(w.set, keys) {
			return
		}
	}
	t.Fatalf("%v in the list %v, behind the calls %+v, which may come to %v", keys, f.m.Cells, f.callers, f.ways)
}

// tryAllOnList lets the callers take their steps in all orders; a scene that was there before leads to nothing new. It counts how often calls ended in which way, and how often they went back to the head.
func tryAllOnList(t *testing.T, f listScene, seen map[string]bool, ends map[[2]int]int, again map[int]int) {
	key := fmt.Sprint(f)
	if seen[key] {
		return
	}
	seen[key] = true
	for i, h := range f.callers {
		if h.at < len(h.calls) {
			next := f.after(t, i)
			was, is := h.calls[h.at], next.callers[i].calls[h.at]
			if is.Done {
				ends[[2]int{is.Kind, is.Res}]++
			} else if is.Pc == 0 && is.P == 0 {
				again[was.Pc]++
			}
			tryAllOnList(t, next, seen, ends, again)
		}
	}
}

func TestAllOrdersOfListSteps(t *testing.T) {
	again := map[int]int{}
	for _, x := range []struct {
		what  string
		keys  []int
		calls [][]impl.Call
		ends  [][2]int
	}{
		{"two add the same", nil, [][]impl.Call{{addOf(5, 2)}, {addOf(5, 3)}}, [][2]int{{1, 1}, {1, 4}}},
		{"two add one behind the other", []int{1}, [][]impl.Call{{addOf(5, 2)}, {addOf(7, 3)}}, [][2]int{{1, 1}}},
		{"two delete the same", []int{5}, [][]impl.Call{{delOf(5)}, {delOf(5)}}, [][2]int{{2, 1}, {2, 4}}},
		{"two delete neighbours", []int{5, 7}, [][]impl.Call{{delOf(5)}, {delOf(7)}}, [][2]int{{2, 1}}},
		{"two delete neighbours and the same again", []int{5, 7}, [][]impl.Call{{delOf(5), delOf(7)}, {delOf(7), delOf(5)}}, [][2]int{{2, 1}, {2, 4}}},
		{"one is added behind one that goes", []int{5}, [][]impl.Call{{addOf(7, 2)}, {delOf(5), delOf(9)}}, [][2]int{{1, 1}, {2, 1}, {2, 4}}},
		{"one goes and comes", []int{5}, [][]impl.Call{{delOf(5), addOf(5, 2)}, {hasOf(5), hasOf(5)}}, [][2]int{{1, 1}, {2, 1}, {3, 1}, {3, 4}}},
		{"one comes and goes", []int{3}, [][]impl.Call{{addOf(5, 2), delOf(5)}, {addOf(5, 3), delOf(5)}}, [][2]int{{1, 1}, {1, 4}, {2, 1}, {2, 4}}},
		{"one goes and comes while another is deleted ahead of it", []int{3, 5}, [][]impl.Call{{delOf(5), addOf(5, 2)}, {delOf(3), hasOf(5)}}, [][2]int{{1, 1}, {2, 1}, {3, 1}, {3, 4}}},
		{"add, delete and ask", []int{3, 5}, [][]impl.Call{{addOf(4, 2)}, {delOf(3)}, {hasOf(4), hasOf(3)}}, [][2]int{{1, 1}, {2, 1}, {3, 1}, {3, 4}}},
		{"two add what one deletes", []int{5}, [][]impl.Call{{addOf(5, 2)}, {addOf(5, 3)}, {delOf(5)}}, [][2]int{{1, 1}, {1, 4}, {2, 1}}},
		{"two take out what one deletes", []int{3, 5}, [][]impl.Call{{delOf(3)}, {delOf(6)}, {addOf(4, 2)}}, [][2]int{{1, 1}, {2, 1}, {2, 4}}},
	} {
		f := listScene{n: 4, m: listOf(t, 4, x.keys...), ways: []way{{set: x.keys}}}
		for _, l := range x.calls {
			f.callers = append(f.callers, caller{calls: l})
			f.ways[0].told = append(f.ways[0].told, -1)
		}
		seen, ends := map[string]bool{}, map[[2]int]int{}
		tryAllOnList(t, f, seen, ends, again)
		// Fewer would mean that the callers didn't come between each other's steps.
		if len(seen) < 20 {
			t.Errorf("%s: %d scenes alone", x.what, len(seen))
		}
		for _, e := range x.ends {
			if ends[e] == 0 {
				t.Errorf("%s: no call of kind %d ends with %d: %v", x.what, e[0], e[1], ends)
			}
		}
		if len(ends) != len(x.ends) {
			t.Errorf("%s: the calls end so: %v", x.what, ends)
		}
	}
	for _, pc := range []int{0, 3, 6, 7} {
		if again[pc] == 0 {
			t.Errorf("no call went back to the head from step %d: %v", pc, again)
		}
	}
}
