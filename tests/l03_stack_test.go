package tests

import (
	"fmt"
	"math"
	"slices"
	"testing"

	"loop.example/g00724/impl"
)

// tagStep: a word with the tag t and the index i is t times this, and i.
const tagStep = 1 << 20

// lastWord: the word with the greatest tag and the greatest index.
const lastWord = 1<<50 - 1

// noWords: ints that are no word, on both sides.
var noWords = []int{-1, -2, -tagStep, -tagStep - 1, math.MinInt, math.MinInt + 1, lastWord + 1, lastWord + 2, 1 << 60, math.MaxInt}

// noSizes: ints that are no size of a stack.
var noSizes = []int{0, -1, -2, -16, 17, 18, 300, 1<<32 + 3, math.MaxInt, math.MaxInt - 1, math.MinInt}

func isStackWord(w int) bool { return w >= 0 && w <= lastWord }

// partsOf: tag and index of a word; both 0 of what is none.
func partsOf(w int) (int, int) {
	if !isStackWord(w) {
		return 0, 0
	}
	return w / tagStep, w % tagStep
}

// changedHead: the word behind a change of the head w.
func changedHead(w int, index int) int {
	tag, _ := partsOf(w)
	return (tag+1)%(1<<30)*tagStep + index
}

// actOfStack: what chapter 4 says of the next act of a call.
func actOfStack(n int, c impl.Call) (impl.Act, bool) {
	if n < 1 || n > 16 || c.Done || c.Pc < 0 || c.Pc > 2 {
		return impl.Act{}, false
	}
	_, index := partsOf(c.W)
	switch {
	case c.Kind == 1 && (c.A < 0 || c.A >= n), c.Kind == 2 && c.Pc > 0 && (index < 1 || index > n), c.Kind != 1 && c.Kind != 2:
		return impl.Act{}, false
	case c.Pc == 0:
		return impl.Act{Kind: 1}, true
	case c.Kind == 1 && c.Pc == 1:
		return impl.Act{Kind: 2, At: 1 + c.A, A: index}, true
	case c.Kind == 1:
		return impl.Act{Kind: 3, A: c.W, B: changedHead(c.W, c.A+1)}, true
	case c.Pc == 1:
		return impl.Act{Kind: 1, At: index}, true
	case c.C < 0 || c.C >= tagStep:
		return impl.Act{Kind: 3, A: c.W, B: changedHead(c.W, 0)}, true
	}
	return impl.Act{Kind: 3, A: c.W, B: changedHead(c.W, c.C)}, true
}

// stepOfStack: what chapter 4 says of a step, done on the cells themselves.
func stepOfStack(n int, cells []int, c impl.Call) ([]int, impl.Call, bool) {
	a, ok := actOfStack(n, c)
	if !ok || len(cells) != n+1 {
		return nil, impl.Call{}, false
	}
	next := slices.Clone(cells)
	_, index := partsOf(c.W)
	switch {
	case c.Pc == 0:
		c.Pc, c.W = 1, 0
		if isStackWord(next[0]) {
			c.W = next[0]
		}
		if c.Kind == 2 && c.W%tagStep == 0 {
			c.Done, c.Res = true, 2
		}
	case c.Kind == 1 && c.Pc == 1:
		c.Pc, next[1+c.A] = 2, index
	case c.Kind == 2 && c.Pc == 1:
		c.Pc, c.C = 2, next[index]
	case next[0] != c.W:
		c.Pc = 0
	default:
		next[0] = a.B
		c.Pc, c.Done, c.Res = 3, true, 1
		if c.Kind == 2 {
			c.V = index - 1
		}
	}
	return next, c, true
}

// manyCalls: each kind and some that are none, at and beside each step, with places, words and what lies under at their edges for n places. What a step doesn't ask for is not 0.
func manyCalls(n int) []impl.Call {
	words := []int{0, 1, 2, n, n + 1, tagStep - 1, tagStep, tagStep + 1, 5*tagStep + n, 5*tagStep + n + 1, lastWord - tagStep + 1, lastWord - tagStep + 1 + n, lastWord, -1, -tagStep + 1, lastWord + 1, lastWord + 2, math.MaxInt, math.MinInt, math.MinInt + 1}
	var l []impl.Call
	for _, kind := range []int{1, 2, 0, -1, 3, 4, 1<<32 + 1, math.MaxInt, math.MinInt} {
		for _, pc := range []int{0, 1, 2, -1, 3, 4, 1 << 32, math.MaxInt, math.MinInt} {
			for _, a := range []int{0, n - 1, n, -1, math.MaxInt, math.MinInt} {
				for _, w := range words {
					for _, c := range []int{0, 1, n, n + 1, tagStep - 1, tagStep, -1, math.MaxInt, math.MinInt} {
						l = append(l, impl.Call{Kind: kind, A: a, X: -3, Pc: pc, P: 41, C: c, W: w, Res: 4, V: 77})
					}
				}
			}
		}
	}
	return l
}

func pushOf(a int) impl.Call { return impl.StCall(impl.StPush, a) }

func popOf() impl.Call { return impl.StCall(impl.StPop, 0) }

// stepOn makes a step that must come to pass.
func stepOn(t *testing.T, n int, m impl.Mem, c impl.Call) (impl.Mem, impl.Call) {
	t.Helper()
	next, behind, ok := impl.StStep(n, m, c)
	if !ok {
		t.Fatalf("StStep(%d, %v, %+v) says false", n, m.Cells, c)
	}
	return next, behind
}

// stepsOn makes so many steps.
func stepsOn(t *testing.T, n int, m impl.Mem, c impl.Call, steps int) (impl.Mem, impl.Call) {
	t.Helper()
	for range steps {
		m, c = stepOn(t, n, m, c)
	}
	return m, c
}

func newStack(t *testing.T, n int, full bool) impl.Mem {
	t.Helper()
	m, ok := impl.StNew(n, full)
	if !ok {
		t.Fatalf("StNew(%d, %v) says false", n, full)
	}
	return m
}

// places: those from the first up to ahead of the end.
func places(first int, end int) []int {
	var l []int
	for k := first; k < end; k++ {
		l = append(l, k)
	}
	return l
}

func TestStackConstants(t *testing.T) {
	if impl.MaxSize != 16 || impl.StPush != 1 || impl.StPop != 2 {
		t.Errorf("MaxSize %d, StPush %d, StPop %d", impl.MaxSize, impl.StPush, impl.StPop)
	}
	if impl.ReOk != 1 || impl.ReEmpty != 2 || impl.ReFull != 3 || impl.ReNo != 4 {
		t.Errorf("ReOk %d, ReEmpty %d, ReFull %d, ReNo %d", impl.ReOk, impl.ReEmpty, impl.ReFull, impl.ReNo)
	}
}

func TestStNew(t *testing.T) {
	for _, x := range []struct {
		n    int
		full bool
		want []int
	}{
		{1, false, []int{0, 0}},
		{1, true, []int{1, 0}},
		{2, false, []int{0, 0, 0}},
		{2, true, []int{1, 2, 0}},
		{3, false, []int{0, 0, 0, 0}},
		{3, true, []int{1, 2, 3, 0}},
		{15, true, []int{1, 2, 3, 4, 5, 6, 7, 8, 9, 10, 11, 12, 13, 14, 15, 0}},
		{16, false, make([]int, 17)},
		{16, true, []int{1, 2, 3, 4, 5, 6, 7, 8, 9, 10, 11, 12, 13, 14, 15, 16, 0}},
	} {
		m, ok := impl.StNew(x.n, x.full)
		if !ok || !slices.Equal(m.Cells, x.want) {
			t.Errorf("StNew(%d, %v) = %v, %v, want %v, true", x.n, x.full, m.Cells, ok, x.want)
		}
		fill(m.Cells)
		if again, _ := impl.StNew(x.n, x.full); !slices.Equal(again.Cells, x.want) {
			t.Errorf("StNew(%d, %v) answers memory that it had given out: %v", x.n, x.full, again.Cells)
		}
	}
}

func TestStNewHoldsAllPlacesOrNone(t *testing.T) {
	for n := 1; n <= 16; n++ {
		if got := impl.StItems(n, newStack(t, n, true)); !slices.Equal(got, places(0, n)) {
			t.Errorf("a full stack of %d places has %v", n, got)
		}
		if got := impl.StItems(n, newStack(t, n, false)); len(got) != 0 {
			t.Errorf("an empty stack of %d places has %v", n, got)
		}
	}
}

func TestStNewRefuses(t *testing.T) {
	for _, n := range noSizes {
		for _, full := range []bool{false, true} {
			if m, ok := impl.StNew(n, full); len(m.Cells) != 0 || ok {
				t.Errorf("StNew(%d, %v) = %v, %v", n, full, m.Cells, ok)
			}
		}
	}
}

func TestStCall(t *testing.T) {
	for _, a := range append([]int{3, 15, 16, 17}, someInts...) {
		if got := impl.StCall(1, a); got != (impl.Call{Kind: 1, A: a}) {
			t.Errorf("StCall of a push of %d = %+v", a, got)
		}
		if got := impl.StCall(2, a); got != (impl.Call{Kind: 2}) {
			t.Errorf("StCall of a pop with %d = %+v", a, got)
		}
		for _, kind := range append([]int{3, 4}, noKinds...) {
			if got := impl.StCall(kind, a); got != (impl.Call{}) {
				t.Errorf("StCall(%d, %d) = %+v", kind, a, got)
			}
		}
	}
}

func TestStAct(t *testing.T) {
	const load, store, cas = impl.AcLoad, impl.AcStore, impl.AcCas
	for _, x := range []struct {
		what string
		n    int
		c    impl.Call
		want impl.Act
	}{
		{"a push begins", 3, pushOf(2), impl.Act{Kind: load}},
		{"a push begins with a W", 3, impl.Call{Kind: 1, A: 2, W: -9}, impl.Act{Kind: load}},
		{"a push on nothing", 3, impl.Call{Kind: 1, A: 2, Pc: 1}, impl.Act{Kind: store, At: 3}},
		{"a push on the place 1", 3, impl.Call{Kind: 1, A: 2, Pc: 1, W: 4*tagStep + 2}, impl.Act{Kind: store, At: 3, A: 2}},
		{"a push of the place 0", 3, impl.Call{Kind: 1, Pc: 1, W: 3}, impl.Act{Kind: store, At: 1, A: 3}},
		{"a push on a place beyond", 3, impl.Call{Kind: 1, Pc: 1, W: tagStep + 900}, impl.Act{Kind: store, At: 1, A: 900}},
		{"a push on a W that is no word", 3, impl.Call{Kind: 1, A: 2, Pc: 1, W: -9}, impl.Act{Kind: store, At: 3}},
		{"a push on a W above all words", 3, impl.Call{Kind: 1, A: 2, Pc: 1, W: lastWord + 2}, impl.Act{Kind: store, At: 3}},
		{"a push changes the first head", 3, impl.Call{Kind: 1, A: 2, Pc: 2}, impl.Act{Kind: cas, B: tagStep + 3}},
		{"a push changes the head", 3, impl.Call{Kind: 1, A: 2, Pc: 2, W: 4*tagStep + 2}, impl.Act{Kind: cas, A: 4*tagStep + 2, B: 5*tagStep + 3}},
		{"a push ahead of the last tag", 3, impl.Call{Kind: 1, Pc: 2, W: (1<<30-2)*tagStep + 2}, impl.Act{Kind: cas, A: (1<<30-2)*tagStep + 2, B: (1<<30-1)*tagStep + 1}},
		{"a push behind the last tag", 3, impl.Call{Kind: 1, Pc: 2, W: (1<<30-1)*tagStep + 2}, impl.Act{Kind: cas, A: (1<<30-1)*tagStep + 2, B: 1}},
		{"a push changes what is no word", 3, impl.Call{Kind: 1, A: 2, Pc: 2, W: -9}, impl.Act{Kind: cas, A: -9, B: tagStep + 3}},
		{"a push of the last of MaxSize", 16, impl.Call{Kind: 1, A: 15, Pc: 2, W: 7}, impl.Act{Kind: cas, A: 7, B: tagStep + 16}},
		{"a pop begins", 3, popOf(), impl.Act{Kind: load}},
		{"a pop begins with a W and an A", 3, impl.Call{Kind: 2, A: 99, W: -9, C: -9}, impl.Act{Kind: load}},
		{"a pop looks under the place 0", 3, impl.Call{Kind: 2, Pc: 1, W: 1}, impl.Act{Kind: load, At: 1}},
		{"a pop looks under the last place", 3, impl.Call{Kind: 2, Pc: 1, W: 4*tagStep + 3}, impl.Act{Kind: load, At: 3}},
		{"a pop of one place", 1, impl.Call{Kind: 2, Pc: 1, W: 1}, impl.Act{Kind: load, At: 1}},
		{"a pop changes the head", 3, impl.Call{Kind: 2, Pc: 2, W: 4*tagStep + 2, C: 3}, impl.Act{Kind: cas, A: 4*tagStep + 2, B: 5*tagStep + 3}},
		{"a pop of the last that lies there", 3, impl.Call{Kind: 2, Pc: 2, W: 2}, impl.Act{Kind: cas, A: 2, B: tagStep}},
		{"a pop behind the last tag", 3, impl.Call{Kind: 2, Pc: 2, W: (1<<30-1)*tagStep + 2, C: 1}, impl.Act{Kind: cas, A: (1<<30-1)*tagStep + 2, B: 1}},
		{"a pop with a C that is no place", 3, impl.Call{Kind: 2, Pc: 2, W: 2, C: 900}, impl.Act{Kind: cas, A: 2, B: tagStep + 900}},
		{"a pop with the greatest C", 3, impl.Call{Kind: 2, Pc: 2, W: 2, C: tagStep - 1}, impl.Act{Kind: cas, A: 2, B: 2*tagStep - 1}},
		{"a pop with a C above MaxIndex", 3, impl.Call{Kind: 2, Pc: 2, W: 2, C: tagStep}, impl.Act{Kind: cas, A: 2, B: tagStep}},
		{"a pop with a C below 0", 3, impl.Call{Kind: 2, Pc: 2, W: 2, C: -1}, impl.Act{Kind: cas, A: 2, B: tagStep}},
	} {
		if got, ok := impl.StAct(x.n, x.c); got != x.want || !ok {
			t.Errorf("%s: StAct(%d, %+v) = %+v, %v, want %+v, true", x.what, x.n, x.c, got, ok, x.want)
		}
	}
}

func TestStActRefuses(t *testing.T) {
	for _, x := range []struct {
		what string
		n    int
		c    impl.Call
	}{
		{"done", 3, impl.Call{Kind: 2, Done: true}},
		{"a push that is done", 3, impl.Call{Kind: 1, Pc: 2, Done: true}},
		{"behind the last step", 3, impl.Call{Kind: 1, Pc: 3}},
		{"a pop behind the last step", 3, impl.Call{Kind: 2, Pc: 3, W: 1}},
		{"ahead of the first step", 3, impl.Call{Kind: 1, Pc: -1}},
		{"a pop ahead of the first step", 3, impl.Call{Kind: 2, Pc: -1, W: 1}},
		{"nothing", 3, impl.Call{}},
		{"a kind beyond", 3, impl.Call{Kind: 3}},
		{"a kind below", 3, impl.Call{Kind: -1}},
		{"a push of a place beyond", 3, pushOf(3)},
		{"a push of a place below", 3, pushOf(-1)},
		{"a push of a place beyond, step 1", 3, impl.Call{Kind: 1, A: 3, Pc: 1}},
		{"a push of a place beyond, step 2", 3, impl.Call{Kind: 1, A: 3, Pc: 2}},
		{"a push of the least", 3, impl.Call{Kind: 1, A: math.MinInt, Pc: 1}},
		{"a pop with no place", 3, impl.Call{Kind: 2, Pc: 1}},
		{"a pop with no place, step 2", 3, impl.Call{Kind: 2, Pc: 2, W: 5 * tagStep}},
		{"a pop of a place beyond", 3, impl.Call{Kind: 2, Pc: 1, W: 4}},
		{"a pop of a place beyond, step 2", 3, impl.Call{Kind: 2, Pc: 2, W: tagStep + 4}},
		{"a pop with a W that is no word", 3, impl.Call{Kind: 2, Pc: 1, W: -tagStep + 1}},
		{"a pop with a W above all words", 3, impl.Call{Kind: 2, Pc: 2, W: lastWord + 2}},
	} {
		if got, ok := impl.StAct(x.n, x.c); got != (impl.Act{}) || ok {
			t.Errorf("%s: StAct(%d, %+v) = %+v, %v", x.what, x.n, x.c, got, ok)
		}
	}
	for _, n := range noSizes {
		for _, c := range []impl.Call{popOf(), pushOf(0), pushOf(n), pushOf(n - 1), {Kind: 1, Pc: 1}, {Kind: 1, Pc: 2}, {Kind: 2, Pc: 1, W: 1}, {Kind: 2, Pc: 2, W: 1}} {
			if got, ok := impl.StAct(n, c); got != (impl.Act{}) || ok {
				t.Errorf("StAct(%d, %+v) = %+v, %v", n, c, got, ok)
			}
		}
	}
}

func TestStActAtManyCalls(t *testing.T) {
	for _, n := range append([]int{1, 2, 3, 15, 16}, noSizes...) {
		for _, c := range manyCalls(n) {
			for _, done := range []bool{false, true} {
				c.Done = done
				want, right := actOfStack(n, c)
				if got, ok := impl.StAct(n, c); got != want || ok != right {
					t.Fatalf("StAct(%d, %+v) = %+v, %v, want %+v, %v", n, c, got, ok, want, right)
				}
			}
		}
	}
}

// An act that StAct tells is right for the cells of such a stack.
func TestStActTellsActsThatAreRight(t *testing.T) {
	for _, n := range []int{1, 2, 16} {
		m := newStack(t, n, true)
		for _, c := range manyCalls(n) {
			if a, ok := impl.StAct(n, c); ok && !impl.ActOk(m, a) {
				t.Fatalf("StAct(%d, %+v) = %+v", n, c, a)
			}
		}
	}
}

// A whole push, alone: all that the cells and the call are behind each step.
func TestPushStepByStep(t *testing.T) {
	m := impl.Mem{Cells: []int{7*tagStep + 2, 0, 0, 9}}
	c := pushOf(2)
	for i, x := range []struct {
		cells []int
		c     impl.Call
	}{
		{[]int{7*tagStep + 2, 0, 0, 9}, impl.Call{Kind: 1, A: 2, Pc: 1, W: 7*tagStep + 2}},
		{[]int{7*tagStep + 2, 0, 0, 2}, impl.Call{Kind: 1, A: 2, Pc: 2, W: 7*tagStep + 2}},
		{[]int{8*tagStep + 3, 0, 0, 2}, impl.Call{Kind: 1, A: 2, Pc: 3, W: 7*tagStep + 2, Res: impl.ReOk, Done: true}},
	} {
		m, c = stepOn(t, 3, m, c)
		if !slices.Equal(m.Cells, x.cells) || c != x.c {
			t.Fatalf("step %d: %v, %+v, want %v, %+v", i, m.Cells, c, x.cells, x.c)
		}
	}
	if got := impl.StItems(3, m); !slices.Equal(got, []int{2, 1}) {
		t.Errorf("the stack has %v", got)
	}
	if next, behind, ok := impl.StStep(3, m, c); len(next.Cells) != 0 || behind != (impl.Call{}) || ok {
		t.Errorf("a call that is done goes on: %v, %+v, %v", next.Cells, behind, ok)
	}
}

func TestPopStepByStep(t *testing.T) {
	m := impl.Mem{Cells: []int{7*tagStep + 2, 0, 3, 0}}
	c := popOf()
	for i, x := range []struct {
		cells []int
		c     impl.Call
	}{
		{[]int{7*tagStep + 2, 0, 3, 0}, impl.Call{Kind: 2, Pc: 1, W: 7*tagStep + 2}},
		{[]int{7*tagStep + 2, 0, 3, 0}, impl.Call{Kind: 2, Pc: 2, C: 3, W: 7*tagStep + 2}},
		{[]int{8*tagStep + 3, 0, 3, 0}, impl.Call{Kind: 2, Pc: 3, C: 3, W: 7*tagStep + 2, Res: impl.ReOk, V: 1, Done: true}},
	} {
		m, c = stepOn(t, 3, m, c)
		if !slices.Equal(m.Cells, x.cells) || c != x.c {
			t.Fatalf("step %d: %v, %+v, want %v, %+v", i, m.Cells, c, x.cells, x.c)
		}
	}
	if next, behind, ok := impl.StStep(3, m, c); len(next.Cells) != 0 || behind != (impl.Call{}) || ok {
		t.Errorf("a call that is done goes on: %v, %+v, %v", next.Cells, behind, ok)
	}
}

// A pop of nothing is done with its first step; its Pc goes on all the same.
func TestPopOfNothing(t *testing.T) {
	for _, head := range []int{0, tagStep, 7 * tagStep, (1<<30 - 1) * tagStep} {
		m := impl.Mem{Cells: []int{head, 0, 0}}
		next, c := stepOn(t, 2, m, popOf())
		if want := (impl.Call{Kind: 2, Pc: 1, W: head, Res: impl.ReEmpty, Done: true}); c != want {
			t.Errorf("head %d: %+v, want %+v", head, c, want)
		}
		if !slices.Equal(next.Cells, m.Cells) {
			t.Errorf("head %d: the cells are %v", head, next.Cells)
		}
	}
}

// Of two pushes that read the same head one comes to pass; the other begins again and comes on top.
func TestTwoPushesAtOnce(t *testing.T) {
	m := newStack(t, 3, false)
	m, p := stepsOn(t, 3, m, pushOf(0), 2)
	m, q := stepsOn(t, 3, m, pushOf(1), 3)
	if !q.Done || q.Res != impl.ReOk || p.Done {
		t.Fatalf("the second push is %+v, the first %+v", q, p)
	}
	before := slices.Clone(m.Cells)
	m, p = stepOn(t, 3, m, p)
	if want := (impl.Call{Kind: 1}); p != want || !slices.Equal(m.Cells, before) {
		t.Fatalf("behind a cas that doesn't find its word: %+v, %v", p, m.Cells)
	}
	m, p = stepsOn(t, 3, m, p, 3)
	if !p.Done || p.Res != impl.ReOk || p.W != tagStep+2 {
		t.Errorf("the first push is %+v", p)
	}
	if got := impl.StItems(3, m); !slices.Equal(got, []int{0, 1}) || m.Cells[0] != 2*tagStep+1 {
		t.Errorf("the stack has %v, its head is %d", got, m.Cells[0])
	}
}

// Of two pops that read the same head one gets the place; what the other has read stays in its call until it reads anew.
func TestTwoPopsAtOnce(t *testing.T) {
	m := newStack(t, 3, true)
	m, p := stepsOn(t, 3, m, popOf(), 2)
	m, q := stepsOn(t, 3, m, popOf(), 3)
	if !q.Done || q.V != 0 {
		t.Fatalf("the second pop is %+v", q)
	}
	m, p = stepOn(t, 3, m, p)
	if want := (impl.Call{Kind: 2, C: 2, W: 1}); p != want {
		t.Fatalf("behind a cas that doesn't find its word: %+v, want %+v", p, want)
	}
	m, p = stepsOn(t, 3, m, p, 3)
	if want := (impl.Call{Kind: 2, Pc: 3, C: 3, W: tagStep + 2, Res: impl.ReOk, V: 1, Done: true}); p != want {
		t.Errorf("the first pop is %+v, want %+v", p, want)
	}
	if got := impl.StItems(3, m); !slices.Equal(got, []int{2}) {
		t.Errorf("the stack has %v", got)
	}
}

// A place that is popped and pushed back between another's steps: the head tells the same place again, what lies under it is another. By the tag the cas doesn't find its word.
func TestAPlaceThatComesBack(t *testing.T) {
	m := newStack(t, 3, true)
	m, slow := stepsOn(t, 3, m, popOf(), 2)
	m, first := stepsOn(t, 3, m, popOf(), 3)
	m, second := stepsOn(t, 3, m, popOf(), 3)
	if first.V != 0 || second.V != 1 {
		t.Fatalf("popped %+v and %+v", first, second)
	}
	m, _ = stepsOn(t, 3, m, pushOf(first.V), 3)
	if got := impl.StItems(3, m); !slices.Equal(got, []int{0, 2}) {
		t.Fatalf("the stack has %v", got)
	}
	if slow.W%tagStep != m.Cells[0]%tagStep || m.Cells[0] != 3*tagStep+1 {
		t.Fatalf("the head is %d", m.Cells[0])
	}
	m, slow = stepOn(t, 3, m, slow)
	if slow.Done || slow.Pc != 0 {
		t.Fatalf("it takes the new head for the old one: %+v", slow)
	}
	m, slow = stepsOn(t, 3, m, slow, 3)
	if !slow.Done || slow.V != 0 || !slices.Equal(impl.StItems(3, m), []int{2}) {
		t.Errorf("it ends as %+v and leaves %v", slow, impl.StItems(3, m))
	}
}

// A push, too, doesn't take a head that went and came back for the one that it read.
func TestAPlaceThatComesBackUnderAPush(t *testing.T) {
	m := newStack(t, 3, true)
	m, gone := stepsOn(t, 3, m, popOf(), 3)
	m, slow := stepsOn(t, 3, m, pushOf(gone.V), 2)
	m, other := stepsOn(t, 3, m, popOf(), 3)
	m, _ = stepsOn(t, 3, m, pushOf(other.V), 3)
	m, slow = stepOn(t, 3, m, slow)
	if slow.Done || slow.Pc != 0 {
		t.Fatalf("it takes the new head for the old one: %+v", slow)
	}
	m, slow = stepsOn(t, 3, m, slow, 3)
	if !slow.Done || !slices.Equal(impl.StItems(3, m), []int{0, 1, 2}) || m.Cells[0] != 4*tagStep+1 {
		t.Errorf("it ends as %+v and leaves %v", slow, m.Cells)
	}
}

// Tags go round: behind the greatest comes 0.
func TestTagsGoRound(t *testing.T) {
	m := impl.Mem{Cells: []int{(1<<30-2)*tagStep + 1, 2, 0}}
	for i, x := range []struct {
		c    impl.Call
		head int
	}{
		{popOf(), (1<<30-1)*tagStep + 2},
		{pushOf(0), 1},
		{popOf(), tagStep + 2},
	} {
		m, x.c = stepsOn(t, 2, m, x.c, 3)
		if !x.c.Done || m.Cells[0] != x.head {
			t.Fatalf("call %d: %+v leaves the head %d, want %d", i, x.c, m.Cells[0], x.head)
		}
	}
	m = impl.Mem{Cells: []int{(1<<30-1)*tagStep + 1, 2, 0}}
	m, _ = stepsOn(t, 2, m, popOf(), 3)
	if m.Cells[0] != 2 || !slices.Equal(impl.StItems(2, m), []int{1}) {
		t.Errorf("a pop at MaxTag leaves %v", m.Cells)
	}
}

func TestAHeadThatIsNoWord(t *testing.T) {
	for _, head := range noWords {
		m := impl.Mem{Cells: []int{head, 2, 3, 0}}
		next, c := stepOn(t, 3, m, popOf())
		if want := (impl.Call{Kind: 2, Pc: 1, Res: impl.ReEmpty, Done: true}); c != want || !slices.Equal(next.Cells, m.Cells) {
			t.Errorf("a pop of a head %d: %+v, %v", head, c, next.Cells)
		}
		next, c = stepOn(t, 3, m, pushOf(1))
		if want := (impl.Call{Kind: 1, A: 1, Pc: 1}); c != want || !slices.Equal(next.Cells, m.Cells) {
			t.Errorf("a push on a head %d: %+v, %v", head, c, next.Cells)
		}
		next, c = stepOn(t, 3, next, c)
		if want := []int{head, 2, 0, 0}; !slices.Equal(next.Cells, want) {
			t.Errorf("a push on a head %d, step 1: %v", head, next.Cells)
		}
		// What it read counts as the word of 0 and 0, which isn't there.
		next, c = stepOn(t, 3, next, c)
		if want := (impl.Call{Kind: 1, A: 1}); c != want || next.Cells[0] != head {
			t.Errorf("a push on a head %d, step 2: %+v, %v", head, c, next.Cells)
		}
		// A call that holds such a W itself does find it.
		next, c = stepOn(t, 3, m, impl.Call{Kind: 1, A: 1, Pc: 2, W: head})
		if want := []int{tagStep + 2, 2, 3, 0}; !c.Done || !slices.Equal(next.Cells, want) {
			t.Errorf("a push that holds %d: %+v, %v", head, c, next.Cells)
		}
	}
}

// What lies under a place may be anything that a cell can hold.
func TestPopOfWhatLiesOnNoIndex(t *testing.T) {
	for _, x := range []struct{ under, head int }{
		{0, 6 * tagStep}, {1, 6*tagStep + 1}, {2, 6*tagStep + 2}, {3, 6*tagStep + 3}, {tagStep - 1, 7*tagStep - 1},
		{tagStep, 6 * tagStep}, {tagStep + 1, 6 * tagStep}, {math.MaxInt, 6 * tagStep},
		{-1, 6 * tagStep}, {-2, 6 * tagStep}, {math.MinInt, 6 * tagStep},
	} {
		m := impl.Mem{Cells: []int{5*tagStep + 2, 0, x.under}}
		m, c := stepsOn(t, 2, m, popOf(), 3)
		want := impl.Call{Kind: 2, Pc: 3, C: x.under, W: 5*tagStep + 2, Res: impl.ReOk, V: 1, Done: true}
		if c != want || !slices.Equal(m.Cells, []int{x.head, 0, x.under}) {
			t.Errorf("with %d under it: %+v, %v", x.under, c, m.Cells)
		}
	}
}

// A head that tells a place beyond is read; from there on the call can't go on.
func TestAHeadThatTellsAPlaceBeyond(t *testing.T) {
	m := impl.Mem{Cells: []int{3, 2, 0}}
	m, c := stepOn(t, 2, m, popOf())
	if c != (impl.Call{Kind: 2, Pc: 1, W: 3}) {
		t.Errorf("behind the load: %+v", c)
	}
	if next, behind, ok := impl.StStep(2, m, c); len(next.Cells) != 0 || behind != (impl.Call{}) || ok {
		t.Errorf("the next step: %v, %+v, %v", next.Cells, behind, ok)
	}
}

// stackRows: cells for n places: full, empty, with tags, with what is no word, with what is no place, and no sense.
func stackRows(n int) [][]int {
	full, row := places(1, n+1), rowOf(n+1)
	full = append(full, 0)
	l := [][]int{full, make([]int, n+1), row}
	for _, head := range []int{1, n, n + 1, 5 * tagStep, 5*tagStep + n, lastWord - tagStep + 1 + n, lastWord, lastWord + 1, -1, math.MinInt, math.MaxInt} {
		for _, under := range []int{0, 1, n, n + 1, -1, tagStep, math.MinInt} {
			r := slices.Repeat([]int{under}, n+1)
			r[0] = head
			l = append(l, r)
		}
	}
	return l
}

func TestStStepAtManyCalls(t *testing.T) {
	for _, n := range []int{1, 3, 16} {
		calls := manyCalls(n)
		for _, cells := range stackRows(n) {
			before := slices.Clone(cells)
			for i, c := range calls {
				c.Done = i%97 == 0
				want, call, right := stepOfStack(n, before, c)
				next, got, ok := impl.StStep(n, impl.Mem{Cells: cells}, c)
				if !slices.Equal(next.Cells, want) || got != call || ok != right {
					t.Fatalf("StStep(%d, %v, %+v) = %v, %+v, %v, want %v, %+v, %v", n, cells, c, next.Cells, got, ok, want, call, right)
				}
			}
			if !slices.Equal(cells, before) {
				t.Fatalf("StStep changed %v to %v", before, cells)
			}
		}
	}
}

func TestStStepRefuses(t *testing.T) {
	for _, n := range []int{1, 2, 3, 15, 16} {
		for _, rows := range []int{0, 1, n, n + 2, 2 + 2*n, 300, 301} {
			if rows == n+1 {
				continue
			}
			for _, c := range []impl.Call{popOf(), pushOf(0), {Kind: 1, Pc: 1}, {Kind: 1, Pc: 2}, {Kind: 2, Pc: 1, W: 1}, {Kind: 2, Pc: 2, W: 1}} {
				next, behind, ok := impl.StStep(n, impl.Mem{Cells: make([]int, rows)}, c)
				if len(next.Cells) != 0 || behind != (impl.Call{}) || ok {
					t.Errorf("StStep of %d places on %d cells and %+v = %v, %+v, %v", n, rows, c, next.Cells, behind, ok)
				}
			}
		}
	}
	for _, n := range noSizes {
		for _, rows := range []int{0, 1, 2, 3, 18, 19, 301} {
			next, behind, ok := impl.StStep(n, impl.Mem{Cells: make([]int, rows)}, popOf())
			if len(next.Cells) != 0 || behind != (impl.Call{}) || ok {
				t.Errorf("StStep of %d places on %d cells = %v, %+v, %v", n, rows, next.Cells, behind, ok)
			}
		}
	}
	m := newStack(t, 3, true)
	for _, c := range []impl.Call{{}, {Kind: 3}, {Kind: 2, Done: true}, {Kind: 1, Pc: 3}, {Kind: 2, Pc: -1}, pushOf(3), pushOf(-1), {Kind: 2, Pc: 1}, {Kind: 2, Pc: 2, W: 4}} {
		next, behind, ok := impl.StStep(3, m, c)
		if len(next.Cells) != 0 || behind != (impl.Call{}) || ok {
			t.Errorf("StStep of %+v = %v, %+v, %v", c, next.Cells, behind, ok)
		}
	}
	if next, behind, ok := impl.StStep(3, impl.Mem{}, popOf()); len(next.Cells) != 0 || behind != (impl.Call{}) || ok {
		t.Errorf("StStep on no cells = %v, %+v, %v", next.Cells, behind, ok)
	}
}

// Cells that lie in the memory of the row but beyond its end don't count.
func TestNoPlaceBehindTheEnd(t *testing.T) {
	m := impl.Mem{Cells: []int{1, 2, 3, 0, 0, 0}[:3]}
	if _, _, ok := impl.StStep(3, m, popOf()); ok {
		t.Error("StStep finds cells behind the last")
	}
	if got := impl.StItems(3, m); len(got) != 0 {
		t.Errorf("StItems finds %v", got)
	}
}

func TestStStepAnswersNewMemory(t *testing.T) {
	for _, c := range []impl.Call{
		popOf(), pushOf(1),
		{Kind: 1, A: 1, Pc: 1, W: 1}, {Kind: 1, A: 1, Pc: 2, W: 1}, {Kind: 1, A: 1, Pc: 2, W: 5},
		{Kind: 2, Pc: 1, W: 1}, {Kind: 2, Pc: 2, W: 1, C: 3}, {Kind: 2, Pc: 2, W: tagStep + 1, C: 3},
		{Kind: 9},
	} {
		all := []int{1, 3, 0, 0, 55, 66}
		before := slices.Clone(all)
		m := impl.Mem{Cells: all[:4]}
		first, _, _ := impl.StStep(3, m, c)
		second, _, _ := impl.StStep(3, m, c)
		kept := slices.Clone(second.Cells)
		fill(first.Cells)
		if !slices.Equal(all, before) || len(m.Cells) != 4 {
			t.Errorf("StStep of %+v: the argument is now %v", c, all)
		}
		fill(m.Cells)
		if !slices.Equal(second.Cells, kept) {
			t.Errorf("StStep of %+v: the answer shares memory: %v", c, second.Cells)
		}
	}
}

func TestStItems(t *testing.T) {
	for _, x := range []struct {
		what  string
		n     int
		cells []int
		want  []int
	}{
		{"all", 3, []int{1, 2, 3, 0}, []int{0, 1, 2}},
		{"in another order", 3, []int{2, 3, 1, 0}, []int{1, 0, 2}},
		{"with a tag", 3, []int{9*tagStep + 3, 0, 0, 1}, []int{2, 0}},
		{"with the greatest tag", 3, []int{(1<<30-1)*tagStep + 3, 0, 0, 1}, []int{2, 0}},
		{"one", 3, []int{2, 7, 0, -8}, []int{1}},
		{"none", 3, []int{0, 2, 3, 0}, nil},
		{"none, with a tag", 3, []int{4 * tagStep, 2, 3, 0}, nil},
		{"one of one", 1, []int{1, 0}, []int{0}},
		{"none of one", 1, []int{0, 0}, nil},
		{"all of MaxSize", 16, []int{16, 0, 1, 2, 3, 4, 5, 6, 7, 8, 9, 10, 11, 12, 13, 14, 15}, []int{15, 14, 13, 12, 11, 10, 9, 8, 7, 6, 5, 4, 3, 2, 1, 0}},
		{"too few cells", 3, []int{1, 2, 0}, nil},
		{"too many cells", 3, []int{1, 2, 3, 0, 0}, nil},
		{"no cells", 3, nil, nil},
		{"a head below all words", 3, []int{-1, 2, 3, 0}, nil},
		{"a head above all words", 3, []int{lastWord + 2, 2, 3, 0}, nil},
		{"the greatest head", 3, []int{math.MaxInt, 2, 3, 0}, nil},
		{"the least head", 3, []int{math.MinInt, 2, 3, 0}, nil},
		{"a head beyond", 3, []int{4, 2, 3, 0}, nil},
		{"a head far beyond", 3, []int{tagStep - 1, 2, 3, 0}, nil},
		{"a place beyond", 3, []int{1, 4, 0, 0}, nil},
		{"a place far beyond", 3, []int{1, 2, math.MaxInt, 0}, nil},
		{"a place below", 3, []int{1, -1, 0, 0}, nil},
		{"a place far below", 3, []int{1, 2, math.MinInt, 0}, nil},
		{"a word under a place", 3, []int{1, tagStep + 2, 0, 0}, nil},
		{"a place on itself", 3, []int{1, 1, 0, 0}, nil},
		{"the first twice", 3, []int{1, 2, 1, 0}, nil},
		{"the second twice", 3, []int{1, 2, 3, 2}, nil},
		{"one of one twice", 1, []int{1, 1}, nil},
		{"the first of MaxSize twice", 16, []int{1, 2, 3, 4, 5, 6, 7, 8, 9, 10, 11, 12, 13, 14, 15, 16, 1}, nil},
	} {
		before := slices.Clone(x.cells)
		got := impl.StItems(x.n, impl.Mem{Cells: x.cells})
		if !slices.Equal(got, x.want) {
			t.Errorf("%s: StItems(%d, %v) = %v, want %v", x.what, x.n, x.cells, got, x.want)
		}
		fill(got)
		if !slices.Equal(x.cells, before) {
			t.Errorf("%s: the argument is now %v", x.what, x.cells)
		}
	}
}

func TestStItemsRefusesSizes(t *testing.T) {
	for _, n := range noSizes {
		for _, rows := range []int{0, 1, 2, 3, 18, 19, 301} {
			// The first place lies there alone, if there are such cells.
			cells := make([]int, rows)
			if rows > 1 {
				cells[0] = 1
			}
			if got := impl.StItems(n, impl.Mem{Cells: cells}); len(got) != 0 {
				t.Errorf("StItems(%d) of %d cells = %v", n, rows, got)
			}
		}
	}
}

// Calls done one after the other tell what a list of places would, and the tag counts those that changed it.
func TestCallsOneAfterTheOther(t *testing.T) {
	for n := 1; n <= 16; n++ {
		m := newStack(t, n, n%2 == 0)
		list, held, changes, seed := impl.StItems(n, m), []int(nil), 0, n
		if n%2 == 1 {
			held = places(0, n)
		}
		for range 400 {
			seed = (seed*1103515245 + 12345) % 4294967296
			c, res, v := popOf(), impl.ReEmpty, 0
			switch push := seed>>16%5 < 2+seed>>8%2; {
			case push && len(held) > 0:
				at := seed >> 4 % len(held)
				c, res = pushOf(held[at]), impl.ReOk
				list = slices.Insert(list, 0, held[at])
				held = slices.Delete(held, at, at+1)
				changes++
			case len(list) > 0:
				res, v = impl.ReOk, list[0]
				list, held = list[1:], append(held, v)
				changes++
			}
			steps := 0
			for !c.Done && steps < 3 {
				m, c = stepOn(t, n, m, c)
				steps++
			}
			if !c.Done || c.Res != res || c.V != v || steps != c.Pc {
				t.Fatalf("%d places: %+v behind %d steps, want %d, %d", n, c, steps, res, v)
			}
			if got := impl.StItems(n, m); !slices.Equal(got, list) || m.Cells[0]/tagStep != changes {
				t.Fatalf("%d places: the stack has %v and the tag %d, want %v and %d", n, got, m.Cells[0]/tagStep, list, changes)
			}
		}
	}
}

// worker makes calls one after the other; pops and pushes of what it holds, the oldest first.
type worker struct {
	kinds []int
	held  []int
	call  impl.Call
	at    int
}

// begin makes the call at which the worker is, where it hasn't begun; a push with nothing held is left out. It tells whether there is a call.
func (w *worker) begin() bool {
	for w.call == (impl.Call{}) {
		if w.at == len(w.kinds) {
			return false
		}
		switch {
		case w.kinds[w.at] == impl.StPop:
			w.call = popOf()
		case len(w.held) > 0:
			w.call, w.held = pushOf(w.held[0]), w.held[1:]
		default:
			w.at++
		}
	}
	return true
}

// scene: the stack between two steps, with what a list holds to which each call is done at once with its last step.
type scene struct {
	n       int
	m       impl.Mem
	list    []int
	changes int
	workers []worker
}

// after: the scene behind a step of one worker, which tells what the list does.
func (s scene) after(t *testing.T, i int, w worker) scene {
	m, c := stepOn(t, s.n, s.m, w.call)
	list, changes := s.list, s.changes
	w.call = c
	if c.Done {
		w.call, w.at = impl.Call{}, w.at+1
		switch {
		case c.Kind == impl.StPush && c.Res == impl.ReOk:
			list, changes = append([]int{c.A}, list...), changes+1
		case c.Kind == impl.StPop && c.Res == impl.ReOk && len(list) > 0 && c.V == list[0]:
			list, changes = list[1:], changes+1
			w.held = append(slices.Clone(w.held), c.V)
		case c.Kind == impl.StPop && c.Res == impl.ReEmpty && len(list) == 0:
		default:
			t.Fatalf("a list that has %v doesn't tell %+v", list, c)
		}
	}
	if got := impl.StItems(s.n, m); !slices.Equal(got, list) || m.Cells[0]/tagStep != changes {
		t.Fatalf("behind %+v the stack has %v and the tag %d, want %v and %d", c, got, m.Cells[0]/tagStep, list, changes)
	}
	workers := slices.Clone(s.workers)
	workers[i] = w
	return scene{n: s.n, m: m, list: list, changes: changes, workers: workers}
}

// tryAll lets the workers take their steps in all orders; a scene that was there before leads to nothing new.
func tryAll(t *testing.T, s scene, seen map[string]bool) {
	key := fmt.Sprint(s)
	if seen[key] {
		return
	}
	seen[key] = true
	for i, w := range s.workers {
		if w.begin() {
			tryAll(t, s.after(t, i, w), seen)
		}
	}
}

func TestAllOrdersOfSteps(t *testing.T) {
	const push, pop = impl.StPush, impl.StPop
	for _, x := range []struct {
		what    string
		n       int
		list    []int
		workers []worker
	}{
		{"two pushes", 2, nil, []worker{{kinds: []int{push}, held: []int{0}}, {kinds: []int{push}, held: []int{1}}}},
		{"two pops of one place", 1, []int{0}, []worker{{kinds: []int{pop}}, {kinds: []int{pop}}}},
		{"a pop and a push", 2, []int{0}, []worker{{kinds: []int{pop}}, {kinds: []int{push}, held: []int{1}}}},
		{"a pop of nothing and a push", 1, nil, []worker{{kinds: []int{pop}}, {kinds: []int{push}, held: []int{0}}}},
		{"three pops", 3, []int{0, 1, 2}, []worker{{kinds: []int{pop}}, {kinds: []int{pop}}, {kinds: []int{pop}}}},
		{"a place that comes back under a pop", 3, []int{0, 1, 2}, []worker{{kinds: []int{pop}}, {kinds: []int{pop, pop, push}}}},
		{"and goes back itself", 3, []int{0, 1, 2}, []worker{{kinds: []int{pop, push}}, {kinds: []int{pop, pop, push, push}}}},
		{"a place that comes back under a push", 3, []int{0, 1}, []worker{{kinds: []int{push}, held: []int{2}}, {kinds: []int{pop, push}}}},
		{"three that pop and push back", 2, []int{1, 0}, []worker{{kinds: []int{pop, push}}, {kinds: []int{pop, push}}, {kinds: []int{pop, push}}}},
	} {
		m := newStack(t, x.n, false)
		for _, place := range slices.Backward(x.list) {
			m, _ = stepsOn(t, x.n, m, pushOf(place), 3)
		}
		seen := map[string]bool{}
		tryAll(t, scene{n: x.n, m: m, list: x.list, changes: len(x.list), workers: x.workers}, seen)
		// Fewer would mean that the workers didn't come between each other's steps.
		if len(seen) < 10 {
			t.Errorf("%s: %d scenes alone", x.what, len(seen))
		}
	}
}
