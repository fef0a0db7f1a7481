package tests

import (
	"fmt"
	"math"
	"slices"
	"testing"

	"loop.example/g00724/impl"
)

// noWhats: ints that name no object.
var noWhats = []int{0, 4, -1, -2, -3, 5, 1<<32 + 1, math.MaxInt, math.MinInt, math.MinInt + 1}

// somePicks: picks at the edges for a crew of which at most six are able.
var somePicks = []int{0, 1, 2, 3, 5, 6, 7, 59, -1, -2, -3, -6, -7, 1 << 32, math.MaxInt, math.MaxInt - 1, math.MinInt, math.MinInt + 1}

// makes: a thread that is to make these calls.
func makes(calls ...impl.Call) impl.Thread { return impl.Thread{Calls: calls} }

func ownPush() impl.Call { return impl.StCall(impl.StPush, impl.Own) }

func sameThread(a impl.Thread, b impl.Thread) bool {
	return a.At == b.At && slices.Equal(a.Calls, b.Calls) && slices.Equal(a.Begun, b.Begun) && slices.Equal(a.Ended, b.Ended)
}

func sameCrew(a impl.Crew, b impl.Crew) bool {
	return a.What == b.What && a.Size == b.Size && a.Clock == b.Clock && slices.Equal(a.Mem.Cells, b.Mem.Cells) && slices.EqualFunc(a.Threads, b.Threads, sameThread)
}

func cloneThread(a impl.Thread) impl.Thread {
	return impl.Thread{Calls: slices.Clone(a.Calls), At: a.At, Begun: slices.Clone(a.Begun), Ended: slices.Clone(a.Ended)}
}

func cloneCrew(a impl.Crew) impl.Crew {
	b := impl.Crew{What: a.What, Size: a.Size, Mem: impl.Mem{Cells: slices.Clone(a.Mem.Cells)}, Clock: a.Clock}
	for _, th := range a.Threads {
		b.Threads = append(b.Threads, cloneThread(th))
	}
	return b
}

// newCrew makes a crew that must come to be.
func newCrew(t *testing.T, what int, size int, full bool, l ...impl.Thread) impl.Crew {
	t.Helper()
	w, ok := impl.CrewNew(what, size, full, l)
	if !ok {
		t.Fatalf("CrewNew(%d, %d, %v, %+v) says false", what, size, full, l)
	}
	return w
}

// crewStep makes a step that must come to pass.
func crewStep(t *testing.T, w impl.Crew, pick int) impl.Crew {
	t.Helper()
	next, ok := impl.CrewStep(w, pick)
	if !ok {
		t.Fatalf("CrewStep(%+v, %d) says false", w, pick)
	}
	return next
}

// startOf: a call at its beginning, and whether its kind is one of the object, as chapters 4 to 6 have them.
func startOf(what int, c impl.Call) (impl.Call, bool) {
	switch {
	case what == 1 && c.Kind == 1, what == 2 && c.Kind == 1:
		return impl.Call{Kind: c.Kind, A: c.A}, true
	case what == 1 && c.Kind == 2, what == 2 && c.Kind == 2:
		return impl.Call{Kind: c.Kind}, true
	case what == 3 && c.Kind == 1:
		return impl.Call{Kind: c.Kind, A: c.A, X: c.X}, true
	case what == 3 && (c.Kind == 2 || c.Kind == 3):
		return impl.Call{Kind: c.Kind, A: c.A}, true
	}
	return impl.Call{}, false
}

// cellsFor: how many cells an object has, and whether there is one of this size.
func cellsFor(what int, size int) (int, bool) {
	switch {
	case what == 1 && size >= 1 && size <= 16:
		return 1 + size, true
	case what == 2 && size >= 2 && size <= 16:
		return 2 + 2*size, true
	case what == 3 && size >= 1 && size <= 16:
		return 1 + 2*size, true
	}
	return 0, false
}

// The functions whose names begin with crew and end with Said, and those that they call, answer what chapter 8 says, by its words alone.

func crewNewSaid(what int, size int, full bool, l []impl.Thread) (impl.Crew, bool) {
	n, ok := cellsFor(what, size)
	if !ok || len(l) > 6 {
		return impl.Crew{}, false
	}
	w := impl.Crew{What: what, Size: size, Mem: impl.Mem{Cells: make([]int, n)}}
	for k := range size {
		switch {
		case what == 1 && full:
			w.Mem.Cells[k] = k + 1
		case what == 2:
			w.Mem.Cells[2+2*k] = k
		}
	}
	for _, th := range l {
		var fresh impl.Thread
		for _, c := range th.Calls {
			c, ok := startOf(what, c)
			if !ok {
				return impl.Crew{}, false
			}
			fresh.Calls = append(fresh.Calls, c)
			fresh.Begun = append(fresh.Begun, -1)
			fresh.Ended = append(fresh.Ended, -1)
		}
		if len(fresh.Calls) > 12 {
			return impl.Crew{}, false
		}
		w.Threads = append(w.Threads, fresh)
	}
	return w, true
}

func between(n int, least int, most int) bool { return n >= least && n <= most }

func threadRight(what int, clock int, th impl.Thread) bool {
	n := len(th.Calls)
	if n > 12 || len(th.Begun) != n || len(th.Ended) != n || !between(th.At, 0, n) {
		return false
	}
	for i, c := range th.Calls {
		start, _ := startOf(what, c)
		switch {
		case i < th.At && !c.Done, i >= th.At && c.Done, i > th.At && c != start:
			return false
		case (c.Done || c.Pc != 0) && !between(th.Begun[i], 0, clock-1):
			return false
		case !between(th.Begun[i], -1, clock-1):
			return false
		case c.Done && !between(th.Ended[i], 0, clock-1), !c.Done && th.Ended[i] != -1:
			return false
		}
	}
	return true
}

func crewOkSaid(w impl.Crew) bool {
	n, ok := cellsFor(w.What, w.Size)
	if !ok || len(w.Mem.Cells) != n || len(w.Threads) > 6 || w.Clock < 0 {
		return false
	}
	for _, th := range w.Threads {
		if !threadRight(w.What, w.Clock, th) {
			return false
		}
	}
	return true
}

func crewAbleSaid(w impl.Crew) []int {
	var l []int
	for i, th := range w.Threads {
		if th.At < len(th.Calls) {
			l = append(l, i)
		}
	}
	return l
}

func crewPoppedSaid(th impl.Thread) int {
	p := -1
	for i := 0; i < th.At && i < len(th.Calls); i++ {
		if c := th.Calls[i]; c.Kind == 2 && c.Res == 1 {
			p = c.V
		} else if c.Kind == 1 && c.Res == 1 && c.Done {
			p = -1
		}
	}
	return p
}

func crewStepSaid(w impl.Crew, pick int) (impl.Crew, bool) {
	able := crewAbleSaid(w)
	if !crewOkSaid(w) || len(able) == 0 {
		return impl.Crew{}, false
	}
	next := cloneCrew(w)
	th := &next.Threads[able[placeIn(len(able), pick)]]
	at, c, ok := th.At, th.Calls[th.At], true
	if w.What == 1 && c.Kind == 1 && c.A == -1 {
		c.A = crewPoppedSaid(*th)
	}
	switch {
	case w.What == 1 && c.Kind == 1 && c.A == -1:
		c.Done, c.Res = true, 4
	case w.What == 1:
		next.Mem.Cells, c, ok = stepOfStack(w.Size, w.Mem.Cells, c)
	case w.What == 2:
		next.Mem.Cells, c, ok = stepOfRing(w.Size, w.Mem.Cells, c)
	default:
		next.Mem.Cells, c, ok = stepOfList(w.Size, w.Mem.Cells, c)
	}
	if !ok {
		return impl.Crew{}, false
	}
	th.Calls[at] = c
	if th.Begun[at] == -1 {
		th.Begun[at] = w.Clock
	}
	if c.Done {
		th.Ended[at], th.At = w.Clock, at+1
	}
	next.Clock++
	return next, true
}

func crewRunSaid(w impl.Crew, picks []int) impl.Crew {
	if !crewOkSaid(w) {
		return impl.Crew{}
	}
	for _, pick := range picks {
		next, ok := crewStepSaid(w, pick)
		if !ok {
			break
		}
		w = next
	}
	return cloneCrew(w)
}

func crewRestSaid(w impl.Crew) int {
	rest := 0
	for _, th := range w.Threads {
		for _, c := range th.Calls {
			if c.Done {
				rest--
			}
		}
		rest += len(th.Calls)
	}
	return rest
}

// asSaid holds all that there is to ask of a crew against what chapter 8 says.
func asSaid(t *testing.T, w impl.Crew, picks []int) {
	t.Helper()
	before := cloneCrew(w)
	if got := impl.CrewOk(w); got != crewOkSaid(w) {
		t.Fatalf("CrewOk(%+v) is %v", w, got)
	}
	if got := impl.Able(w); !slices.Equal(got, crewAbleSaid(w)) {
		t.Fatalf("Able(%+v) is %v", w, got)
	}
	if got := impl.Rest(w); got != crewRestSaid(w) {
		t.Fatalf("Rest(%+v) is %d", w, got)
	}
	for _, th := range w.Threads {
		if got := impl.Popped(th); got != crewPoppedSaid(th) {
			t.Fatalf("Popped(%+v) is %d", th, got)
		}
	}
	for i, pick := range picks {
		got, ok := impl.CrewStep(w, pick)
		if want, right := crewStepSaid(w, pick); ok != right || !sameCrew(got, want) {
			t.Fatalf("CrewStep(%+v, %d) is %+v, %v; want %+v, %v", w, pick, got, ok, want, right)
		}
		if got := impl.CrewRun(w, picks[:i]); !sameCrew(got, crewRunSaid(w, picks[:i])) {
			t.Fatalf("CrewRun(%+v, %v) is %+v", w, picks[:i], got)
		}
	}
	if !sameCrew(w, before) {
		t.Fatalf("%+v was changed from %+v", w, before)
	}
}

func TestCrewConstants(t *testing.T) {
	if impl.CrStack != 1 || impl.CrRing != 2 || impl.CrList != 3 {
		t.Errorf("CrStack %d, CrRing %d, CrList %d", impl.CrStack, impl.CrRing, impl.CrList)
	}
	if impl.MaxThreads != 6 || impl.MaxCalls != 12 || impl.Own != -1 {
		t.Errorf("MaxThreads %d, MaxCalls %d, Own %d", impl.MaxThreads, impl.MaxCalls, impl.Own)
	}
}

func TestCrewNew(t *testing.T) {
	// Of what is handed in, Kind, A and X alone count.
	stale := impl.Call{Kind: 1, A: 6, X: 2, Pc: 2, P: 3, C: 4, W: 5, Res: 1, V: 7, Done: true}
	other := impl.Call{Kind: 2, A: 8, X: 3, Pc: 1, P: 2, C: 3, W: 4, Res: 2, V: 9}
	third := impl.Call{Kind: 3, A: -8, X: 4, Pc: 9, Done: true}
	given := []impl.Thread{{Calls: []impl.Call{stale, other}, At: 2, Begun: []int{5, 6, 7}, Ended: []int{8}}, {At: 7, Begun: []int{1}}, {Calls: []impl.Call{other}}}
	none := []int{-1}
	for _, x := range []struct {
		what, size int
		full       bool
		l          []impl.Thread
		want       impl.Crew
	}{
		{1, 3, true, given, impl.Crew{What: 1, Size: 3, Mem: impl.Mem{Cells: []int{1, 2, 3, 0}}, Threads: []impl.Thread{
			{Calls: []impl.Call{{Kind: 1, A: 6}, {Kind: 2}}, Begun: []int{-1, -1}, Ended: []int{-1, -1}}, {}, {Calls: []impl.Call{{Kind: 2}}, Begun: none, Ended: none}}}},
		{1, 2, false, given[2:], impl.Crew{What: 1, Size: 2, Mem: impl.Mem{Cells: []int{0, 0, 0}}, Threads: []impl.Thread{{Calls: []impl.Call{{Kind: 2}}, Begun: none, Ended: none}}}},
		{1, 1, true, []impl.Thread{makes(ownPush())}, impl.Crew{What: 1, Size: 1, Mem: impl.Mem{Cells: []int{1, 0}}, Threads: []impl.Thread{{Calls: []impl.Call{{Kind: 1, A: -1}}, Begun: none, Ended: none}}}},
		{2, 2, true, given, impl.Crew{What: 2, Size: 2, Mem: impl.Mem{Cells: []int{0, 0, 0, 0, 1, 0}}, Threads: []impl.Thread{
			{Calls: []impl.Call{{Kind: 1, A: 6}, {Kind: 2}}, Begun: []int{-1, -1}, Ended: []int{-1, -1}}, {}, {Calls: []impl.Call{{Kind: 2}}, Begun: none, Ended: none}}}},
		{2, 3, false, nil, impl.Crew{What: 2, Size: 3, Mem: impl.Mem{Cells: []int{0, 0, 0, 0, 1, 0, 2, 0}}}},
		{3, 2, true, []impl.Thread{makes(stale, other, third)}, impl.Crew{What: 3, Size: 2, Mem: impl.Mem{Cells: []int{0, 0, 0, 0, 0}}, Threads: []impl.Thread{
			{Calls: []impl.Call{{Kind: 1, A: 6, X: 2}, {Kind: 2, A: 8}, {Kind: 3, A: -8}}, Begun: []int{-1, -1, -1}, Ended: []int{-1, -1, -1}}}}},
		{3, 1, false, []impl.Thread{{}}, impl.Crew{What: 3, Size: 1, Mem: impl.Mem{Cells: []int{0, 0, 0}}, Threads: []impl.Thread{{}}}},
	} {
		got, ok := impl.CrewNew(x.what, x.size, x.full, x.l)
		if !ok || !sameCrew(got, x.want) {
			t.Errorf("CrewNew(%d, %d, %v, %+v) is %+v, %v", x.what, x.size, x.full, x.l, got, ok)
		}
		if !impl.CrewOk(got) {
			t.Errorf("CrewOk(%+v) is false of a new crew", got)
		}
	}
}

func TestCrewNewAtManyArguments(t *testing.T) {
	var crews [][]impl.Thread
	for _, n := range []int{0, 1, 2, 5, 6, 7, 8, 40} {
		for _, calls := range []int{0, 1, 2, 11, 12, 13, 14, 40} {
			l := slices.Repeat([]impl.Thread{makes(slices.Repeat([]impl.Call{{Kind: 2, A: 3}}, calls)...)}, n)
			crews = append(crews, l)
			if n > 1 {
				first, last := slices.Clone(l), slices.Clone(l)
				first[0], last[n-1] = makes(), makes(impl.Call{Kind: 1, A: -1, X: 1})
				crews = append(crews, first, last)
			}
		}
	}
	for _, kind := range append([]int{1, 2, 3}, noKinds...) {
		odd := impl.Call{Kind: kind, A: 1, X: 2}
		right := impl.Call{Kind: 1, A: 4, X: 1}
		crews = append(crews, []impl.Thread{makes(odd)}, []impl.Thread{makes(right, odd)}, []impl.Thread{makes(odd, right)}, []impl.Thread{makes(right), makes(right, odd, right)})
	}
	for _, what := range append([]int{1, 2, 3}, noWhats...) {
		for _, size := range append([]int{1, 2, 3, 8, 15, 16}, noSizes...) {
			for _, full := range []bool{false, true} {
				for _, l := range crews {
					got, ok := impl.CrewNew(what, size, full, l)
					if want, right := crewNewSaid(what, size, full, l); ok != right || !sameCrew(got, want) {
						t.Fatalf("CrewNew(%d, %d, %v, %+v) is %+v, %v", what, size, full, l, got, ok)
					}
				}
			}
		}
	}
}

// halfDone: a crew on a stack of two places in the middle of a run; its first thread popped 0 and is at its second call, its second is done, its third hasn't begun.
func halfDone() impl.Crew {
	popped := impl.Call{Kind: 2, Pc: 3, W: 1, C: 2, Res: 1, V: 0, Done: true}
	under := impl.Call{Kind: 2, Pc: 1, W: tagStep + 2}
	refused := impl.Call{Kind: 1, A: -1, Res: 4, Done: true}
	return impl.Crew{What: 1, Size: 2, Mem: impl.Mem{Cells: []int{tagStep + 2, 2, 0}}, Threads: []impl.Thread{
		{Calls: []impl.Call{popped, under, {Kind: 1, A: -1}}, At: 1, Begun: []int{0, 4, -1}, Ended: []int{3, -1, -1}},
		{Calls: []impl.Call{refused}, At: 1, Begun: []int{1}, Ended: []int{1}},
		{Calls: []impl.Call{{Kind: 1, A: -1}, {Kind: 2}}, Begun: []int{-1, -1}, Ended: []int{-1, -1}},
	}, Clock: 5}
}

// crewChange: a change of a crew, and whether the crew is right behind it.
type crewChange struct {
	what  string
	do    func(w *impl.Crew)
	right bool
}

// crewChanges: of halfDone, each as far as the edge and beyond it.
func crewChanges() []crewChange {
	l := []crewChange{{"nothing", func(w *impl.Crew) {}, true}}
	add := func(what string, right bool, do func(w *impl.Crew)) { l = append(l, crewChange{what, do, right}) }
	for _, what := range append([]int{2, 3}, noWhats...) {
		add(fmt.Sprint("What ", what), false, func(w *impl.Crew) { w.What = what })
	}
	for _, size := range append([]int{1, 3, 16}, noSizes...) {
		add(fmt.Sprint("Size ", size), false, func(w *impl.Crew) { w.Size = size })
	}
	add("no cells", false, func(w *impl.Crew) { w.Mem.Cells = nil })
	add("a cell less", false, func(w *impl.Crew) { w.Mem.Cells = w.Mem.Cells[:2] })
	add("a cell more", false, func(w *impl.Crew) { w.Mem.Cells = append(w.Mem.Cells, 0) })
	add("cells of anything", true, func(w *impl.Crew) { w.Mem.Cells = []int{-5, math.MaxInt, math.MinInt} })
	for _, clock := range []int{-1, -2, 0, 1, 4, math.MinInt} {
		add(fmt.Sprint("Clock ", clock), false, func(w *impl.Crew) { w.Clock = clock })
	}
	for _, clock := range []int{6, 1 << 40, math.MaxInt} {
		add(fmt.Sprint("Clock ", clock), true, func(w *impl.Crew) { w.Clock = clock })
	}
	for _, n := range []int{0, 1, 3} {
		add(fmt.Sprint("threads more: ", n), true, func(w *impl.Crew) { w.Threads = append(w.Threads, make([]impl.Thread, n)...) })
	}
	for _, n := range []int{4, 5, 60} {
		add(fmt.Sprint("threads more: ", n), false, func(w *impl.Crew) { w.Threads = append(w.Threads, make([]impl.Thread, n)...) })
	}
	add("no threads", true, func(w *impl.Crew) { w.Threads = nil })
	return append(append(l, callChanges()...), timeChanges()...)
}

// withCalls makes the first thread one of so many calls that haven't begun.
func withCalls(w *impl.Crew, n int) {
	w.Threads[0] = impl.Thread{Calls: slices.Repeat([]impl.Call{{Kind: 2}}, n), Begun: slices.Repeat([]int{-1}, n), Ended: slices.Repeat([]int{-1}, n)}
}

func callChanges() []crewChange {
	var l []crewChange
	add := func(what string, right bool, do func(th []impl.Thread)) {
		l = append(l, crewChange{what, func(w *impl.Crew) { do(w.Threads) }, right})
	}
	for _, n := range []int{0, 1, 11, 12, 13, 14, 100} {
		l = append(l, crewChange{fmt.Sprint(n, " calls"), func(w *impl.Crew) { withCalls(w, n) }, n <= 12})
	}
	for _, at := range []int{-1, 0, 2, 3, 4, math.MinInt, math.MaxInt} {
		add(fmt.Sprint("At ", at), false, func(th []impl.Thread) { th[0].At = at })
	}
	for _, at := range []int{-1, 0, 2, 3, math.MinInt} {
		add(fmt.Sprint("At of the one that is done ", at), false, func(th []impl.Thread) { th[1].At = at })
	}
	for _, at := range []int{-1, 1, 2, 3} {
		add(fmt.Sprint("At of one that hasn't begun ", at), false, func(th []impl.Thread) { th[2].At = at })
	}
	for _, at := range []int{-1, 1} {
		add(fmt.Sprint("At of one that has no call ", at), false, func(th []impl.Thread) { th[2] = impl.Thread{At: at} })
	}
	add("ahead of At not Done", false, func(th []impl.Thread) { th[0].Calls[0].Done = false })
	add("ahead of At not Done, nor Ended", false, func(th []impl.Thread) { th[0].Calls[0].Done, th[0].Ended[0] = false, -1 })
	add("at At Done", false, func(th []impl.Thread) { th[0].Calls[1].Done = true })
	add("at At Done, and Ended", false, func(th []impl.Thread) { th[0].Calls[1].Done, th[0].Ended[1] = true, 4 })
	add("behind At Done", false, func(th []impl.Thread) { th[0].Calls[2].Done = true })
	add("behind At Done, and Ended", false, func(th []impl.Thread) { th[0].Calls[2].Done, th[0].Begun[2], th[0].Ended[2] = true, 4, 4 })
	for i, change := range []func(c *impl.Call){
		func(c *impl.Call) { c.Pc = 1 }, func(c *impl.Call) { c.P = 1 }, func(c *impl.Call) { c.C = 1 }, func(c *impl.Call) { c.W = 1 }, func(c *impl.Call) { c.Res = 1 }, func(c *impl.Call) { c.V = 1 }, func(c *impl.Call) { c.X = 1 },
		func(c *impl.Call) { c.Kind = 3 }, func(c *impl.Call) { c.Kind = 0 }, func(c *impl.Call) { c.Kind = -1 }, func(c *impl.Call) { c.Kind = 2 },
	} {
		add(fmt.Sprint("behind At not at its beginning, ", i), false, func(th []impl.Thread) { change(&th[0].Calls[2]); th[0].Begun[2] = 0 })
	}
	for i, change := range []func(c *impl.Call){
		func(c *impl.Call) { c.Pc = 1 }, func(c *impl.Call) { c.A = 1 }, func(c *impl.Call) { c.X = 1 }, func(c *impl.Call) { c.V = -1 }, func(c *impl.Call) { c.Kind = 3 }, func(c *impl.Call) { c.Kind = math.MinInt },
	} {
		add(fmt.Sprint("a pop behind At not at its beginning, ", i), false, func(th []impl.Thread) { change(&th[2].Calls[1]); th[2].Begun[1] = 0 })
	}
	for i, change := range []func(c *impl.Call){
		func(c *impl.Call) { c.A = 0 }, func(c *impl.Call) { c.A = 7 }, func(c *impl.Call) { c.A = -2 }, func(c *impl.Call) { *c = impl.Call{Kind: 2} }, func(c *impl.Call) { *c = impl.Call{} },
	} {
		add(fmt.Sprint("behind At at another beginning, ", i), true, func(th []impl.Thread) { change(&th[0].Calls[2]) })
	}
	for i, change := range []func(c *impl.Call){
		func(c *impl.Call) { c.Pc = 0 }, func(c *impl.Call) { c.Pc = 77 }, func(c *impl.Call) { c.Pc = -1 }, func(c *impl.Call) { c.Kind = 3 }, func(c *impl.Call) { c.Kind = 0 }, func(c *impl.Call) { c.A, c.X, c.P, c.C, c.W, c.Res, c.V = 1, 2, 3, 4, 5, 6, 7 },
	} {
		add(fmt.Sprint("at At at anything, ", i), true, func(th []impl.Thread) { change(&th[0].Calls[1]) })
	}
	add("ahead of At at anything", true, func(th []impl.Thread) { th[0].Calls[0] = impl.Call{Kind: 9, Pc: -4, Done: true} })
	return l
}

func timeChanges() []crewChange {
	var l []crewChange
	add := func(what string, right bool, do func(th []impl.Thread)) {
		l = append(l, crewChange{what, func(w *impl.Crew) { do(w.Threads) }, right})
	}
	add("a Begun less", false, func(th []impl.Thread) { th[0].Begun = th[0].Begun[:2] })
	add("a Begun more", false, func(th []impl.Thread) { th[0].Begun = append(th[0].Begun, -1) })
	add("no Begun", false, func(th []impl.Thread) { th[2].Begun = nil })
	add("an Ended less", false, func(th []impl.Thread) { th[0].Ended = th[0].Ended[:2] })
	add("an Ended more", false, func(th []impl.Thread) { th[0].Ended = append(th[0].Ended, -1) })
	add("no Ended", false, func(th []impl.Thread) { th[2].Ended = nil })
	add("one of both less", false, func(th []impl.Thread) { th[0].Begun, th[0].Ended = th[0].Begun[:2], th[0].Ended[:2] })
	add("a Begun of no call", false, func(th []impl.Thread) { th[2] = impl.Thread{Begun: []int{-1}} })
	add("an Ended of no call", false, func(th []impl.Thread) { th[2] = impl.Thread{Ended: []int{-1}} })
	for _, n := range []int{-2, -1, 0, 1, 3, 4, 5, 6, math.MinInt, math.MaxInt} {
		past, none := n >= 0 && n <= 4, n == -1
		add(fmt.Sprint("Begun of one that is Done ", n), past, func(th []impl.Thread) { th[0].Begun[0] = n })
		add(fmt.Sprint("Begun of one under way ", n), past, func(th []impl.Thread) { th[0].Begun[1] = n })
		add(fmt.Sprint("Begun of one at a Pc below 0 ", n), past, func(th []impl.Thread) { th[0].Calls[1].Pc, th[0].Begun[1] = -1, n })
		add(fmt.Sprint("Begun of one at Pc 0 ", n), past || none, func(th []impl.Thread) { th[0].Calls[1].Pc, th[0].Begun[1] = 0, n })
		add(fmt.Sprint("Begun of one behind At ", n), past || none, func(th []impl.Thread) { th[0].Begun[2] = n })
		add(fmt.Sprint("Begun of the first of three ", n), past || none, func(th []impl.Thread) { th[2].Begun[0] = n })
		add(fmt.Sprint("Begun of one that is Done at Pc 0 ", n), past, func(th []impl.Thread) { th[1].Begun[0] = n })
		add(fmt.Sprint("Ended of one that is Done ", n), past, func(th []impl.Thread) { th[0].Ended[0] = n })
		add(fmt.Sprint("Ended of one that is Done at Pc 0 ", n), past, func(th []impl.Thread) { th[1].Ended[0] = n })
		add(fmt.Sprint("Ended of one under way ", n), none, func(th []impl.Thread) { th[0].Ended[1] = n })
		add(fmt.Sprint("Ended of one behind At ", n), none, func(th []impl.Thread) { th[0].Ended[2] = n })
		add(fmt.Sprint("Ended of one that hasn't begun ", n), none, func(th []impl.Thread) { th[2].Ended[0] = n })
	}
	return l
}

func TestCrewOk(t *testing.T) {
	for _, x := range crewChanges() {
		w := halfDone()
		x.do(&w)
		if got := impl.CrewOk(w); got != x.right {
			t.Errorf("%s: CrewOk(%+v) is %v", x.what, w, got)
		}
		asSaid(t, w, somePicks)
		if next, ok := impl.CrewStep(w, 0); !x.right && (ok || !sameCrew(next, impl.Crew{})) {
			t.Errorf("%s: CrewStep is %+v, %v", x.what, next, ok)
		}
		if next := impl.CrewRun(w, []int{0}); !x.right && !sameCrew(next, impl.Crew{}) {
			t.Errorf("%s: CrewRun is %+v", x.what, next)
		}
	}
}

func TestCrewOkAtTwoChanges(t *testing.T) {
	l := crewChanges()
	for i, x := range l {
		for _, y := range l[:i] {
			w := halfDone()
			// The change x may find that y left nothing to change.
			if y.do(&w); len(w.Threads) >= 3 && len(w.Threads[0].Calls) == 3 && len(w.Threads[0].Begun) >= 3 && len(w.Threads[0].Ended) >= 3 && len(w.Threads[2].Calls) == 2 && len(w.Threads[2].Begun) == 2 && len(w.Threads[2].Ended) == 2 && len(w.Mem.Cells) >= 3 {
				x.do(&w)
				asSaid(t, w, somePicks[:3])
			}
		}
	}
}

func TestCrewOkOfSizes(t *testing.T) {
	for what := 0; what <= 4; what++ {
		for size := -1; size <= 18; size++ {
			for cells := 0; cells <= 38; cells++ {
				w := impl.Crew{What: what, Size: size, Mem: impl.Mem{Cells: make([]int, cells)}}
				if got := impl.CrewOk(w); got != crewOkSaid(w) {
					t.Errorf("CrewOk is %v of %d, size %d, with %d cells", got, what, size, cells)
				}
			}
		}
	}
}

func TestCrewOkOfTheClock(t *testing.T) {
	for _, clock := range []int{-2, -1, 0, 1, 2, math.MinInt, math.MaxInt} {
		for _, begun := range []int{-2, -1, 0, 1, 2, math.MinInt, math.MaxInt - 1, math.MaxInt} {
			for _, ended := range []int{-2, -1, 0, 1, 2, math.MinInt, math.MaxInt - 1, math.MaxInt} {
				for _, c := range []impl.Call{{Kind: 2}, {Kind: 2, Pc: 1}, {Kind: 2, Pc: 1, Done: true}, {Kind: 2, Done: true}} {
					for at := 0; at <= 1; at++ {
						w := impl.Crew{What: 1, Size: 1, Mem: impl.Mem{Cells: []int{0, 0}}, Threads: []impl.Thread{{Calls: []impl.Call{c}, At: at, Begun: []int{begun}, Ended: []int{ended}}}, Clock: clock}
						asSaid(t, w, []int{0, 1})
					}
				}
			}
		}
	}
}

func TestAble(t *testing.T) {
	two := []impl.Call{{Kind: 2}, {Kind: 2}}
	for _, x := range []struct {
		l    []impl.Thread
		want []int
	}{
		{nil, nil},
		{[]impl.Thread{{}}, nil},
		{[]impl.Thread{{Calls: two}}, []int{0}},
		{[]impl.Thread{{Calls: two, At: 1}}, []int{0}},
		{[]impl.Thread{{Calls: two, At: 2}}, nil},
		{[]impl.Thread{{Calls: two, At: 3}}, nil},
		{[]impl.Thread{{Calls: two, At: math.MaxInt}}, nil},
		{[]impl.Thread{{Calls: two, At: -1}}, []int{0}},
		{[]impl.Thread{{Calls: two, At: math.MinInt}}, []int{0}},
		{[]impl.Thread{{At: -1}}, []int{0}},
		{[]impl.Thread{{Calls: two, At: 2}, {Calls: two}, {}, {Calls: two, At: 1}, {Calls: two, At: 2}}, []int{1, 3}},
		{[]impl.Thread{{Calls: two}, {Calls: two}, {Calls: two}, {Calls: two}, {Calls: two}, {Calls: two}, {Calls: two}, {Calls: two}}, []int{0, 1, 2, 3, 4, 5, 6, 7}},
	} {
		// Whether the crew is right doesn't count.
		for _, w := range []impl.Crew{{Threads: x.l}, {What: 9, Size: -4, Threads: x.l, Clock: -1}, {What: 1, Size: 1, Mem: impl.Mem{Cells: []int{0, 0}}, Threads: x.l}} {
			if got := impl.Able(w); !slices.Equal(got, x.want) {
				t.Errorf("Able(%+v) is %v", w, got)
			}
		}
	}
}

func TestPopped(t *testing.T) {
	pop := func(v int) impl.Call { return impl.Call{Kind: 2, Pc: 3, Res: 1, V: v, Done: true} }
	push := func(a int) impl.Call { return impl.Call{Kind: 1, A: a, Pc: 3, Res: 1, Done: true} }
	empty := impl.Call{Kind: 2, Pc: 1, Res: 2, V: 9, Done: true}
	refused := impl.Call{Kind: 1, A: -1, Res: 4, V: 9, Done: true}
	for _, x := range []struct {
		what  string
		calls []impl.Call
		at    int
		want  int
	}{
		{"no call", nil, 0, -1},
		{"no call, At beyond", nil, 3, -1},
		{"a pop", []impl.Call{pop(4)}, 1, 4},
		{"a pop of 0", []impl.Call{pop(0)}, 1, 0},
		{"a pop that At hasn't passed", []impl.Call{pop(4)}, 0, -1},
		{"At below 0", []impl.Call{pop(4)}, -1, -1},
		{"At far below 0", []impl.Call{pop(4)}, math.MinInt, -1},
		{"At beyond the calls", []impl.Call{pop(4)}, 2, 4},
		{"At far beyond the calls", []impl.Call{pop(4)}, math.MaxInt, 4},
		{"a pop of nothing", []impl.Call{empty}, 1, -1},
		{"a pop, and one of nothing", []impl.Call{pop(3), empty}, 2, 3},
		{"two pops", []impl.Call{pop(3), pop(5)}, 2, 5},
		{"two pops, of which one is passed", []impl.Call{pop(3), pop(5)}, 1, 3},
		{"a push", []impl.Call{push(3)}, 1, -1},
		{"a pop and its push", []impl.Call{pop(3), push(3)}, 2, -1},
		{"a pop and a push that isn't passed", []impl.Call{pop(3), push(3)}, 1, 3},
		{"a pop and the push of another", []impl.Call{pop(3), push(6)}, 2, -1},
		{"two pops and a push", []impl.Call{pop(3), pop(5), push(5)}, 3, -1},
		{"a pop, a push, a pop", []impl.Call{pop(3), push(3), pop(5)}, 3, 5},
		{"a push that was refused", []impl.Call{pop(3), refused}, 2, 3},
		{"a push that is done in another way", []impl.Call{pop(3), {Kind: 1, Res: 2, Done: true}, {Kind: 1, Res: 3, Done: true}, {Kind: 1, Done: true}}, 4, 3},
		{"a push that isn't done", []impl.Call{pop(3), {Kind: 1, Res: 1}}, 2, 3},
		{"kinds that are none", []impl.Call{pop(3), {Kind: 0, Res: 1, V: 5, Done: true}, {Kind: 3, Res: 1, V: 5, Done: true}, {Kind: -1, Res: 1, V: 5, Done: true}}, 4, 3},
		{"a pop of what is no place", []impl.Call{pop(3), pop(-1)}, 2, -1},
		{"a pop of what is far from any place", []impl.Call{pop(math.MinInt)}, 1, math.MinInt},
		{"more calls than a thread may have", slices.Repeat([]impl.Call{pop(3), push(3), pop(7)}, 10), 30, 7},
	} {
		th := impl.Thread{Calls: x.calls, At: x.at}
		if got := impl.Popped(th); got != x.want {
			t.Errorf("%s: %d", x.what, got)
		}
	}
}

func TestRest(t *testing.T) {
	done, open := impl.Call{Done: true}, impl.Call{Kind: 2, Res: 1, Pc: 3}
	for _, x := range []struct {
		l    []impl.Thread
		want int
	}{
		{nil, 0},
		{[]impl.Thread{{}, {}}, 0},
		{[]impl.Thread{makes(open)}, 1},
		{[]impl.Thread{makes(done)}, 0},
		{[]impl.Thread{makes(done, open, open), {}, makes(done), makes(open)}, 3},
		// What counts is Done alone, not At nor whether the crew is right.
		{[]impl.Thread{{Calls: []impl.Call{open, done, open}, At: 3}, {Calls: []impl.Call{done}, At: -1}}, 2},
		{slices.Repeat([]impl.Thread{makes(slices.Repeat([]impl.Call{open}, 14)...)}, 9), 126},
	} {
		if got := impl.Rest(impl.Crew{Threads: x.l}); got != x.want {
			t.Errorf("Rest of %+v is %d", x.l, got)
		}
	}
}

// crewMove: a pick, and what is behind it: the thread that made the step, its At, its call, when that began and ended, and the cells.
type crewMove struct {
	pick         int
	thread, at   int
	call         impl.Call
	begun, ended int
	cells        []int
}

// crewMoves makes the moves one after the other; nothing but what a move tells may change.
func crewMoves(t *testing.T, w impl.Crew, moves []crewMove) impl.Crew {
	t.Helper()
	for i, m := range moves {
		want := cloneCrew(w)
		th := &want.Threads[m.thread]
		at := th.At
		th.Calls[at], th.At, th.Begun[at], th.Ended[at] = m.call, m.at, m.begun, m.ended
		want.Mem.Cells = m.cells
		want.Clock++
		got, ok := impl.CrewStep(w, m.pick)
		if !ok || !sameCrew(got, want) {
			t.Fatalf("move %d: %+v, %v; want %+v", i, got, ok, want)
		}
		w = got
	}
	return w
}

func TestCrewOnAStackStepByStep(t *testing.T) {
	w := newCrew(t, impl.CrStack, 2, true, makes(popOf(), ownPush(), ownPush()), makes(popOf(), popOf()), makes(ownPush()))
	pop := func(pc int, c int, w int, res int, v int, done bool) impl.Call {
		return impl.Call{Kind: 2, Pc: pc, C: c, W: w, Res: res, V: v, Done: done}
	}
	push := func(a int, pc int, w int, res int, done bool) impl.Call {
		return impl.Call{Kind: 1, A: a, Pc: pc, W: w, Res: res, Done: done}
	}
	w = crewMoves(t, w, []crewMove{
		{0, 0, 0, pop(1, 0, 1, 0, 0, false), 0, -1, []int{1, 2, 0}},
		{1, 1, 0, pop(1, 0, 1, 0, 0, false), 1, -1, []int{1, 2, 0}},
		// Nothing was popped by the third: its only call is done with its first step, and no cell is looked at.
		{-1, 2, 1, push(-1, 0, 0, 4, true), 2, 2, []int{1, 2, 0}},
		// From now on there are two that are able.
		{2, 0, 0, pop(2, 2, 1, 0, 0, false), 0, -1, []int{1, 2, 0}},
		{-1, 1, 0, pop(2, 2, 1, 0, 0, false), 1, -1, []int{1, 2, 0}},
		// The first is the first: the cas of the second finds another head, and its call goes on from 0.
		{math.MinInt, 0, 1, pop(3, 2, 1, 1, 0, true), 0, 5, []int{tagStep + 2, 2, 0}},
		{math.MaxInt, 1, 0, pop(0, 2, 1, 0, 0, false), 1, -1, []int{tagStep + 2, 2, 0}},
		// A push of Own is of the place 0 from its first step on.
		{0, 0, 1, push(0, 1, tagStep+2, 0, false), 7, -1, []int{tagStep + 2, 2, 0}},
		{1, 1, 0, pop(1, 2, tagStep+2, 0, 0, false), 1, -1, []int{tagStep + 2, 2, 0}},
		{0, 0, 1, push(0, 2, tagStep+2, 0, false), 7, -1, []int{tagStep + 2, 2, 0}},
		{3, 1, 0, pop(2, 0, tagStep+2, 0, 0, false), 1, -1, []int{tagStep + 2, 2, 0}},
		{1, 1, 1, pop(3, 0, tagStep+2, 1, 1, true), 1, 11, []int{2 * tagStep, 2, 0}},
		{-2, 0, 1, push(0, 0, tagStep+2, 0, false), 7, -1, []int{2 * tagStep, 2, 0}},
		// A pop of nothing ends with its first step, and with it the calls of the second.
		{5, 1, 2, pop(1, 0, 2*tagStep, 2, 0, true), 13, 13, []int{2 * tagStep, 2, 0}},
		{9, 0, 1, push(0, 1, 2*tagStep, 0, false), 7, -1, []int{2 * tagStep, 2, 0}},
		{0, 0, 1, push(0, 2, 2*tagStep, 0, false), 7, -1, []int{2 * tagStep, 0, 0}},
		{-7, 0, 2, push(0, 3, 2*tagStep, 1, true), 7, 16, []int{3*tagStep + 1, 0, 0}},
		// Behind its push there is nothing to push any more.
		{1, 0, 3, push(-1, 0, 0, 4, true), 17, 17, []int{3*tagStep + 1, 0, 0}},
	})
	if got, ok := impl.CrewStep(w, 0); ok || !sameCrew(got, impl.Crew{}) {
		t.Errorf("with none able: %+v, %v", got, ok)
	}
	if got := impl.Able(w); len(got) != 0 || impl.Rest(w) != 0 || !impl.CrewOk(w) {
		t.Errorf("at the end: able %v, rest %d", got, impl.Rest(w))
	}
	if a, b := impl.Popped(w.Threads[0]), impl.Popped(w.Threads[1]); a != -1 || b != 1 {
		t.Errorf("popped: %d, %d", a, b)
	}
}

func TestCrewOnARingStepByStep(t *testing.T) {
	// A put of -1 is a put like any other: Own counts on a stack alone.
	w := newCrew(t, impl.CrRing, 2, true, makes(putOf(-1)), makes(getOf(), getOf()))
	put := impl.Call{Kind: 1, A: -1}
	get := impl.Call{Kind: 2}
	with := func(c impl.Call, pc int, p int, seq int, res int, v int) impl.Call {
		c.Pc, c.P, c.C, c.Res, c.V, c.Done = pc, p, seq, res, v, res != 0
		return c
	}
	w = crewMoves(t, w, []crewMove{
		{0, 0, 0, with(put, 1, 0, 0, 0, 0), 0, -1, []int{0, 0, 0, 0, 1, 0}},
		{1, 1, 0, with(get, 1, 0, 0, 0, 0), 1, -1, []int{0, 0, 0, 0, 1, 0}},
		{1, 1, 1, with(get, 2, 0, 0, 2, 0), 1, 2, []int{0, 0, 0, 0, 1, 0}},
		{0, 0, 0, with(put, 2, 0, 0, 0, 0), 0, -1, []int{0, 0, 0, 0, 1, 0}},
		{0, 0, 0, with(put, 3, 0, 0, 0, 0), 0, -1, []int{1, 0, 0, 0, 1, 0}},
		{0, 0, 0, with(put, 4, 0, 0, 0, 0), 0, -1, []int{1, 0, 0, -1, 1, 0}},
		{-1, 1, 1, with(get, 1, 0, 0, 0, 0), 6, -1, []int{1, 0, 0, -1, 1, 0}},
		{0, 0, 1, with(put, 5, 0, 0, 1, 0), 0, 7, []int{1, 0, 1, -1, 1, 0}},
		{8, 1, 1, with(get, 2, 0, 1, 0, 0), 6, -1, []int{1, 0, 1, -1, 1, 0}},
		{8, 1, 1, with(get, 3, 0, 1, 0, 0), 6, -1, []int{1, 1, 1, -1, 1, 0}},
		{8, 1, 1, with(get, 4, 0, 1, 0, -1), 6, -1, []int{1, 1, 1, -1, 1, 0}},
		{8, 1, 2, with(get, 5, 0, 1, 1, -1), 6, 11, []int{1, 1, 2, -1, 1, 0}},
	})
	if _, ok := impl.CrewStep(w, 1); ok || w.Clock != 12 {
		t.Errorf("with none able: %v at %d", ok, w.Clock)
	}
}

func TestCrewOnAListStepByStep(t *testing.T) {
	// An adding of -1 is one like any other.
	w := newCrew(t, impl.CrList, 2, true, makes(addOf(-1, 1), hasOf(3)), makes(delOf(-1)))
	add := impl.Call{Kind: 1, A: -1, X: 1}
	del := impl.Call{Kind: 2, A: -1}
	has := impl.Call{Kind: 3, A: 3}
	with := func(c impl.Call, pc int, p int, link int, w int, v int, res int) impl.Call {
		c.Pc, c.P, c.C, c.W, c.V, c.Res, c.Done = pc, p, link, w, v, res, res != 0
		return c
	}
	w = crewMoves(t, w, []crewMove{
		{0, 0, 0, with(add, 4, 0, 0, 0, 0, 0), 0, -1, []int{0, 0, 0, 0, 0}},
		{0, 0, 0, with(add, 5, 0, 0, 0, 0, 0), 0, -1, []int{0, 0, 0, -1, 0}},
		{2, 0, 0, with(add, 6, 0, 0, 0, 0, 0), 0, -1, []int{0, 0, 0, -1, 0}},
		{-2, 0, 1, with(add, 7, 0, 0, 0, 0, 1), 0, 3, []int{4, 0, 0, -1, 0}},
		{1, 1, 0, with(del, 1, 0, 4, 0, 0, 0), 4, -1, []int{4, 0, 0, -1, 0}},
		{0, 0, 1, with(has, 1, 0, 4, 0, 0, 0), 5, -1, []int{4, 0, 0, -1, 0}},
		{1, 1, 0, with(del, 2, 0, 4, 0, 0, 0), 4, -1, []int{4, 0, 0, -1, 0}},
		{1, 1, 0, with(del, 7, 0, 4, 0, -1, 0), 4, -1, []int{4, 0, 0, -1, 0}},
		{1, 1, 1, with(del, 8, 0, 4, 0, -1, 1), 4, 8, []int{4, 0, 0, -1, 1}},
		{1, 0, 1, with(has, 2, 0, 4, 1, 0, 0), 5, -1, []int{4, 0, 0, -1, 1}},
		{1, 0, 1, with(has, 0, 4, 4, 1, -1, 0), 5, -1, []int{4, 0, 0, -1, 1}},
		{1, 0, 2, with(has, 1, 4, 1, 1, -1, 4), 5, 11, []int{4, 0, 0, -1, 1}},
	})
	if _, ok := impl.CrewStep(w, -1); ok || w.Clock != 12 {
		t.Errorf("with none able: %v at %d", ok, w.Clock)
	}
}

// endsOf: what came of the calls of a thread: kind, the place that it was of, and how it ended.
func endsOf(th impl.Thread) [][3]int {
	var l [][3]int
	for _, c := range th.Calls {
		place := c.A
		if c.Kind == impl.StPop {
			place = c.V
		}
		l = append(l, [3]int{c.Kind, place, c.Res})
	}
	return l
}

func TestPushesOfOwn(t *testing.T) {
	const push, pop = impl.StPush, impl.StPop
	for _, x := range []struct {
		what  string
		full  bool
		calls []impl.Call
		ends  [][3]int
		items []int
		clock int
	}{
		{"as the first call", true, []impl.Call{ownPush()}, [][3]int{{push, -1, 4}}, []int{0, 1, 2}, 1},
		{"behind a pop", true, []impl.Call{popOf(), ownPush()}, [][3]int{{pop, 0, 1}, {push, 0, 1}}, []int{0, 1, 2}, 6},
		{"behind a pop of nothing", false, []impl.Call{popOf(), ownPush()}, [][3]int{{pop, 0, 2}, {push, -1, 4}}, nil, 2},
		{"twice behind a pop", true, []impl.Call{popOf(), ownPush(), ownPush()}, [][3]int{{pop, 0, 1}, {push, 0, 1}, {push, -1, 4}}, []int{0, 1, 2}, 7},
		{"behind two pops", true, []impl.Call{popOf(), popOf(), ownPush()}, [][3]int{{pop, 0, 1}, {pop, 1, 1}, {push, 1, 1}}, []int{1, 2}, 9},
		{"twice behind two pops", true, []impl.Call{popOf(), popOf(), ownPush(), ownPush()}, [][3]int{{pop, 0, 1}, {pop, 1, 1}, {push, 1, 1}, {push, -1, 4}}, []int{1, 2}, 10},
		{"behind a pop and one of nothing", false, []impl.Call{pushOf(2), popOf(), popOf(), ownPush()}, [][3]int{{push, 2, 1}, {pop, 2, 1}, {pop, 0, 2}, {push, 2, 1}}, []int{2}, 10},
		{"behind a push of another place", true, []impl.Call{popOf(), popOf(), pushOf(0), ownPush()}, [][3]int{{pop, 0, 1}, {pop, 1, 1}, {push, 0, 1}, {push, -1, 4}}, []int{0, 2}, 10},
		{"behind one that was refused", true, []impl.Call{ownPush(), popOf(), ownPush(), ownPush(), popOf(), ownPush()}, [][3]int{{push, -1, 4}, {pop, 0, 1}, {push, 0, 1}, {push, -1, 4}, {pop, 0, 1}, {push, 0, 1}}, []int{0, 1, 2}, 14},
	} {
		w := newCrew(t, impl.CrStack, 3, x.full, makes(x.calls...))
		w = impl.CrewRun(w, make([]int, 100))
		if got := endsOf(w.Threads[0]); !slices.Equal(got, x.ends) || w.Clock != x.clock || impl.Rest(w) != 0 {
			t.Errorf("%s: %v at %d, with %d left", x.what, got, w.Clock, impl.Rest(w))
		}
		if got := impl.StItems(3, w.Mem); !slices.Equal(got, x.items) {
			t.Errorf("%s: the stack has %v", x.what, got)
		}
	}
}

func TestAPushOfOwnInTheMiddle(t *testing.T) {
	// What is handed in may be at any step, or at none, and still be a push of Own.
	popped := impl.Call{Kind: 2, Pc: 3, Res: 1, V: 1, Done: true}
	for _, pc := range []int{0, 1, 2, 3, -1, 77, math.MinInt} {
		c := impl.Call{Kind: 1, A: -1, X: 3, Pc: pc, P: 4, C: 5, W: 2, V: 6}
		w := impl.Crew{What: 1, Size: 2, Mem: impl.Mem{Cells: []int{2, 0, 0}}, Threads: []impl.Thread{
			{Calls: []impl.Call{c}, Begun: []int{7}, Ended: []int{-1}},
			{Calls: []impl.Call{popped, c}, At: 1, Begun: []int{3, 7}, Ended: []int{5, -1}},
		}, Clock: 9}
		asSaid(t, w, []int{0, 1})
		got := crewStep(t, w, 0)
		want := c
		want.Res, want.Done = 4, true
		if got.Threads[0].Calls[0] != want || got.Threads[0].Begun[0] != 7 || got.Threads[0].Ended[0] != 9 || got.Threads[0].At != 1 || !slices.Equal(got.Mem.Cells, w.Mem.Cells) {
			t.Errorf("nothing to push at step %d: %+v", pc, got)
		}
		got, ok := impl.CrewStep(w, 1)
		if ok != between(pc, 0, 2) || ok && got.Threads[1].Calls[1].A != 1 {
			t.Errorf("the place 1 to push at step %d: %+v, %v", pc, got, ok)
		}
	}
}

func TestAPushOfOwnThatIsNoPlace(t *testing.T) {
	// A pop that is handed in may tell anything; -1 alone counts as nothing.
	for _, x := range []struct {
		place int
		ok    bool
		res   int
	}{{0, true, 0}, {1, true, 0}, {2, false, 0}, {-1, true, impl.ReNo}, {-2, false, 0}, {math.MaxInt, false, 0}, {math.MinInt, false, 0}} {
		popped := impl.Call{Kind: 2, Res: 1, V: x.place, Done: true}
		w := impl.Crew{What: 1, Size: 2, Mem: impl.Mem{Cells: []int{0, 0, 0}}, Threads: []impl.Thread{{Calls: []impl.Call{popped, ownPush()}, At: 1, Begun: []int{0, -1}, Ended: []int{0, -1}}}, Clock: 1}
		asSaid(t, w, []int{0, 0})
		got, ok := impl.CrewStep(w, 0)
		if ok != x.ok || ok && (got.Threads[0].Calls[1].A != x.place || got.Threads[0].Calls[1].Res != x.res) {
			t.Errorf("popped %d: %+v, %v", x.place, got, ok)
		}
	}
}

// crewsThatSayFalse: right crews whose step says false where the thread 0 makes it; the thread 1 can make one.
func crewsThatSayFalse() []impl.Crew {
	of := func(what int, size int, cells []int, c impl.Call) impl.Crew {
		first := impl.Thread{Calls: []impl.Call{c}, Begun: []int{0}, Ended: []int{-1}}
		other := impl.Thread{Calls: []impl.Call{{Kind: 2}}, Begun: []int{-1}, Ended: []int{-1}}
		return impl.Crew{What: what, Size: size, Mem: impl.Mem{Cells: cells}, Threads: []impl.Thread{first, other}, Clock: 1}
	}
	stack, ring, list := []int{2, 0, 0}, []int{0, 0, 0, 0, 1, 0}, []int{2, 5, 0, 0, 0}
	l := []impl.Crew{
		of(1, 2, stack, impl.Call{Kind: 1, A: 2}),
		of(1, 2, stack, impl.Call{Kind: 1, A: -2}),
		of(1, 2, stack, impl.Call{Kind: 1, A: 0, Pc: 3}),
		of(1, 2, stack, impl.Call{Kind: 2, Pc: 1, W: 0}),
		of(1, 2, stack, impl.Call{Kind: 2, Pc: 1, W: 3}),
		of(3, 2, list, impl.Call{Kind: 1, A: 7, X: 2, Pc: 4}),
		of(3, 2, list, impl.Call{Kind: 1, A: 7, P: 1}),
		of(3, 2, list, impl.Call{Kind: 3, A: 7, Pc: 3}),
		of(3, 2, []int{2, 5, 8, 0, 0}, impl.Call{Kind: 3, A: 5, Pc: 1, C: 2}),
	}
	for _, kind := range append([]int{3}, noKinds...) {
		l = append(l, of(1, 2, stack, impl.Call{Kind: kind}), of(2, 2, ring, impl.Call{Kind: kind}))
	}
	for _, kind := range noKinds {
		l = append(l, of(3, 2, list, impl.Call{Kind: kind}))
	}
	for _, pc := range []int{-1, 5, math.MaxInt} {
		l = append(l, of(2, 2, ring, impl.Call{Kind: 1, Pc: pc}), of(2, 2, ring, impl.Call{Kind: 2, Pc: pc}))
	}
	return l
}

func TestAStepThatSaysFalse(t *testing.T) {
	for _, w := range crewsThatSayFalse() {
		if !impl.CrewOk(w) {
			t.Errorf("CrewOk(%+v) is false", w)
		}
		for _, pick := range []int{0, 2, -2, math.MinInt} {
			if got, ok := impl.CrewStep(w, pick); ok || !sameCrew(got, impl.Crew{}) {
				t.Errorf("CrewStep(%+v, %d) is %+v, %v", w, pick, got, ok)
			}
			if got := impl.CrewRun(w, []int{pick, 1, 1}); !sameCrew(got, w) {
				t.Errorf("CrewRun(%+v, %d, 1, 1) is %+v", w, pick, got)
			}
		}
		// Another's step comes to pass all the same.
		once := crewStep(t, w, 1)
		if got := impl.CrewRun(w, []int{1, 0, 1, 1}); once.Clock != 2 || !sameCrew(got, once) {
			t.Errorf("CrewRun(%+v, 1, 0, 1, 1) is %+v", w, got)
		}
		asSaid(t, w, somePicks)
	}
}

func TestPushesOfPlacesThatAreNone(t *testing.T) {
	// CrewNew asks for kinds alone.
	w := newCrew(t, impl.CrStack, 2, false, makes(pushOf(2)), makes(popOf(), pushOf(-2)))
	if got, ok := impl.CrewStep(w, 0); ok || !sameCrew(got, impl.Crew{}) {
		t.Errorf("a push of 2: %+v, %v", got, ok)
	}
	w = crewStep(t, w, 1)
	if got, ok := impl.CrewStep(w, 1); ok || !sameCrew(got, impl.Crew{}) {
		t.Errorf("a push of -2: %+v, %v", got, ok)
	}
	w = newCrew(t, impl.CrList, 2, false, makes(addOf(4, 2)))
	w = crewStep(t, w, 0)
	if got, ok := impl.CrewStep(w, 0); ok || !sameCrew(got, impl.Crew{}) {
		t.Errorf("an adding as the node 2: %+v, %v", got, ok)
	}
}

func TestCrewStepPicksAmongTheAble(t *testing.T) {
	// The threads 1, 3 and 4 are able; which made a step is told by its Begun.
	w := newCrew(t, impl.CrRing, 4, false, makes(), makes(getOf()), makes(), makes(getOf()), makes(getOf()))
	for _, x := range [][2]int{{0, 1}, {1, 3}, {2, 4}, {3, 1}, {4, 3}, {5, 4}, {-1, 4}, {-2, 3}, {-3, 1}, {-4, 4}, {300, 1}, {301, 3}, {math.MaxInt, 3}, {math.MaxInt - 1, 1}, {math.MinInt, 3}, {math.MinInt + 1, 4}, {math.MinInt + 2, 1}} {
		next := crewStep(t, w, x[0])
		for i, th := range next.Threads {
			if len(th.Begun) > 0 && (th.Begun[0] == 0) != (i == x[1]) {
				t.Errorf("pick %d: %+v", x[0], next.Threads)
			}
		}
	}
}

func TestCrewStepWithNobody(t *testing.T) {
	for _, w := range []impl.Crew{
		newCrew(t, impl.CrStack, 1, true),
		newCrew(t, impl.CrRing, 2, true, makes()),
		newCrew(t, impl.CrList, 1, true, makes(), makes(), makes(), makes(), makes(), makes()),
	} {
		for _, pick := range somePicks {
			if got, ok := impl.CrewStep(w, pick); ok || !sameCrew(got, impl.Crew{}) {
				t.Errorf("CrewStep(%+v, %d) is %+v, %v", w, pick, got, ok)
			}
		}
		if got := impl.CrewRun(w, somePicks); !sameCrew(got, w) {
			t.Errorf("CrewRun(%+v) is %+v", w, got)
		}
	}
}

func TestBegunStaysAsItIs(t *testing.T) {
	// A call at 0 that has begun before keeps its time; so does one that hasn't made a step by what its Pc says.
	for _, begun := range []int{-1, 0, 3, 7} {
		w := impl.Crew{What: 2, Size: 2, Mem: ringFrom(2, 0), Threads: []impl.Thread{{Calls: []impl.Call{{Kind: 2}}, Begun: []int{begun}, Ended: []int{-1}}}, Clock: 8}
		want := begun
		if begun == -1 {
			want = 8
		}
		if next := crewStep(t, w, 0); next.Threads[0].Begun[0] != want || next.Threads[0].Ended[0] != -1 {
			t.Errorf("Begun %d: %+v", begun, next.Threads[0])
		}
	}
}

func TestTheClockWrapsAround(t *testing.T) {
	w := newCrew(t, impl.CrStack, 1, true, makes(popOf(), popOf()))
	w.Clock = math.MaxInt - 1
	w = crewStep(t, w, 0)
	if w.Clock != math.MaxInt || w.Threads[0].Begun[0] != math.MaxInt-1 {
		t.Errorf("to the last: %+v", w)
	}
	asSaid(t, w, []int{0, 0, 0, 0})
	last := crewStep(t, w, 0)
	if last.Clock != math.MinInt || impl.CrewOk(last) {
		t.Errorf("behind the last: %+v", last)
	}
	// A clock below 0 isn't right, so there the run ends.
	if got := impl.CrewRun(w, []int{0, 0, 0}); !sameCrew(got, last) {
		t.Errorf("run: %+v", got)
	}
}

func TestCrewRun(t *testing.T) {
	w := newCrew(t, impl.CrStack, 2, true, makes(popOf(), ownPush()), makes(popOf()))
	for _, picks := range [][]int{nil, {}} {
		if got := impl.CrewRun(w, picks); !sameCrew(got, w) {
			t.Errorf("no pick: %+v", got)
		}
	}
	steps := w
	picks := []int{0, 1, 1, 1, 0, 0, -1, 7, 7, 0, 4, 9}
	for i, pick := range picks {
		if got := impl.CrewRun(w, picks[:i]); !sameCrew(got, steps) {
			t.Fatalf("%d picks: %+v, want %+v", i, got, steps)
		}
		steps = crewStep(t, steps, pick)
	}
	// The second pops first, so the cas of the first fails once: 6 and 3 steps, and 3 again.
	if impl.Rest(steps) != 0 || steps.Clock != 12 {
		t.Fatalf("not at the end: %+v", steps)
	}
	for _, more := range [][]int{nil, {0}, {3, -3, 0}, slices.Repeat([]int{1}, 1000)} {
		if got := impl.CrewRun(w, slices.Concat(picks, more)); !sameCrew(got, steps) {
			t.Errorf("with picks behind the last: %+v", got)
		}
	}
	// A run may go on where another ended.
	for i := range picks {
		if got := impl.CrewRun(impl.CrewRun(w, picks[:i]), picks[i:]); !sameCrew(got, steps) {
			t.Errorf("in two runs, cut at %d: %+v", i, got)
		}
	}
	if got := impl.CrewRun(impl.Crew{}, picks); !sameCrew(got, impl.Crew{}) {
		t.Errorf("of nothing: %+v", got)
	}
	if got := impl.CrewRun(impl.Crew{}, nil); !sameCrew(got, impl.Crew{}) {
		t.Errorf("of nothing, no pick: %+v", got)
	}
}

func TestAnEndlessCall(t *testing.T) {
	// A list that leads round: the asking goes on as long as there are picks.
	w := impl.Crew{What: 3, Size: 1, Mem: impl.Mem{Cells: []int{2, 1, 2}}, Threads: []impl.Thread{{Calls: []impl.Call{hasOf(5)}, Begun: []int{-1}, Ended: []int{-1}}}}
	got := impl.CrewRun(w, make([]int, 3000))
	if got.Clock != 3000 || impl.Rest(got) != 1 || got.Threads[0].Begun[0] != 0 || !impl.CrewOk(got) {
		t.Errorf("%+v", got)
	}
}

// crewLists: each list of a crew and of its threads, as a function that writes into all of its memory.
func crewLists(w impl.Crew) []func() {
	l := []func(){func() { fill(w.Mem.Cells) }}
	for _, th := range w.Threads {
		l = append(l, func() { fill(th.Begun) }, func() { fill(th.Ended) }, func() {
			calls := th.Calls[:cap(th.Calls)]
			for i := range calls {
				calls[i] = impl.Call{Kind: -77, A: -77, Pc: -77}
			}
		})
	}
	return append(l, func() {
		threads := w.Threads[:cap(w.Threads)]
		for i := range threads {
			threads[i] = impl.Thread{At: -77}
		}
	})
}

// crewDeed: a call that answers a crew, of the crew that is handed in.
type crewDeed struct {
	what string
	do   func(w impl.Crew) impl.Crew
}

func crewDeeds() []crewDeed {
	l := []crewDeed{{"CrewNew", func(w impl.Crew) impl.Crew {
		next, _ := impl.CrewNew(w.What, w.Size, true, w.Threads)
		return next
	}}}
	for _, pick := range []int{0, 1, 2} {
		l = append(l, crewDeed{fmt.Sprint("CrewStep ", pick), func(w impl.Crew) impl.Crew {
			next, _ := impl.CrewStep(w, pick)
			return next
		}})
	}
	for _, picks := range [][]int{nil, {0}, {1}, {0, 1, 1, 0}} {
		l = append(l, crewDeed{fmt.Sprint("CrewRun ", picks), func(w impl.Crew) impl.Crew { return impl.CrewRun(w, picks) }})
	}
	return l
}

// withRoom: the list with memory behind its end.
func withRoom[E any](l []E) []E { return append(make([]E, 0, len(l)+5), l...) }

// crewsWithRoom: crews for which each deed does something, their lists with room behind the ends.
func crewsWithRoom(t *testing.T) []impl.Crew {
	stack := halfDone()
	ring := impl.CrewRun(newCrew(t, impl.CrRing, 2, false, makes(putOf(4), getOf()), makes(getOf()), makes()), []int{0, 0, 1, 0})
	list := impl.CrewRun(newCrew(t, impl.CrList, 2, false, makes(addOf(4, 0), delOf(4)), makes(hasOf(4), hasOf(5))), []int{0, 0, 1, 0})
	l := []impl.Crew{stack, ring, list}
	for i := range l {
		l[i].Mem.Cells = withRoom(l[i].Mem.Cells)
		l[i].Threads = withRoom(l[i].Threads)
		for k, th := range l[i].Threads {
			l[i].Threads[k] = impl.Thread{Calls: withRoom(th.Calls), At: th.At, Begun: withRoom(th.Begun), Ended: withRoom(th.Ended)}
		}
	}
	return l
}

func TestCrewsAnswerNewMemory(t *testing.T) {
	for _, d := range crewDeeds() {
		for i, w := range crewsWithRoom(t) {
			before := cloneCrew(w)
			want := cloneCrew(d.do(w))
			if !impl.CrewOk(want) {
				t.Fatalf("%s of crew %d does nothing", d.what, i)
			}
			first, other := d.do(w), d.do(w)
			for _, write := range crewLists(first) {
				write()
			}
			if !sameCrew(w, before) {
				t.Errorf("%s of crew %d: the argument is now %+v", d.what, i, w)
			}
			if !sameCrew(other, want) {
				t.Errorf("%s of crew %d: two answers share memory", d.what, i)
			}
			for _, write := range crewLists(w) {
				write()
			}
			if !sameCrew(other, want) {
				t.Errorf("%s of crew %d: the answer shares memory with the argument", d.what, i)
			}
		}
	}
}

// shared: a crew on a stack whose lists are one and the same where they may be: all Begun and Ended, and the Calls of all threads.
func shared() impl.Crew {
	calls, none := []impl.Call{{Kind: 2}, {Kind: 1, A: -1}}, []int{-1, -1}
	th := impl.Thread{Calls: calls, Begun: none, Ended: none}
	return impl.Crew{What: 1, Size: 2, Mem: impl.Mem{Cells: []int{1, 2, 0}}, Threads: []impl.Thread{th, th, th}}
}

func TestListsOfCrewsShareNothing(t *testing.T) {
	crews := append(crewsWithRoom(t), shared())
	for _, d := range crewDeeds() {
		for i, w := range crews {
			want := cloneCrew(d.do(w))
			for k := range crewLists(want) {
				// The lists of hurt are apart, so there a write into one of them is to be seen in that one alone.
				got, hurt := d.do(w), cloneCrew(want)
				crewLists(got)[k]()
				crewLists(hurt)[k]()
				if !sameCrew(got, hurt) {
					t.Errorf("%s of crew %d: the list %d shares memory with another", d.what, i, k)
				}
			}
		}
	}
}

func TestCrewsWhoseListsAreShared(t *testing.T) {
	asSaid(t, shared(), somePicks)
	w := impl.CrewRun(shared(), slices.Repeat([]int{0, 1, 2}, 40))
	if impl.Rest(w) != 0 || !sameCrew(w, crewRunSaid(shared(), slices.Repeat([]int{0, 1, 2}, 40))) {
		t.Errorf("%+v", w)
	}
}

// deed: a call that is done, as who saw the run knows it.
type deed struct {
	call         impl.Call
	begun, ended int
}

func deedsOf(w impl.Crew) []deed {
	var l []deed
	for _, th := range w.Threads {
		for i, c := range th.Calls {
			if c.Done {
				l = append(l, deed{c, th.Begun[i], th.Ended[i]})
			}
		}
	}
	return l
}

// stackTells: what a list of places is behind a call that is done at once, and whether it could tell this.
func stackTells(items []int, c impl.Call) ([]int, bool) {
	switch {
	case c.Kind == impl.StPush && c.Res == impl.ReOk:
		return slices.Insert(slices.Clone(items), 0, c.A), !slices.Contains(items, c.A)
	case c.Kind == impl.StPush:
		return items, c.Res == impl.ReNo && c.A == -1
	case c.Res == impl.ReOk && len(items) > 0:
		return items[1:], items[0] == c.V
	}
	return items, c.Res == impl.ReEmpty && len(items) == 0
}

// setTells: likewise of a set of keys.
func setTells(keys []int, c impl.Call) ([]int, bool) {
	next, told := toldBySet(keys, c.Kind, c.A)
	return next, told == c.Res
}

// inSomeOrder: there is an order of the deeds, none ahead of one that ended before it began, in which one after the other tells what it told, and what is left in the end is left.
func inSomeOrder(items []int, l []deed, tells func([]int, impl.Call) ([]int, bool), left []int) bool {
	if len(l) == 0 {
		return slices.Equal(items, left)
	}
	for i, d := range l {
		first := !slices.ContainsFunc(l, func(e deed) bool { return e.ended < d.begun })
		next, ok := tells(items, d.call)
		if first && ok && inSomeOrder(next, slices.Delete(slices.Clone(l), i, i+1), tells, left) {
			return true
		}
	}
	return false
}

// crewWatch: a run of a crew, watched step by step.
type crewWatch struct {
	t     *testing.T
	items []int
	ends  map[[2]int]int
	again int
}

// step makes a step and holds it against chapter 8: who made it, and when.
func (h *crewWatch) step(w impl.Crew, pick int) impl.Crew {
	h.t.Helper()
	next := crewStep(h.t, w, pick)
	if want, _ := crewStepSaid(w, pick); !sameCrew(next, want) {
		h.t.Fatalf("CrewStep(%+v, %d) is %+v, want %+v", w, pick, next, want)
	}
	if !impl.CrewOk(next) || next.Clock != w.Clock+1 {
		h.t.Fatalf("behind the step: %+v", next)
	}
	who := impl.Able(w)[placeIn(len(impl.Able(w)), pick)]
	at := w.Threads[who].At
	was, is := w.Threads[who].Calls[at], next.Threads[who].Calls[at]
	if is.Done {
		h.ends[[2]int{is.Kind, is.Res}]++
	} else if is.Pc == 0 && was.Pc > 0 {
		h.again++
	}
	h.look(next)
	return next
}

// look: what holds at any time.
func (h *crewWatch) look(w impl.Crew) {
	h.t.Helper()
	switch w.What {
	case impl.CrStack:
		tag, changes := w.Mem.Cells[0]/tagStep, 0
		for _, d := range deedsOf(w) {
			if d.call.Res == impl.ReOk {
				changes++
			}
		}
		if items := impl.StItems(w.Size, w.Mem); tag != changes || w.Mem.Cells[0]%tagStep != 0 && len(items) == 0 {
			h.t.Fatalf("the tag is %d behind %d changes: %+v", tag, changes, w)
		}
		h.noPlaceTwice(w)
	case impl.CrRing:
		h.inTheOrderOfNumbers(w)
	case impl.CrList:
		if keys := impl.LiKeys(w.Size, w.Mem); !slices.IsSorted(keys) || len(slices.Compact(slices.Clone(keys))) != len(keys) {
			h.t.Fatalf("the keys %v don't rise: %+v", keys, w)
		}
	}
}

// noPlaceTwice: of the places that the stack had at first each lies in it, or was popped and not pushed back since.
func (h *crewWatch) noPlaceTwice(w impl.Crew) {
	h.t.Helper()
	all := slices.Clone(impl.StItems(w.Size, w.Mem))
	for _, d := range deedsOf(w) {
		if d.call.Res == impl.ReOk && d.call.Kind == impl.StPop {
			all = append(all, d.call.V)
		}
	}
	for _, d := range deedsOf(w) {
		if d.call.Res == impl.ReOk && d.call.Kind == impl.StPush {
			if i := slices.Index(all, d.call.A); i >= 0 {
				all = slices.Delete(all, i, i+1)
			}
		}
	}
	slices.Sort(all)
	if !slices.Equal(all, h.items) {
		h.t.Fatalf("the places are %v, not %v: %+v", all, h.items, w)
	}
}

// inTheOrderOfNumbers: each value that was got is the one that was put with its number.
func (h *crewWatch) inTheOrderOfNumbers(w impl.Crew) {
	h.t.Helper()
	put, got := map[int]int{}, map[int]int{}
	for _, th := range w.Threads {
		for _, c := range th.Calls {
			if c.Kind == impl.RiPut && (c.Res == impl.ReOk || c.Pc > 3 && !c.Done) {
				put[c.P] = c.A
			}
		}
	}
	for _, d := range deedsOf(w) {
		if c := d.call; c.Kind == impl.RiGet && c.Res == impl.ReOk {
			v, ok := put[c.P]
			if got[c.P]++; !ok || v != c.V || got[c.P] > 1 {
				h.t.Fatalf("the value %d of the number %d was got: %+v", c.V, c.P, w)
			}
		}
	}
}

// ended: what holds where all is done.
func (h *crewWatch) ended(w impl.Crew) {
	h.t.Helper()
	if impl.Rest(w) != 0 || len(impl.Able(w)) != 0 {
		h.t.Fatalf("not at the end: %+v", w)
	}
	switch w.What {
	case impl.CrStack:
		if !inSomeOrder(h.items, deedsOf(w), stackTells, impl.StItems(w.Size, w.Mem)) {
			h.t.Fatalf("no order tells this: %+v", w)
		}
	case impl.CrList:
		if !inSomeOrder(nil, deedsOf(w), setTells, impl.LiKeys(w.Size, w.Mem)) {
			h.t.Fatalf("no order tells this: %+v", w)
		}
	case impl.CrRing:
		h.restOfRing(w)
	}
}

// restOfRing: what was put and not got is left, by its numbers; no number is left out.
func (h *crewWatch) restOfRing(w impl.Crew) {
	h.t.Helper()
	var put, got []int
	value := map[int]int{}
	for _, d := range deedsOf(w) {
		if c := d.call; c.Res == impl.ReOk && c.Kind == impl.RiPut {
			put, value[c.P] = append(put, c.P), c.A
		} else if c.Res == impl.ReOk {
			got = append(got, c.P)
		}
	}
	slices.Sort(put)
	slices.Sort(got)
	var left []int
	for k := len(got); k < len(put); k++ {
		left = append(left, value[k])
	}
	if !slices.Equal(put, places(0, len(put))) || !slices.Equal(got, places(0, len(got))) || !slices.Equal(impl.RiItems(w.Size, w.Mem), left) {
		h.t.Fatalf("numbers put %v, got %v, left %v: %+v", put, got, impl.RiItems(w.Size, w.Mem), w)
	}
}

// tryAllPicks lets the threads take their steps in all orders. It tells how many runs there are.
func (h *crewWatch) tryAllPicks(w impl.Crew) int {
	able := len(impl.Able(w))
	if able == 0 {
		h.ended(w)
		return 1
	}
	runs := 0
	for pick := range able {
		runs += h.tryAllPicks(h.step(w, pick))
	}
	return runs
}

func TestAllOrdersOfPicks(t *testing.T) {
	for _, x := range []struct {
		what, size int
		full       bool
		l          []impl.Thread
		runs       int
		ends       [][2]int
	}{
		{1, 2, true, []impl.Thread{makes(popOf(), ownPush())}, 1, [][2]int{{2, 1}, {1, 1}}},
		{1, 2, true, []impl.Thread{makes(popOf()), makes(popOf(), ownPush())}, 84, [][2]int{{2, 1}, {1, 1}}},
		{1, 1, true, []impl.Thread{makes(popOf(), ownPush()), makes(popOf(), ownPush())}, 84, [][2]int{{2, 1}, {2, 2}, {1, 1}, {1, 4}}},
		{1, 2, true, []impl.Thread{makes(ownPush(), popOf()), makes(popOf(), ownPush(), ownPush())}, 84, [][2]int{{2, 1}, {1, 1}, {1, 4}}},
		{2, 2, false, []impl.Thread{makes(putOf(-1)), makes(getOf(), getOf())}, 84, [][2]int{{1, 1}, {2, 1}, {2, 2}}},
		{2, 2, false, []impl.Thread{makes(putOf(5)), makes(putOf(7))}, 84, [][2]int{{1, 1}}},
		{3, 2, false, []impl.Thread{makes(addOf(-1, 0)), makes(addOf(-1, 1))}, 20, [][2]int{{1, 1}, {1, 4}}},
		{3, 2, false, []impl.Thread{makes(addOf(4, 0), delOf(4)), makes(hasOf(4))}, 20, [][2]int{{1, 1}, {2, 1}, {3, 1}, {3, 4}}},
	} {
		h := &crewWatch{t: t, ends: map[[2]int]int{}}
		if x.what == impl.CrStack && x.full {
			h.items = places(0, x.size)
		}
		runs := h.tryAllPicks(newCrew(t, x.what, x.size, x.full, x.l...))
		if runs < x.runs || len(x.l) > 1 && x.what == impl.CrStack && h.again == 0 {
			t.Errorf("%+v: %d runs alone, and %d times a call went on from 0", x.l, runs, h.again)
		}
		for _, e := range x.ends {
			if h.ends[e] == 0 {
				t.Errorf("%+v: no call of kind %d ends with %d: %v", x.l, e[0], e[1], h.ends)
			}
		}
		if len(h.ends) != len(x.ends) {
			t.Errorf("%+v: the calls end so: %v", x.l, h.ends)
		}
	}
}

// longCrew: a crew of so many threads that can make its steps in any order: places are popped and pushed back, values differ, and no node is taken by two addings.
func longCrew(t *testing.T, what int, threads int, seed int) impl.Crew {
	var l []impl.Thread
	nodes := 0
	for i := range threads {
		var th impl.Thread
		for k := range 2 + (seed+i)%3 {
			n := seed/3 + 5*i + 3*k
			switch {
			case what == impl.CrStack && n%2 == 0:
				th.Calls = append(th.Calls, popOf())
			case what == impl.CrStack:
				th.Calls = append(th.Calls, ownPush())
			case what == impl.CrRing && n%5 < 3:
				th.Calls = append(th.Calls, putOf(100*i+k))
			case what == impl.CrRing:
				th.Calls = append(th.Calls, getOf())
			case n%3 == 0 && nodes < 10:
				th.Calls = append(th.Calls, addOf(n/3%2, nodes))
				nodes++
			case n%3 == 1:
				th.Calls = append(th.Calls, delOf(n/3%2))
			default:
				th.Calls = append(th.Calls, hasOf(n/3%2))
			}
		}
		l = append(l, th)
	}
	size := 10
	switch what {
	case impl.CrStack:
		size = 1 + seed%3
	case impl.CrRing:
		size = 2 + seed%2
	}
	return newCrew(t, what, size, true, l...)
}

// TestLongCrews: in which order the threads make their steps is told by a row of numbers that is the same each time; now and then one goes on alone for a while.
func TestLongCrews(t *testing.T) {
	all, again := map[[3]int]int{}, map[int]int{}
	for what := impl.CrStack; what <= impl.CrList; what++ {
		for seed := range 250 {
			w := longCrew(t, what, 2+seed%2, seed)
			h := &crewWatch{t: t, ends: map[[2]int]int{}}
			if what == impl.CrStack {
				h.items = places(0, w.Size)
			}
			first, n := w, 77+seed
			var picks []int
			for len(impl.Able(w)) > 0 {
				n = (n*1103515245 + 12345) % 4294967296
				pick := n>>16 - 32768
				for range 1 + n>>20%3 {
					if len(impl.Able(w)) > 0 {
						picks = append(picks, pick)
						w = h.step(w, pick)
					}
				}
			}
			h.ended(w)
			picks = append(picks, 5, 5)
			before := slices.Clone(picks)
			if got := impl.CrewRun(first, picks); !sameCrew(got, w) || !slices.Equal(picks, before) {
				t.Fatalf("the run at once is %+v, step by step %+v", got, w)
			}
			for e, k := range h.ends {
				all[[3]int{what, e[0], e[1]}] += k
			}
			again[what] += h.again
		}
	}
	for _, e := range [][3]int{{1, 1, 1}, {1, 1, 4}, {1, 2, 1}, {1, 2, 2}, {2, 1, 1}, {2, 1, 3}, {2, 2, 1}, {2, 2, 2}, {3, 1, 1}, {3, 1, 4}, {3, 2, 1}, {3, 2, 4}, {3, 3, 1}, {3, 3, 4}} {
		if all[e] == 0 {
			t.Errorf("no call ended so: %v of %v", e, all)
		}
	}
	for what := impl.CrStack; what <= impl.CrList; what++ {
		if again[what] == 0 {
			t.Errorf("on the object %d no call went on from 0", what)
		}
	}
}

func TestTheGreatestCrews(t *testing.T) {
	for what := impl.CrStack; what <= impl.CrList; what++ {
		var l []impl.Thread
		for range 6 {
			l = append(l, makes(slices.Repeat([]impl.Call{{Kind: 2, A: 4}, {Kind: 1, A: -1}}, 6)...))
		}
		w := newCrew(t, what, 16, true, l...)
		if impl.Rest(w) != 72 || len(impl.Able(w)) != 6 {
			t.Fatalf("at the beginning: %+v", w)
		}
		picks := make([]int, 4000)
		for i := range picks {
			picks[i] = i*i/3 - 700
		}
		got := impl.CrewRun(w, picks)
		if !sameCrew(got, crewRunSaid(w, picks)) || impl.Rest(got) != 0 {
			t.Errorf("at the end: %+v", got)
		}
		asSaid(t, impl.CrewRun(w, picks[:200]), somePicks)
	}
}

func TestCrewStepAtManyCalls(t *testing.T) {
	for what := impl.CrStack; what <= impl.CrList; what++ {
		calls, rows, size := manyCalls(2), stackRows(2), 2
		switch what {
		case impl.CrRing:
			calls, rows = manyRingCalls(2), ringRows(2)
		case impl.CrList:
			calls, rows = manyListCalls(2), listRows(2)
		}
		popped := impl.Call{Kind: 2, Res: 1, V: 1, Done: true}
		for i, c := range calls {
			w := impl.Crew{What: what, Size: size, Mem: impl.Mem{Cells: rows[i%len(rows)]}, Threads: []impl.Thread{
				{Calls: []impl.Call{popped}, At: 1, Begun: []int{0}, Ended: []int{0}},
				{Calls: []impl.Call{popped, c}, At: 1, Begun: []int{0, 1}, Ended: []int{1, -1}},
			}, Clock: 2 + i%5}
			got, ok := impl.CrewStep(w, i)
			if want, right := crewStepSaid(w, i); ok != right || !sameCrew(got, want) {
				t.Fatalf("CrewStep(%+v, %d) is %+v, %v; want %+v, %v", w, i, got, ok, want, right)
			}
		}
	}
}
