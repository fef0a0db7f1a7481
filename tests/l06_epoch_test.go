package tests

import (
	"fmt"
	"math"
	"slices"
	"testing"

	"loop.example/g00724/impl"
)

// lastAge: the last epoch that there may be.
const lastAge = 4294967295

// noAges: ints that are no epoch.
var noAges = []int{-1, -2, -lastAge, lastAge + 1, lastAge + 2, 1 << 40, math.MaxInt - 1, math.MaxInt, math.MinInt, math.MinInt + 1}

// goneAt: a limbo of these nodes and epochs, a node ahead of its epoch.
func goneAt(pairs ...int) []impl.Gone {
	var l []impl.Gone
	for i := 0; i < len(pairs); i += 2 {
		l = append(l, impl.Gone{Node: pairs[i], At: pairs[i+1]})
	}
	return l
}

// goneMany: k nodes, from first on, all of this epoch.
func goneMany(k int, first int, at int) []impl.Gone {
	var l []impl.Gone
	for i := range k {
		l = append(l, impl.Gone{Node: first + i, At: at})
	}
	return l
}

func pinsLike(k int, pin int) []int { return slices.Repeat([]int{pin}, k) }

func sameAges(a impl.Ages, b impl.Ages) bool {
	return a.Age == b.Age && slices.Equal(a.Pins, b.Pins) && slices.Equal(a.Limbo, b.Limbo)
}

func cloneAges(a impl.Ages) impl.Ages {
	return impl.Ages{Age: a.Age, Pins: slices.Clone(a.Pins), Limbo: slices.Clone(a.Limbo)}
}

// agesRight: what chapter 7 asks of epochs.
func agesRight(a impl.Ages) bool {
	if a.Age < 0 || a.Age > lastAge || len(a.Pins) == 0 || len(a.Pins) > 8 || len(a.Limbo) > 100 {
		return false
	}
	for _, pin := range a.Pins {
		away := pin == -1
		now := pin == a.Age
		ahead := a.Age > 0 && pin == a.Age-1
		if !away && !now && !ahead {
			return false
		}
	}
	nodes, before := map[int]int{}, 0
	for _, g := range a.Limbo {
		nodes[g.Node]++
		if g.At < 0 || g.At > a.Age || g.At < before || nodes[g.Node] > 1 {
			return false
		}
		before = g.At
	}
	return true
}

func nodesGone(a impl.Ages) []int {
	var l []int
	for _, g := range a.Limbo {
		l = append(l, g.Node)
	}
	return l
}

// The functions whose names begin with saidOf answer what chapter 7 says, by its words alone.

func saidOfPin(a impl.Ages, h int) (impl.Ages, bool) {
	if !agesRight(a) || h < 0 || h >= len(a.Pins) || a.Pins[h] >= 0 {
		return impl.Ages{}, false
	}
	b := cloneAges(a)
	b.Pins[h] = b.Age
	return b, true
}

func saidOfUnpin(a impl.Ages, h int) (impl.Ages, bool) {
	if !agesRight(a) || h < 0 || h >= len(a.Pins) || a.Pins[h] < 0 {
		return impl.Ages{}, false
	}
	b := cloneAges(a)
	b.Pins[h] = -1
	return b, true
}

func saidOfRetire(a impl.Ages, node int) (impl.Ages, bool) {
	if !agesRight(a) || len(a.Limbo) >= 100 || slices.Contains(nodesGone(a), node) {
		return impl.Ages{}, false
	}
	b := cloneAges(a)
	b.Limbo = append(b.Limbo, impl.Gone{Node: node, At: a.Age})
	return b, true
}

func saidOfAdvance(a impl.Ages) (impl.Ages, bool) {
	if !agesRight(a) {
		return impl.Ages{}, false
	}
	b := cloneAges(a)
	for _, pin := range a.Pins {
		if pin >= 0 && pin < a.Age {
			return b, false
		}
	}
	if a.Age >= lastAge {
		return b, false
	}
	b.Age++
	return b, true
}

func saidOfCollect(a impl.Ages) (impl.Ages, []int) {
	if !agesRight(a) {
		return impl.Ages{}, nil
	}
	b, free := impl.Ages{Age: a.Age, Pins: slices.Clone(a.Pins)}, []int(nil)
	for _, g := range a.Limbo {
		if g.At+2 <= a.Age {
			free = append(free, g.Node)
		} else {
			b.Limbo = append(b.Limbo, g)
		}
	}
	return b, free
}

func saidOfSafe(a impl.Ages, node int) bool {
	if !agesRight(a) {
		return false
	}
	for _, g := range a.Limbo {
		for _, pin := range a.Pins {
			if g.Node == node && pin >= 0 && pin <= g.At {
				return false
			}
		}
	}
	return true
}

// manyPins: rows of pins around an epoch, right ones and wrong ones.
func manyPins(age int) [][]int {
	l := [][]int{nil, {}, {-1, age}, {age, -1}, {age, age - 1, -1}, {-1, age - 1, age}, {age - 1, age - 1}, {-1, -1, age - 2}, {-2, age}, {age, age + 1}}
	for _, pin := range []int{-1, age, age - 1, age - 2, age - 3, age + 1, age + 2, -2, 0, 1, math.MaxInt, math.MinInt} {
		last := pinsLike(8, -1)
		last[7] = pin
		l = append(l, []int{pin}, last, pinsLike(8, pin))
	}
	return append(l, pinsLike(7, -1), pinsLike(7, age), pinsLike(9, -1), pinsLike(9, age), pinsLike(16, -1))
}

// manyLimbos: rows of nodes that were given up around an epoch, right ones and wrong ones.
func manyLimbos(age int) [][]impl.Gone {
	l := [][]impl.Gone{
		nil,
		{},
		goneAt(1, age-3, 2, age-2, 3, age-1, 4, age),
		goneAt(1, age-3, 2, age-3, 3, age-2, 4, age-2, 5, age-1, 6, age-1, 7, age, 8, age),
		goneAt(8, 0, 7, 0, 6, age, 5, age),
		goneAt(7, age, 3, age-1),
		goneAt(7, age-1, 3, age, 4, age-1),
		goneAt(7, 0, 3, age-2, 4, 0),
		goneAt(7, age, 7, age),
		goneAt(7, age, 3, age, 7, age),
		goneAt(7, age-1, 3, age-1, 7, age),
		goneAt(math.MinInt, age-2, -1, age-2, 0, age-1, math.MaxInt, age),
		goneAt(3, age, 4, age+1),
		goneAt(3, -1, 4, age),
		goneMany(99, 0, age),
		goneMany(100, 0, age),
		goneMany(101, 0, age),
		append(goneMany(50, 0, age-2), goneMany(50, 50, age)...),
		append(goneMany(50, 0, age-2), goneMany(51, 50, age)...),
		append(goneMany(99, 0, age), goneAt(0, age)...),
	}
	for _, at := range []int{-1, 0, 1, age, age - 1, age - 2, age - 3, age + 1, math.MaxInt, math.MinInt} {
		l = append(l, goneAt(7, at))
	}
	return l
}

// manyAges: epochs at the ends and around them, each with many pins and limbos.
func manyAges() []impl.Ages {
	var l []impl.Ages
	for _, age := range append([]int{0, 1, 2, 3, 4, 1000, lastAge - 2, lastAge - 1, lastAge}, noAges...) {
		for _, pins := range manyPins(age) {
			for _, limbo := range manyLimbos(age) {
				l = append(l, impl.Ages{Age: age, Pins: pins, Limbo: limbo})
			}
		}
	}
	return l
}

// someHandles: ints around the handles that these epochs have.
func someHandles(a impl.Ages) []int {
	n := len(a.Pins)
	return []int{0, 1, n - 1, n, n + 1, -1, -2, 7, 8, 9, math.MaxInt, math.MinInt}
}

var someNodes = []int{7, 0, 1, 2, 3, 4, 49, 50, 98, 99, 100, -1, -2, math.MaxInt, math.MinInt}

func TestEpochConstants(t *testing.T) {
	if impl.MaxHandles != 8 || impl.MaxLimbo != 100 {
		t.Errorf("MaxHandles %d, MaxLimbo %d", impl.MaxHandles, impl.MaxLimbo)
	}
}

func TestAgesOk(t *testing.T) {
	nobody := []int{-1}
	for _, x := range []struct {
		what string
		a    impl.Ages
		want bool
	}{
		{"nothing", impl.Ages{}, false},
		{"one handle", impl.Ages{Pins: nobody}, true},
		{"Age 1", impl.Ages{Age: 1, Pins: nobody}, true},
		{"Age MaxNum", impl.Ages{Age: lastAge, Pins: nobody}, true},
		{"Age one beyond", impl.Ages{Age: lastAge + 1, Pins: nobody}, false},
		{"Age below 0", impl.Ages{Age: -1, Pins: nobody}, false},
		{"Age at the upper end", impl.Ages{Age: math.MaxInt, Pins: nobody}, false},
		{"Age at the lower end", impl.Ages{Age: math.MinInt, Pins: nobody}, false},
		{"no handle", impl.Ages{Age: 5}, false},
		{"an empty row of pins", impl.Ages{Age: 5, Pins: []int{}}, false},
		{"8 handles", impl.Ages{Age: 5, Pins: pinsLike(8, -1)}, true},
		{"9 handles", impl.Ages{Age: 5, Pins: pinsLike(9, -1)}, false},
		{"pinned in Age", impl.Ages{Age: 5, Pins: []int{5}}, true},
		{"pinned in Age less 1", impl.Ages{Age: 5, Pins: []int{4}}, true},
		{"pinned in Age less 2", impl.Ages{Age: 5, Pins: []int{3}}, false},
		{"pinned beyond Age", impl.Ages{Age: 5, Pins: []int{6}}, false},
		{"pinned below -1", impl.Ages{Age: 5, Pins: []int{-2}}, false},
		{"pinned in 0, Age 0", impl.Ages{Pins: []int{0}}, true},
		{"pinned in -2, Age 0", impl.Ages{Pins: []int{-2}}, false},
		{"pinned in 1, Age 0", impl.Ages{Pins: []int{1}}, false},
		{"pinned in 0, Age 1", impl.Ages{Age: 1, Pins: []int{0}}, true},
		{"pinned in 0, Age 2", impl.Ages{Age: 2, Pins: []int{0}}, false},
		{"pinned in MaxNum less 1", impl.Ages{Age: lastAge, Pins: []int{lastAge - 1, lastAge, -1}}, true},
		{"pinned in MaxNum less 2", impl.Ages{Age: lastAge, Pins: []int{lastAge, lastAge - 2}}, false},
		{"the last of 8 is wrong", impl.Ages{Age: 5, Pins: []int{5, 4, -1, 5, 4, -1, 5, 3}}, false},
		{"all of 8 are right", impl.Ages{Age: 5, Pins: []int{5, 4, -1, 5, 4, -1, 5, 4}}, true},
		{"given up at 0", impl.Ages{Age: 5, Pins: nobody, Limbo: goneAt(7, 0)}, true},
		{"given up in Age", impl.Ages{Age: 5, Pins: nobody, Limbo: goneAt(7, 5)}, true},
		{"given up below 0", impl.Ages{Age: 5, Pins: nobody, Limbo: goneAt(7, -1)}, false},
		{"given up beyond Age", impl.Ages{Age: 5, Pins: nobody, Limbo: goneAt(7, 6)}, false},
		{"given up below 0, Age 0", impl.Ages{Pins: nobody, Limbo: goneAt(7, -1)}, false},
		{"At not falling", impl.Ages{Age: 5, Pins: nobody, Limbo: goneAt(7, 1, 8, 1, 9, 4, 6, 4, 1, 5)}, true},
		{"At falling", impl.Ages{Age: 5, Pins: nobody, Limbo: goneAt(7, 2, 8, 1)}, false},
		{"At falling at the end", impl.Ages{Age: 5, Pins: nobody, Limbo: goneAt(7, 1, 8, 4, 9, 3)}, false},
		{"At falling, but not below the first", impl.Ages{Age: 5, Pins: nobody, Limbo: goneAt(7, 1, 8, 4, 9, 1)}, false},
		{"two neighbours of the same Node", impl.Ages{Age: 5, Pins: nobody, Limbo: goneAt(7, 2, 7, 2)}, false},
		{"two of the same Node, apart", impl.Ages{Age: 5, Pins: nobody, Limbo: goneAt(7, 1, 8, 2, 9, 3, 7, 4)}, false},
		{"the last two of the same Node", impl.Ages{Age: 5, Pins: nobody, Limbo: goneAt(6, 1, 8, 2, 7, 3, 7, 4)}, false},
		{"nodes below 0 and at the ends", impl.Ages{Age: 5, Pins: nobody, Limbo: goneAt(math.MaxInt, 1, -1, 2, math.MinInt, 3)}, true},
		{"two of the same Node below 0", impl.Ages{Age: 5, Pins: nobody, Limbo: goneAt(-1, 1, -1, 2)}, false},
		{"two of Node 0", impl.Ages{Age: 5, Pins: nobody, Limbo: goneAt(0, 1, 0, 2)}, false},
		{"99 in limbo", impl.Ages{Age: 5, Pins: nobody, Limbo: goneMany(99, 0, 5)}, true},
		{"100 in limbo", impl.Ages{Age: 5, Pins: nobody, Limbo: goneMany(100, 0, 5)}, true},
		{"101 in limbo", impl.Ages{Age: 5, Pins: nobody, Limbo: goneMany(101, 0, 5)}, false},
	} {
		if got := impl.AgesOk(x.a); got != x.want {
			t.Errorf("%s: AgesOk(%+v) is %v", x.what, x.a, got)
		}
	}
}

func TestAgesNew(t *testing.T) {
	for n := 1; n <= 8; n++ {
		a, ok := impl.AgesNew(n)
		if !ok || !sameAges(a, impl.Ages{Pins: pinsLike(n, -1)}) || !impl.AgesOk(a) {
			t.Errorf("AgesNew(%d) is %+v, %v", n, a, ok)
		}
		fill(a.Pins)
		if b, _ := impl.AgesNew(n); !sameAges(b, impl.Ages{Pins: pinsLike(n, -1)}) {
			t.Errorf("AgesNew(%d) is %+v behind writing into an answer", n, b)
		}
	}
	for _, n := range []int{0, -1, -8, 9, 10, 16, 1<<32 + 1, math.MaxInt, math.MinInt} {
		if a, ok := impl.AgesNew(n); ok || !sameAges(a, impl.Ages{}) {
			t.Errorf("AgesNew(%d) is %+v, %v", n, a, ok)
		}
	}
}

func TestPinAndUnpin(t *testing.T) {
	a := impl.Ages{Age: 5, Pins: []int{-1, 4, 5}, Limbo: goneAt(7, 2, 8, 5)}
	for _, x := range []struct {
		what string
		do   func(impl.Ages, int) (impl.Ages, bool)
		h    int
		pins []int
	}{
		{"pin", impl.Pin, 0, []int{5, 4, 5}},
		{"pin one that is, in Age less 1", impl.Pin, 1, nil},
		{"pin one that is, in Age", impl.Pin, 2, nil},
		{"pin one beyond", impl.Pin, 3, nil},
		{"pin one below 0", impl.Pin, -1, nil},
		{"unpin one that isn't", impl.Unpin, 0, nil},
		{"unpin, in Age less 1", impl.Unpin, 1, []int{-1, -1, 5}},
		{"unpin the last, in Age", impl.Unpin, 2, []int{-1, 4, -1}},
		{"unpin one beyond", impl.Unpin, 3, nil},
		{"unpin one below 0", impl.Unpin, -1, nil},
	} {
		want := impl.Ages{}
		if x.pins != nil {
			want = impl.Ages{Age: 5, Pins: x.pins, Limbo: a.Limbo}
		}
		if got, ok := x.do(a, x.h); ok != (x.pins != nil) || !sameAges(got, want) {
			t.Errorf("%s %d: %+v, %v", x.what, x.h, got, ok)
		}
	}
}

func TestPinInEpoch0(t *testing.T) {
	a, _ := impl.AgesNew(1)
	a, ok := impl.Pin(a, 0)
	if !ok || !sameAges(a, impl.Ages{Pins: []int{0}}) {
		t.Fatalf("pinned: %+v, %v", a, ok)
	}
	if b, ok := impl.Pin(a, 0); ok || !sameAges(b, impl.Ages{}) {
		t.Errorf("pinned again: %+v, %v", b, ok)
	}
	if b, ok := impl.Unpin(a, 0); !ok || !sameAges(b, impl.Ages{Pins: []int{-1}}) {
		t.Errorf("unpinned: %+v, %v", b, ok)
	}
}

func TestRetire(t *testing.T) {
	pins := []int{-1, 4}
	for _, x := range []struct {
		what  string
		limbo []impl.Gone
		node  int
		want  []impl.Gone
	}{
		{"the first", nil, 7, goneAt(7, 5)},
		{"behind the others", goneAt(9, 3, 8, 5), 7, goneAt(9, 3, 8, 5, 7, 5)},
		{"Node 0", goneAt(9, 3), 0, goneAt(9, 3, 0, 5)},
		{"a node below 0", goneAt(1, 3), -1, goneAt(1, 3, -1, 5)},
		{"the least", goneAt(math.MaxInt, 3), math.MinInt, goneAt(math.MaxInt, 3, math.MinInt, 5)},
		{"the greatest", goneAt(math.MinInt, 3), math.MaxInt, goneAt(math.MinInt, 3, math.MaxInt, 5)},
		{"the hundredth", goneMany(99, 0, 5), 99, goneMany(100, 0, 5)},
		{"one more", goneMany(100, 0, 5), 100, nil},
		{"it is there", goneAt(7, 5), 7, nil},
		{"it is there, first of three", goneAt(7, 3, 8, 4, 9, 5), 7, nil},
		{"it is there, last of three", goneAt(8, 3, 9, 4, 7, 5), 7, nil},
		{"it is there, and old enough to go", goneAt(7, 0), 7, nil},
		{"a limbo that falls", goneAt(8, 4, 9, 3), 7, nil},
	} {
		want := impl.Ages{}
		if x.want != nil {
			want = impl.Ages{Age: 5, Pins: pins, Limbo: x.want}
		}
		got, ok := impl.Retire(impl.Ages{Age: 5, Pins: pins, Limbo: x.limbo}, x.node)
		if ok != (x.want != nil) || !sameAges(got, want) {
			t.Errorf("%s: %+v, %v", x.what, got, ok)
		}
	}
}

func TestAdvance(t *testing.T) {
	for _, x := range []struct {
		what string
		a    impl.Ages
		age  int
		ok   bool
	}{
		{"nobody pinned", impl.Ages{Age: 5, Pins: []int{-1, -1}}, 6, true},
		{"from 0", impl.Ages{Pins: []int{-1, -1}}, 1, true},
		{"pinned in 0, from 0", impl.Ages{Pins: []int{-1, 0}}, 1, true},
		{"pinned in Age", impl.Ages{Age: 5, Pins: []int{5, -1, 5}}, 6, true},
		{"pinned in Age less 1", impl.Ages{Age: 5, Pins: []int{4}}, 5, false},
		{"the last of 8 in Age less 1", impl.Ages{Age: 5, Pins: []int{5, 5, 5, 5, -1, -1, -1, 4}}, 5, false},
		{"the first of 8 in Age less 1", impl.Ages{Age: 5, Pins: []int{4, 5, 5, 5, -1, -1, -1, 5}}, 5, false},
		{"8 in Age", impl.Ages{Age: 5, Pins: pinsLike(8, 5)}, 6, true},
		{"pinned in 0, from 1", impl.Ages{Age: 1, Pins: []int{-1, 0}}, 1, false},
		{"to MaxNum", impl.Ages{Age: lastAge - 1, Pins: []int{-1, lastAge - 1}}, lastAge, true},
		{"from MaxNum", impl.Ages{Age: lastAge, Pins: []int{-1, lastAge}}, lastAge, false},
		{"from MaxNum, nobody pinned", impl.Ages{Age: lastAge, Pins: []int{-1}}, lastAge, false},
		{"what is in limbo stays", impl.Ages{Age: 5, Pins: []int{5}, Limbo: goneAt(3, 0, 7, 2, 8, 5)}, 6, true},
		{"what is in limbo stays where it waits", impl.Ages{Age: 5, Pins: []int{4}, Limbo: goneAt(3, 0, 7, 2, 8, 5)}, 5, false},
	} {
		want := impl.Ages{Age: x.age, Pins: x.a.Pins, Limbo: x.a.Limbo}
		if got, ok := impl.Advance(x.a); ok != x.ok || !sameAges(got, want) {
			t.Errorf("%s: Advance(%+v) is %+v, %v", x.what, x.a, got, ok)
		}
	}
	for _, a := range []impl.Ages{{}, {Age: -1, Pins: []int{-1}}, {Age: lastAge + 1, Pins: []int{-1}}, {Age: 5, Pins: []int{3}}, {Age: 5, Pins: []int{6}}, {Age: 5, Pins: []int{-1}, Limbo: goneAt(7, 6)}} {
		if got, ok := impl.Advance(a); ok || !sameAges(got, impl.Ages{}) {
			t.Errorf("Advance(%+v) is %+v, %v", a, got, ok)
		}
	}
}

func TestCollect(t *testing.T) {
	for _, x := range []struct {
		what  string
		age   int
		limbo []impl.Gone
		rest  []impl.Gone
		free  []int
	}{
		{"nobody in limbo", 5, nil, nil, nil},
		{"At is Age", 5, goneAt(7, 5), goneAt(7, 5), nil},
		{"At is Age less 1", 5, goneAt(7, 4), goneAt(7, 4), nil},
		{"At is Age less 2", 5, goneAt(7, 3), nil, []int{7}},
		{"At is Age less 3", 5, goneAt(7, 2), nil, []int{7}},
		{"At is 0, Age is 0", 0, goneAt(7, 0), goneAt(7, 0), nil},
		{"At is 0, Age is 1", 1, goneAt(7, 0), goneAt(7, 0), nil},
		{"At is 0, Age is 2", 2, goneAt(7, 0), nil, []int{7}},
		{"in order", 5, goneAt(9, 1, 3, 1, 8, 3, 2, 3, 7, 4, 1, 5), goneAt(7, 4, 1, 5), []int{9, 3, 8, 2}},
		{"all, in order", 5, goneAt(9, 1, -3, 1, math.MaxInt, 3, 0, 3, math.MinInt, 3), nil, []int{9, -3, math.MaxInt, 0, math.MinInt}},
		{"one stays", 5, goneAt(9, 1, 3, 3, 8, 4), goneAt(8, 4), []int{9, 3}},
		{"one goes", 5, goneAt(9, 1, 3, 4, 8, 4), goneAt(3, 4, 8, 4), []int{9}},
		{"at MaxNum", lastAge, goneAt(9, lastAge-3, 1, lastAge-2, 3, lastAge-1, 4, lastAge), goneAt(3, lastAge-1, 4, lastAge), []int{9, 1}},
		{"100 go", 5, goneMany(100, 0, 3), nil, places(0, 100)},
		{"100 stay", 5, goneMany(100, 0, 4), goneMany(100, 0, 4), nil},
	} {
		for _, pins := range [][]int{{-1}, {x.age}, {-1, max(x.age-1, -1), x.age}} {
			got, free := impl.Collect(impl.Ages{Age: x.age, Pins: pins, Limbo: x.limbo})
			if !sameAges(got, impl.Ages{Age: x.age, Pins: pins, Limbo: x.rest}) || !slices.Equal(free, x.free) {
				t.Errorf("%s, pins %v: %+v, %v", x.what, pins, got, free)
			}
		}
	}
	for _, a := range []impl.Ages{{}, {Age: lastAge + 1, Pins: []int{-1}, Limbo: goneAt(7, 0)}, {Age: 5, Pins: []int{3}, Limbo: goneAt(7, 0)}, {Age: 5, Pins: []int{-1}, Limbo: goneAt(7, 0, 7, 0)}, {Age: 5, Pins: []int{-1}, Limbo: goneAt(7, 0, 8, 3, 9, 2)}} {
		if got, free := impl.Collect(a); len(free) != 0 || !sameAges(got, impl.Ages{}) {
			t.Errorf("Collect(%+v) is %+v, %v", a, got, free)
		}
	}
}

func TestSafe(t *testing.T) {
	limbo := goneAt(1, 2, 2, 3, 3, 4, 4, 5)
	for _, x := range []struct {
		what string
		pins []int
		safe []bool
	}{
		{"nobody pinned", []int{-1, -1}, []bool{true, true, true, true}},
		{"pinned in Age", []int{-1, 5}, []bool{true, true, true, false}},
		{"pinned in Age less 1", []int{4, -1}, []bool{true, true, false, false}},
		{"pinned in both", []int{5, 4}, []bool{true, true, false, false}},
		{"the last of 8 pinned", []int{-1, -1, -1, -1, -1, -1, -1, 4}, []bool{true, true, false, false}},
		{"8 pinned in Age", pinsLike(8, 5), []bool{true, true, true, false}},
	} {
		a := impl.Ages{Age: 5, Pins: x.pins, Limbo: limbo}
		for i, want := range x.safe {
			if got := impl.Safe(a, i+1); got != want {
				t.Errorf("%s: Safe of what was given up in %d is %v", x.what, i+2, got)
			}
		}
		for _, node := range []int{0, 5, -1, math.MaxInt, math.MinInt} {
			if !impl.Safe(a, node) {
				t.Errorf("%s: the node %d isn't in limbo, and isn't safe", x.what, node)
			}
		}
	}
	if impl.Safe(impl.Ages{Pins: []int{0}, Limbo: goneAt(0, 0)}, 0) {
		t.Error("pinned in 0, given up in 0: safe")
	}
	for _, a := range []impl.Ages{{}, {Age: -1, Pins: []int{-1}}, {Age: 5, Pins: []int{3}}, {Age: 5, Pins: pinsLike(9, -1)}, {Age: 5, Pins: []int{-1}, Limbo: goneAt(7, 6)}} {
		for _, node := range []int{0, 7, 8} {
			if impl.Safe(a, node) {
				t.Errorf("Safe(%+v, %d)", a, node)
			}
		}
	}
}

func TestEpochsAtManyArguments(t *testing.T) {
	for _, a := range manyAges() {
		before := cloneAges(a)
		same := func(what string, n int, got impl.Ages, ok bool, want impl.Ages, right bool) {
			if ok != right || !sameAges(got, want) {
				t.Fatalf("%s(%+v, %d) is %+v, %v", what, a, n, got, ok)
			}
		}
		if got := impl.AgesOk(a); got != agesRight(a) {
			t.Fatalf("AgesOk(%+v) is %v", a, got)
		}
		for _, h := range someHandles(a) {
			got, ok := impl.Pin(a, h)
			want, right := saidOfPin(a, h)
			same("Pin", h, got, ok, want, right)
			got, ok = impl.Unpin(a, h)
			want, right = saidOfUnpin(a, h)
			same("Unpin", h, got, ok, want, right)
		}
		for _, node := range someNodes {
			got, ok := impl.Retire(a, node)
			want, right := saidOfRetire(a, node)
			same("Retire", node, got, ok, want, right)
			if got := impl.Safe(a, node); got != saidOfSafe(a, node) {
				t.Fatalf("Safe(%+v, %d) is %v", a, node, got)
			}
		}
		got, ok := impl.Advance(a)
		want, right := saidOfAdvance(a)
		same("Advance", 0, got, ok, want, right)
		got, free := impl.Collect(a)
		want, gone := saidOfCollect(a)
		same("Collect", 0, got, slices.Equal(free, gone), want, true)
		if !sameAges(a, before) {
			t.Fatalf("%+v was changed from %+v", a, before)
		}
	}
}

// ageDeed: a call on epochs, and what chapter 7 says of it.
type ageDeed struct {
	what string
	do   func(impl.Ages) (impl.Ages, []int)
	said func(impl.Ages) (impl.Ages, []int)
}

// withNumber makes a deed of a call that answers epochs and a bool; the bool is told as a list, 1 for true.
func withNumber(what string, do func(impl.Ages, int) (impl.Ages, bool), said func(impl.Ages, int) (impl.Ages, bool), n int) ageDeed {
	told := func(f func(impl.Ages, int) (impl.Ages, bool)) func(impl.Ages) (impl.Ages, []int) {
		return func(a impl.Ages) (impl.Ages, []int) {
			b, ok := f(a, n)
			if ok {
				return b, []int{1}
			}
			return b, nil
		}
	}
	return ageDeed{fmt.Sprintf("%s %d", what, n), told(do), told(said)}
}

func pinDeed(h int) ageDeed { return withNumber("Pin", impl.Pin, saidOfPin, h) }

func unpinDeed(h int) ageDeed { return withNumber("Unpin", impl.Unpin, saidOfUnpin, h) }

func retireDeed(node int) ageDeed { return withNumber("Retire", impl.Retire, saidOfRetire, node) }

func advanceDeed() ageDeed {
	do := func(a impl.Ages, _ int) (impl.Ages, bool) { return impl.Advance(a) }
	said := func(a impl.Ages, _ int) (impl.Ages, bool) { return saidOfAdvance(a) }
	return withNumber("Advance", do, said, 0)
}

func collectDeed() ageDeed { return ageDeed{"Collect", impl.Collect, saidOfCollect} }

// fillGone writes into all of the memory that a limbo has, as fill does.
func fillGone(l []impl.Gone) {
	l = l[:cap(l)]
	for i := range l {
		l[i] = impl.Gone{Node: -77, At: -78}
	}
}

// agesWithRoom: epochs whose lists have something behind their ends, and the lists with it.
func agesWithRoom(age int, pin int) (impl.Ages, []int, []impl.Gone) {
	pins := []int{-1, pin, 55, 66}
	limbo := goneAt(7, 1, 8, 2, 9, 2, 55, 66, 77, 88)
	return impl.Ages{Age: age, Pins: pins[:2], Limbo: limbo[:3]}, pins, limbo
}

func manyDeeds() []ageDeed {
	return []ageDeed{pinDeed(0), pinDeed(1), pinDeed(2), unpinDeed(0), unpinDeed(1), unpinDeed(-1), retireDeed(5), retireDeed(7), retireDeed(55), advanceDeed(), collectDeed()}
}

func TestEpochsAnswerNewMemory(t *testing.T) {
	for _, d := range manyDeeds() {
		for _, x := range [][2]int{{2, 2}, {3, 3}, {3, 2}, {4, 4}, {5, 4}, {5, 5}, {5, 3}, {lastAge, lastAge}} {
			a, pins, limbo := agesWithRoom(x[0], x[1])
			_, pinsBefore, limboBefore := agesWithRoom(x[0], x[1])
			want, gone := d.said(a)
			first, free := d.do(a)
			other, again := d.do(a)
			fill(first.Pins)
			fillGone(first.Limbo)
			fill(free)
			if !slices.Equal(pins, pinsBefore) || !slices.Equal(limbo, limboBefore) {
				t.Errorf("%s at %v: the argument is now %v, %v", d.what, x, pins, limbo)
			}
			if !sameAges(other, want) || !slices.Equal(again, gone) {
				t.Errorf("%s at %v: two answers share memory, or one is wrong: %+v, %v", d.what, x, other, again)
			}
			fill(pins)
			fillGone(limbo)
			if !sameAges(other, want) || !slices.Equal(again, gone) {
				t.Errorf("%s at %v: the answer shares memory with the argument", d.what, x)
			}
		}
	}
}

func TestListsOfEpochsShareNothing(t *testing.T) {
	for _, d := range manyDeeds() {
		for _, x := range [][2]int{{2, 2}, {3, 2}, {4, 4}, {5, 4}} {
			a, _, _ := agesWithRoom(x[0], x[1])
			want, gone := d.said(a)
			got, free := d.do(a)
			fill(got.Pins)
			if !slices.Equal(got.Limbo, want.Limbo) || !slices.Equal(free, gone) {
				t.Errorf("%s at %v: Pins share memory with another list", d.what, x)
			}
			got, free = d.do(a)
			fill(free)
			if !sameAges(got, want) {
				t.Errorf("%s at %v: the nodes share memory with another list", d.what, x)
			}
		}
	}
}

// ageMove: a deed in a run, and what the epochs are behind it; told is what the deed tells beside them.
type ageMove struct {
	d    ageDeed
	told []int
	a    impl.Ages
}

// toldTrue: what a deed tells that came to pass.
var toldTrue = []int{1}

// ageRun does the moves one after the other; a move that is refused leaves the epochs as they were.
func ageRun(t *testing.T, handles int, moves []ageMove) {
	t.Helper()
	a, ok := impl.AgesNew(handles)
	if !ok {
		t.Fatalf("AgesNew(%d) says false", handles)
	}
	for i, m := range moves {
		got, told := m.d.do(a)
		if !sameAges(got, m.a) || !slices.Equal(told, m.told) {
			t.Fatalf("move %d, %s: %+v, %v", i, m.d.what, got, told)
		}
		if agesRight(got) {
			a = got
		}
	}
}

func TestOneHandleLetsTheEpochsGoOnOnce(t *testing.T) {
	ageRun(t, 1, []ageMove{
		{pinDeed(0), toldTrue, impl.Ages{Pins: []int{0}}},
		{pinDeed(0), nil, impl.Ages{}},
		{retireDeed(7), toldTrue, impl.Ages{Pins: []int{0}, Limbo: goneAt(7, 0)}},
		{collectDeed(), nil, impl.Ages{Pins: []int{0}, Limbo: goneAt(7, 0)}},
		{advanceDeed(), toldTrue, impl.Ages{Age: 1, Pins: []int{0}, Limbo: goneAt(7, 0)}},
		{advanceDeed(), nil, impl.Ages{Age: 1, Pins: []int{0}, Limbo: goneAt(7, 0)}},
		{advanceDeed(), nil, impl.Ages{Age: 1, Pins: []int{0}, Limbo: goneAt(7, 0)}},
		{collectDeed(), nil, impl.Ages{Age: 1, Pins: []int{0}, Limbo: goneAt(7, 0)}},
		{retireDeed(8), toldTrue, impl.Ages{Age: 1, Pins: []int{0}, Limbo: goneAt(7, 0, 8, 1)}},
		{unpinDeed(0), toldTrue, impl.Ages{Age: 1, Pins: []int{-1}, Limbo: goneAt(7, 0, 8, 1)}},
		{unpinDeed(0), nil, impl.Ages{}},
		{collectDeed(), nil, impl.Ages{Age: 1, Pins: []int{-1}, Limbo: goneAt(7, 0, 8, 1)}},
		{advanceDeed(), toldTrue, impl.Ages{Age: 2, Pins: []int{-1}, Limbo: goneAt(7, 0, 8, 1)}},
		{pinDeed(0), toldTrue, impl.Ages{Age: 2, Pins: []int{2}, Limbo: goneAt(7, 0, 8, 1)}},
		{collectDeed(), []int{7}, impl.Ages{Age: 2, Pins: []int{2}, Limbo: goneAt(8, 1)}},
		{retireDeed(7), toldTrue, impl.Ages{Age: 2, Pins: []int{2}, Limbo: goneAt(8, 1, 7, 2)}},
		{advanceDeed(), toldTrue, impl.Ages{Age: 3, Pins: []int{2}, Limbo: goneAt(8, 1, 7, 2)}},
		{advanceDeed(), nil, impl.Ages{Age: 3, Pins: []int{2}, Limbo: goneAt(8, 1, 7, 2)}},
		{collectDeed(), []int{8}, impl.Ages{Age: 3, Pins: []int{2}, Limbo: goneAt(7, 2)}},
		{unpinDeed(0), toldTrue, impl.Ages{Age: 3, Pins: []int{-1}, Limbo: goneAt(7, 2)}},
		{pinDeed(0), toldTrue, impl.Ages{Age: 3, Pins: []int{3}, Limbo: goneAt(7, 2)}},
		{advanceDeed(), toldTrue, impl.Ages{Age: 4, Pins: []int{3}, Limbo: goneAt(7, 2)}},
		{collectDeed(), []int{7}, impl.Ages{Age: 4, Pins: []int{3}}},
	})
}

func TestSeveralHandlesHoldTheEpochs(t *testing.T) {
	ageRun(t, 3, []ageMove{
		{advanceDeed(), toldTrue, impl.Ages{Age: 1, Pins: []int{-1, -1, -1}}},
		{pinDeed(2), toldTrue, impl.Ages{Age: 1, Pins: []int{-1, -1, 1}}},
		{retireDeed(5), toldTrue, impl.Ages{Age: 1, Pins: []int{-1, -1, 1}, Limbo: goneAt(5, 1)}},
		{advanceDeed(), toldTrue, impl.Ages{Age: 2, Pins: []int{-1, -1, 1}, Limbo: goneAt(5, 1)}},
		{pinDeed(0), toldTrue, impl.Ages{Age: 2, Pins: []int{2, -1, 1}, Limbo: goneAt(5, 1)}},
		{retireDeed(-4), toldTrue, impl.Ages{Age: 2, Pins: []int{2, -1, 1}, Limbo: goneAt(5, 1, -4, 2)}},
		{retireDeed(5), nil, impl.Ages{}},
		{advanceDeed(), nil, impl.Ages{Age: 2, Pins: []int{2, -1, 1}, Limbo: goneAt(5, 1, -4, 2)}},
		{pinDeed(3), nil, impl.Ages{}},
		{unpinDeed(2), toldTrue, impl.Ages{Age: 2, Pins: []int{2, -1, -1}, Limbo: goneAt(5, 1, -4, 2)}},
		{advanceDeed(), toldTrue, impl.Ages{Age: 3, Pins: []int{2, -1, -1}, Limbo: goneAt(5, 1, -4, 2)}},
		{pinDeed(1), toldTrue, impl.Ages{Age: 3, Pins: []int{2, 3, -1}, Limbo: goneAt(5, 1, -4, 2)}},
		{collectDeed(), []int{5}, impl.Ages{Age: 3, Pins: []int{2, 3, -1}, Limbo: goneAt(-4, 2)}},
		{advanceDeed(), nil, impl.Ages{Age: 3, Pins: []int{2, 3, -1}, Limbo: goneAt(-4, 2)}},
		{retireDeed(5), toldTrue, impl.Ages{Age: 3, Pins: []int{2, 3, -1}, Limbo: goneAt(-4, 2, 5, 3)}},
		{unpinDeed(0), toldTrue, impl.Ages{Age: 3, Pins: []int{-1, 3, -1}, Limbo: goneAt(-4, 2, 5, 3)}},
		{advanceDeed(), toldTrue, impl.Ages{Age: 4, Pins: []int{-1, 3, -1}, Limbo: goneAt(-4, 2, 5, 3)}},
		{collectDeed(), []int{-4}, impl.Ages{Age: 4, Pins: []int{-1, 3, -1}, Limbo: goneAt(5, 3)}},
		{retireDeed(6), toldTrue, impl.Ages{Age: 4, Pins: []int{-1, 3, -1}, Limbo: goneAt(5, 3, 6, 4)}},
		{unpinDeed(1), toldTrue, impl.Ages{Age: 4, Pins: []int{-1, -1, -1}, Limbo: goneAt(5, 3, 6, 4)}},
		{advanceDeed(), toldTrue, impl.Ages{Age: 5, Pins: []int{-1, -1, -1}, Limbo: goneAt(5, 3, 6, 4)}},
		{advanceDeed(), toldTrue, impl.Ages{Age: 6, Pins: []int{-1, -1, -1}, Limbo: goneAt(5, 3, 6, 4)}},
		{collectDeed(), []int{5, 6}, impl.Ages{Age: 6, Pins: []int{-1, -1, -1}}},
		{collectDeed(), nil, impl.Ages{Age: 6, Pins: []int{-1, -1, -1}}},
	})
}

// ageStory: epochs with what only who saw the whole run knows: for each handle how often Age went on since it was pinned, and for each node in limbo the handles that were pinned when it was given up and still are.
type ageStory struct {
	a     impl.Ages
	since []int
	sight map[int][]int
}

func storyFrom(a impl.Ages) ageStory {
	return ageStory{a: a, since: make([]int, len(a.Pins)), sight: map[int][]int{}}
}

func (s ageStory) copied(a impl.Ages) ageStory {
	next := ageStory{a: a, since: slices.Clone(s.since), sight: map[int][]int{}}
	for node, seen := range s.sight {
		next.sight[node] = slices.Clone(seen)
	}
	return next
}

func (s ageStory) pinned() []int {
	var l []int
	for h, pin := range s.a.Pins {
		if pin >= 0 {
			l = append(l, h)
		}
	}
	return l
}

// look holds the epochs against the story: nobody who may look at a node is told that it is safe, and no pin saw the epochs go on twice.
func (s ageStory) look(t *testing.T) {
	t.Helper()
	if !impl.AgesOk(s.a) {
		t.Fatalf("AgesOk(%+v) is false in a run", s.a)
	}
	for _, h := range s.pinned() {
		if s.since[h] > 1 {
			t.Fatalf("%+v: the epochs went on %d times since the handle %d was pinned", s.a, s.since[h], h)
		}
	}
	for node, seen := range s.sight {
		if len(seen) > 0 && impl.Safe(s.a, node) {
			t.Fatalf("%+v: the node %d is safe, but %v may look at it", s.a, node, seen)
		}
	}
}

func (s ageStory) pin(t *testing.T, h int) (ageStory, bool) {
	t.Helper()
	a, ok := impl.Pin(s.a, h)
	if want, right := saidOfPin(s.a, h); ok != right || !sameAges(a, want) {
		t.Fatalf("Pin(%+v, %d) is %+v, %v", s.a, h, a, ok)
	}
	next := s.copied(a)
	if ok {
		next.since[h] = 0
	}
	return next, ok
}

func (s ageStory) unpin(t *testing.T, h int) (ageStory, bool) {
	t.Helper()
	a, ok := impl.Unpin(s.a, h)
	if want, right := saidOfUnpin(s.a, h); ok != right || !sameAges(a, want) {
		t.Fatalf("Unpin(%+v, %d) is %+v, %v", s.a, h, a, ok)
	}
	next := s.copied(a)
	for node, seen := range next.sight {
		next.sight[node] = slices.DeleteFunc(seen, func(k int) bool { return k == h })
	}
	return next, ok
}

func (s ageStory) retire(t *testing.T, node int) (ageStory, bool) {
	t.Helper()
	a, ok := impl.Retire(s.a, node)
	if want, right := saidOfRetire(s.a, node); ok != right || !sameAges(a, want) {
		t.Fatalf("Retire(%+v, %d) is %+v, %v", s.a, node, a, ok)
	}
	next := s.copied(a)
	if ok {
		next.sight[node] = s.pinned()
	}
	return next, ok
}

func (s ageStory) advance(t *testing.T) (ageStory, bool) {
	t.Helper()
	a, ok := impl.Advance(s.a)
	if want, right := saidOfAdvance(s.a); ok != right || !sameAges(a, want) {
		t.Fatalf("Advance(%+v) is %+v, %v", s.a, a, ok)
	}
	next := s.copied(a)
	for h := range next.since {
		if ok {
			next.since[h]++
		}
	}
	return next, ok
}

// collect tells as its bool whether anything went out.
func (s ageStory) collect(t *testing.T) (ageStory, bool) {
	t.Helper()
	a, free := impl.Collect(s.a)
	if want, gone := saidOfCollect(s.a); !slices.Equal(free, gone) || !sameAges(a, want) {
		t.Fatalf("Collect(%+v) is %+v, %v", s.a, a, free)
	}
	next := s.copied(a)
	for _, node := range free {
		if !impl.Safe(s.a, node) || len(s.sight[node]) > 0 {
			t.Fatalf("Collect(%+v): %d goes out, safe %v, but %v may look at it", s.a, node, impl.Safe(s.a, node), s.sight[node])
		}
		delete(next.sight, node)
	}
	return next, len(free) > 0
}

// cleared: with nobody pinned any more, all who are in limbo go out when the epochs have gone on twice.
func (s ageStory) cleared(t *testing.T) {
	t.Helper()
	for _, h := range s.pinned() {
		s, _ = s.unpin(t, h)
	}
	for range 2 {
		next, ok := s.advance(t)
		if !ok {
			t.Fatalf("Advance(%+v) says false, with nobody pinned", s.a)
		}
		s = next
	}
	if s, _ = s.collect(t); len(s.a.Limbo) > 0 {
		t.Fatalf("%+v is left, with nobody pinned and two epochs on", s.a)
	}
}

// nexts: what may come to pass next.
func (s ageStory) nexts(t *testing.T, nodes []int) []ageStory {
	t.Helper()
	var l []ageStory
	put := func(next ageStory, ok bool) {
		if ok {
			l = append(l, next)
		}
	}
	for h := range s.a.Pins {
		put(s.pin(t, h))
		put(s.unpin(t, h))
	}
	for _, node := range nodes {
		put(s.retire(t, node))
	}
	put(s.advance(t))
	put(s.collect(t))
	return l
}

func (s ageStory) tryAllMoves(t *testing.T, nodes []int, deep int) int {
	t.Helper()
	s.look(t)
	s.cleared(t)
	if deep == 0 {
		return 1
	}
	n := 1
	for _, next := range s.nexts(t, nodes) {
		n += next.tryAllMoves(t, nodes, deep-1)
	}
	return n
}

func TestAllOrdersOfMoves(t *testing.T) {
	for _, x := range []struct {
		handles int
		nodes   []int
		deep    int
		least   int
	}{
		{1, []int{5}, 10, 1000},
		{1, []int{5, -6}, 8, 1000},
		{2, []int{5}, 7, 1000},
		{2, []int{-1, 0}, 6, 1000},
		{3, []int{5}, 6, 1000},
	} {
		a, ok := impl.AgesNew(x.handles)
		if !ok {
			t.Fatalf("AgesNew(%d) says false", x.handles)
		}
		if n := storyFrom(a).tryAllMoves(t, x.nodes, x.deep); n < x.least {
			t.Errorf("%d handles, nodes %v: only %d runs", x.handles, x.nodes, n)
		}
	}
}

// TestLongRuns: all handle counts, with limbo growing full now and then; which move comes next is told by a row of numbers that is the same each time.
func TestLongRuns(t *testing.T) {
	for handles := 1; handles <= 8; handles++ {
		a, _ := impl.AgesNew(handles)
		s, n, full := storyFrom(a), 11+handles, 0
		for i := range 3000 {
			n = (n*1103515245 + 12345) % 4294967296
			pick, arg := n>>16%8, n>>20
			next, ok := s, false
			switch {
			case pick == 0:
				next, ok = s.pin(t, arg%(handles+1))
			case pick == 1:
				next, ok = s.unpin(t, arg%(handles+1))
			case pick == 2 && i%1000 > 700:
				next, ok = s.advance(t)
			case pick == 3 && i%1000 > 700:
				next, ok = s.collect(t)
			case pick >= 4:
				next, ok = s.retire(t, arg%140-20)
			}
			if ok {
				s = next
			}
			if len(s.a.Limbo) == 100 {
				full++
			}
			s.look(t)
		}
		if full == 0 || s.a.Age < 3 {
			t.Errorf("%d handles: full %d times, at the end %+v", handles, full, s.a)
		}
		s.cleared(t)
	}
}

func TestTheLastEpochs(t *testing.T) {
	a := impl.Ages{Age: lastAge - 2, Pins: []int{-1, lastAge - 2}, Limbo: goneAt(3, lastAge-3, 4, lastAge-2)}
	s := storyFrom(a)
	s, ok := s.advance(t)
	if !ok {
		t.Fatal("to MaxNum less 1: false")
	}
	if _, ok := s.advance(t); ok {
		t.Error("a handle let the epochs go on twice")
	}
	s, _ = s.unpin(t, 1)
	s, ok = s.advance(t)
	if !ok || s.a.Age != lastAge {
		t.Fatalf("to MaxNum: %+v, %v", s.a, ok)
	}
	s, ok = s.collect(t)
	if !ok || len(s.a.Limbo) != 0 {
		t.Errorf("at MaxNum: %+v", s.a)
	}
	// There is no epoch behind it, so what is given up now stays.
	s, _ = s.retire(t, 5)
	s, ok = s.advance(t)
	if ok || s.a.Age != lastAge {
		t.Errorf("from MaxNum: %+v, %v", s.a, ok)
	}
	if s, ok = s.collect(t); ok || len(s.a.Limbo) != 1 {
		t.Errorf("given up in MaxNum: %+v", s.a)
	}
}
