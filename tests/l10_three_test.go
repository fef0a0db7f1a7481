package tests

import (
	"fmt"
	"math"
	"slices"
	"strconv"
	"strings"
	"testing"

	"loop.example/g00724/impl"
)

// queueOf: items by words as a2, which is the Key a with the Val va and the Freq 2.
func queueOf(words string) []impl.Item {
	var l []impl.Item
	for _, w := range strings.Fields(words) {
		last := len(w) - 1
		l = append(l, impl.Item{Key: w[:last], Val: "v" + w[:last], Freq: int(w[last] - '0')})
	}
	return l
}

// hashesOf: of the keys that stand in a text with blanks between.
func hashesOf(keys string) []int {
	var l []int
	for _, k := range strings.Fields(keys) {
		l = append(l, impl.Hash(k))
	}
	return l
}

func threeWith(cap int, most int, small string, main string, ghosts string) impl.Three {
	return impl.Three{Cap: cap, Most: most, Small: queueOf(small), Main: queueOf(main), Ghost: hashesOf(ghosts)}
}

// someQueue: n items with the keys that begin with this text, of all Freqs.
func someQueue(begin string, n int) []impl.Item {
	var l []impl.Item
	for i := range n {
		l = append(l, impl.Item{Key: begin + strconv.Itoa(i), Val: strings.Repeat("x", i%41), Freq: i % 4})
	}
	return l
}

func sameThree(a impl.Three, b impl.Three) bool {
	return a.Cap == b.Cap && a.Most == b.Most && slices.Equal(a.Small, b.Small) && slices.Equal(a.Main, b.Main) && slices.Equal(a.Ghost, b.Ghost)
}

func cloneThree(c impl.Three) impl.Three {
	return impl.Three{Cap: c.Cap, Most: c.Most, Small: slices.Clone(c.Small), Main: slices.Clone(c.Main), Ghost: slices.Clone(c.Ghost)}
}

func keysIn(l []impl.Item) []string {
	var keys []string
	for _, x := range l {
		keys = append(keys, x.Key)
	}
	return keys
}

// The functions whose names begin with item or three and end with Said answer what chapter 11 says, by its words alone.

func itemOkSaid(x impl.Item) bool {
	for _, b := range []byte(x.Key + x.Val) {
		if b == 32 || b == 10 {
			return false
		}
	}
	return between(len(x.Key), 1, 20) && len(x.Val) <= 40 && between(x.Freq, 0, 3)
}

func ghostsSaid(c impl.Three) int {
	if c.Most == c.Cap {
		return 1
	}
	return c.Cap - c.Most
}

func threeOkSaid(c impl.Three) bool {
	if !between(c.Cap, 1, 60) || !between(c.Most, 1, c.Cap) {
		return false
	}
	all := append(slices.Clone(c.Small), c.Main...)
	keys := map[string]bool{}
	for _, x := range all {
		if !itemOkSaid(x) {
			return false
		}
		keys[x.Key] = true
	}
	ghosts := map[int]bool{}
	for _, h := range c.Ghost {
		if !between(h, 0, 4294967295) {
			return false
		}
		ghosts[h] = true
	}
	return len(all) <= c.Cap && len(keys) == len(all) && len(ghosts) == len(c.Ghost) && len(c.Ghost) <= ghostsSaid(c)
}

func threeNewSaid(cap int, most int) (impl.Three, bool) {
	if cap < 1 || cap > 60 || most < 1 || most > cap {
		return impl.Three{}, false
	}
	return impl.Three{Cap: cap, Most: most}, true
}

// askedSaid answers the item of the key, wherever it is, with a Freq one greater; nil where there is none.
func askedSaid(c *impl.Three, key string) *impl.Item {
	for i := range c.Small {
		if c.Small[i].Key == key {
			c.Small[i].Freq = []int{1, 2, 3, 3}[c.Small[i].Freq]
			return &c.Small[i]
		}
	}
	for i := range c.Main {
		if c.Main[i].Key == key {
			c.Main[i].Freq = []int{1, 2, 3, 3}[c.Main[i].Freq]
			return &c.Main[i]
		}
	}
	return nil
}

func threeGetSaid(c impl.Three, key string) (impl.Three, string, bool) {
	if !threeOkSaid(c) {
		return impl.Three{}, "", false
	}
	d := cloneThree(c)
	if x := askedSaid(&d, key); x != nil {
		return d, x.Val, true
	}
	return d, "", false
}

func threeEvictSmallSaid(c impl.Three) (impl.Three, string, bool) {
	if !threeOkSaid(c) {
		return impl.Three{}, "", false
	}
	d := cloneThree(c)
	if len(c.Small) == 0 {
		return d, "", false
	}
	head := c.Small[0]
	d.Small = slices.Clone(c.Small[1:])
	if head.Freq > 1 {
		d.Main = append(d.Main, impl.Item{Key: head.Key, Val: head.Val})
		return threeEvictSmallSaid(d)
	}
	d.Ghost = []int{}
	for _, h := range c.Ghost {
		if h != impl.Hash(head.Key) {
			d.Ghost = append(d.Ghost, h)
		}
	}
	d.Ghost = append(d.Ghost, impl.Hash(head.Key))
	if len(d.Ghost) > ghostsSaid(c) {
		d.Ghost = slices.Clone(d.Ghost[1:])
	}
	return d, head.Key, true
}

// threeEvictMainSaid: the first of those with the least Freq goes. By then each one ahead of it has come to the end once more than those behind it, which did so as often as that Freq says.
func threeEvictMainSaid(c impl.Three) (impl.Three, string, bool) {
	if !threeOkSaid(c) {
		return impl.Three{}, "", false
	}
	d := cloneThree(c)
	if len(c.Main) == 0 {
		return d, "", false
	}
	least, at := 3, 0
	for i, x := range c.Main {
		if i == 0 || x.Freq < least {
			least, at = x.Freq, i
		}
	}
	d.Main = nil
	for _, x := range c.Main[at+1:] {
		d.Main = append(d.Main, impl.Item{Key: x.Key, Val: x.Val, Freq: x.Freq - least})
	}
	for _, x := range c.Main[:at] {
		d.Main = append(d.Main, impl.Item{Key: x.Key, Val: x.Val, Freq: x.Freq - least - 1})
	}
	return d, c.Main[at].Key, true
}

func threeEvictSaid(c impl.Three) (impl.Three, string, bool) {
	ways := []func(impl.Three) (impl.Three, string, bool){threeEvictMainSaid, threeEvictSmallSaid}
	if len(c.Small) >= c.Most || len(c.Main) == 0 {
		slices.Reverse(ways)
	}
	d, key, ok := ways[0](c)
	if ok {
		return d, key, true
	}
	return ways[1](d)
}

func threePutSaid(c impl.Three, key string, val string) (impl.Three, []string, bool) {
	x := impl.Item{Key: key, Val: val}
	if !threeOkSaid(c) || !itemOkSaid(x) {
		return impl.Three{}, nil, false
	}
	d := cloneThree(c)
	if there := askedSaid(&d, key); there != nil {
		there.Val = val
		return d, nil, true
	}
	var gone []string
	for len(d.Small)+len(d.Main) == d.Cap {
		next, out, _ := threeEvictSaid(d)
		d, gone = next, append(gone, out)
	}
	at := slices.Index(d.Ghost, impl.Hash(key))
	if at < 0 {
		d.Small = append(d.Small, x)
		return d, gone, true
	}
	d.Ghost = append(slices.Clone(d.Ghost[:at]), d.Ghost[at+1:]...)
	d.Main = append(d.Main, x)
	return d, gone, true
}

func threeDropSaid(c impl.Three, key string) (impl.Three, bool) {
	if !threeOkSaid(c) {
		return impl.Three{}, false
	}
	other := func(l []impl.Item) []impl.Item {
		return slices.DeleteFunc(slices.Clone(l), func(x impl.Item) bool { return x.Key == key })
	}
	d := impl.Three{Cap: c.Cap, Most: c.Most, Small: other(c.Small), Main: other(c.Main), Ghost: slices.Clone(c.Ghost)}
	return d, len(d.Small)+len(d.Main) < len(c.Small)+len(c.Main)
}

// threeDeed: a call on a cache, and what chapter 11 says of it; what it tells beside a cache is told as texts, the bool as the last one.
type threeDeed struct {
	what string
	do   func(impl.Three) (impl.Three, []string)
	said func(impl.Three) (impl.Three, []string)
}

func evictDeedWith(what string, do func(impl.Three) (impl.Three, string, bool), said func(impl.Three) (impl.Three, string, bool)) threeDeed {
	told := func(f func(impl.Three) (impl.Three, string, bool)) func(impl.Three) (impl.Three, []string) {
		return func(c impl.Three) (impl.Three, []string) {
			d, key, ok := f(c)
			return d, []string{key, strconv.FormatBool(ok)}
		}
	}
	return threeDeed{what, told(do), told(said)}
}

func evictSmallDeed() threeDeed {
	return evictDeedWith("EvictSmall", impl.EvictSmall, threeEvictSmallSaid)
}

func evictMainDeed() threeDeed {
	return evictDeedWith("EvictMain", impl.EvictMain, threeEvictMainSaid)
}

func evictDeed() threeDeed { return evictDeedWith("Evict", impl.Evict, threeEvictSaid) }

func getDeed(key string) threeDeed {
	with := func(f func(impl.Three, string) (impl.Three, string, bool)) func(impl.Three) (impl.Three, string, bool) {
		return func(c impl.Three) (impl.Three, string, bool) { return f(c, key) }
	}
	return evictDeedWith(fmt.Sprintf("Get %q", key), with(impl.Get), with(threeGetSaid))
}

func putDeed(key string, val string) threeDeed {
	told := func(f func(impl.Three, string, string) (impl.Three, []string, bool)) func(impl.Three) (impl.Three, []string) {
		return func(c impl.Three) (impl.Three, []string) {
			d, gone, ok := f(c, key, val)
			return d, append(gone, strconv.FormatBool(ok))
		}
	}
	return threeDeed{fmt.Sprintf("Put %q %q", key, val), told(impl.Put), told(threePutSaid)}
}

func dropDeed(key string) threeDeed {
	told := func(f func(impl.Three, string) (impl.Three, bool)) func(impl.Three) (impl.Three, []string) {
		return func(c impl.Three) (impl.Three, []string) {
			d, ok := f(c, key)
			return d, []string{strconv.FormatBool(ok)}
		}
	}
	return threeDeed{fmt.Sprintf("Drop %q", key), told(impl.Drop), told(threeDropSaid)}
}

func threeDeeds(keys ...string) []threeDeed {
	l := []threeDeed{evictSmallDeed(), evictMainDeed(), evictDeed()}
	for _, k := range keys {
		l = append(l, getDeed(k), putDeed(k, "new"), dropDeed(k))
	}
	return l
}

// threeAsSaid holds all functions of a cache against what chapter 11 says, at these keys.
func threeAsSaid(t *testing.T, c impl.Three, deeds []threeDeed) {
	t.Helper()
	before := cloneThree(c)
	right := threeOkSaid(c)
	if got := impl.ThreeOk(c); got != right {
		t.Fatalf("ThreeOk(%+v) is %v", c, got)
	}
	for _, d := range deeds {
		got, told := d.do(c)
		want, said := d.said(c)
		if !sameThree(got, want) || !slices.Equal(told, said) {
			t.Fatalf("%s of %+v: %+v, %q; want %+v, %q", d.what, c, got, told, want, said)
		}
		if right && !impl.ThreeOk(got) && !sameThree(got, impl.Three{}) {
			t.Fatalf("%s of %+v: %+v, of which ThreeOk is false", d.what, c, got)
		}
	}
	if !sameThree(c, before) {
		t.Fatalf("%+v was changed from %+v", c, before)
	}
}

func TestThreeConstants(t *testing.T) {
	if impl.MaxCap != 60 || impl.MaxFreq != 3 || impl.MaxKey != 20 || impl.MaxVal != 40 {
		t.Errorf("MaxCap %d, MaxFreq %d, MaxKey %d, MaxVal %d", impl.MaxCap, impl.MaxFreq, impl.MaxKey, impl.MaxVal)
	}
}

func TestItemOk(t *testing.T) {
	key, val := strings.Repeat("k", 20), strings.Repeat("v", 40)
	for _, x := range []struct {
		what string
		x    impl.Item
		want bool
	}{
		{"nothing", impl.Item{}, false},
		{"a key of 0 bytes", impl.Item{Val: "v"}, false},
		{"a key of 1 byte, no value", impl.Item{Key: "a"}, true},
		{"a key of 20 bytes", impl.Item{Key: key}, true},
		{"a key of 21 bytes", impl.Item{Key: key + "k"}, false},
		{"a key of 40 bytes", impl.Item{Key: val}, false},
		{"a key of 20 bytes that are 10 runes", impl.Item{Key: strings.Repeat("é", 10)}, true},
		{"a key of 20 runes", impl.Item{Key: strings.Repeat("é", 20)}, false},
		{"a key of 21 bytes that are 7 runes", impl.Item{Key: strings.Repeat("€", 7)}, false},
		{"a value of 1 byte", impl.Item{Key: "a", Val: "v"}, true},
		{"a value of 40 bytes", impl.Item{Key: "a", Val: val}, true},
		{"a value of 41 bytes", impl.Item{Key: "a", Val: val + "v"}, false},
		{"a value of 40 bytes that are 20 runes", impl.Item{Key: "a", Val: strings.Repeat("é", 20)}, true},
		{"a value of 40 runes", impl.Item{Key: "a", Val: strings.Repeat("é", 40)}, false},
		{"the longest of both", impl.Item{Key: key, Val: val, Freq: 3}, true},
		{"a long one of both", impl.Item{Key: strings.Repeat("k", 5000), Val: strings.Repeat("v", 5000)}, false},
		{"Freq at -1", impl.Item{Key: "a", Freq: -1}, false},
		{"Freq at 0", impl.Item{Key: "a", Freq: 0}, true},
		{"Freq at 1", impl.Item{Key: "a", Freq: 1}, true},
		{"Freq at 2", impl.Item{Key: "a", Freq: 2}, true},
		{"Freq at 3", impl.Item{Key: "a", Freq: 3}, true},
		{"Freq at 4", impl.Item{Key: "a", Freq: 4}, false},
		{"Freq at the greatest", impl.Item{Key: "a", Freq: math.MaxInt}, false},
		{"Freq at the least", impl.Item{Key: "a", Freq: math.MinInt}, false},
		{"Freq at 2 to the power of 32", impl.Item{Key: "a", Freq: 1 << 32}, false},
		{"bytes that are no text", impl.Item{Key: "\xff\xc3", Val: "\x80\xe2\x82"}, true},
		{"bytes that are no text, with a blank", impl.Item{Key: "\xff\xc3 ", Val: "\x80"}, false},
		{"bytes that are no text, with a byte 10", impl.Item{Key: "\xff", Val: "\xc3\n"}, false},
		{"the byte 0", impl.Item{Key: "\x00", Val: "\x00"}, true},
		{"other blanks", impl.Item{Key: "\t\r\v\f", Val: "\t\r\u00a0\u2028"}, true},
		{"signs of which other texts are made", impl.Item{Key: "a=b*1", Val: "=*"}, true},
	} {
		if got := impl.ItemOk(x.x); got != x.want || itemOkSaid(x.x) != x.want {
			t.Errorf("%s: ItemOk(%+v) is %v", x.what, x.x, got)
		}
	}
}

func TestItemOkWithBlanksAndLines(t *testing.T) {
	for _, mark := range []string{" ", "\n"} {
		for _, s := range []string{mark, mark + "ab", "a" + mark + "b", "ab" + mark, mark + mark, strings.Repeat("a", 19) + mark, mark + strings.Repeat("a", 19)} {
			if impl.ItemOk(impl.Item{Key: s}) || impl.ItemOk(impl.Item{Key: "a", Val: s}) || impl.ItemOk(impl.Item{Key: s, Val: s}) {
				t.Errorf("ItemOk is true with the Key or the Val %q", s)
			}
		}
	}
	for b := range 256 {
		s := "a" + string([]byte{byte(b)}) + "b"
		want := b != 32 && b != 10
		if impl.ItemOk(impl.Item{Key: s}) != want || impl.ItemOk(impl.Item{Key: "a", Val: s}) != want {
			t.Errorf("ItemOk isn't %v with the Key or the Val %q", want, s)
		}
	}
	for _, key := range oddTexts {
		for _, val := range oddTexts {
			x := impl.Item{Key: key, Val: val, Freq: len(val) % 5}
			if got := impl.ItemOk(x); got != itemOkSaid(x) {
				t.Errorf("ItemOk(%+v) is %v", x, got)
			}
		}
	}
}

// wrongThrees: caches that aren't right, each by one thing alone.
func wrongThrees() map[string]impl.Three {
	l := map[string]impl.Three{
		"nothing":                   {},
		"a cap below 0":             threeWith(-1, 1, "", "", ""),
		"a cap of 0":                threeWith(0, 0, "", "", ""),
		"a cap of 0, most 1":        threeWith(0, 1, "", "", ""),
		"a cap of 61":               threeWith(61, 1, "a0", "b1", "c"),
		"the greatest cap":          threeWith(math.MaxInt, 1, "a0", "b1", "c"),
		"the least cap":             threeWith(math.MinInt, math.MinInt, "a0", "b1", "c"),
		"the least cap, most 1":     threeWith(math.MinInt, 1, "a0", "b1", "c"),
		"most below 0":              threeWith(3, -1, "a0", "b1", "c"),
		"most of 0":                 threeWith(3, 0, "a0", "b1", "c"),
		"most above cap":            threeWith(3, 4, "a0", "b1", "c"),
		"the greatest most":         threeWith(3, math.MaxInt, "a0", "b1", "c"),
		"the least most":            threeWith(3, math.MinInt, "a0", "b1", "c"),
		"one too many in Small":     threeWith(2, 1, "a0 b0 c0", "", ""),
		"one too many in Main":      threeWith(2, 1, "", "a0 b0 c0", ""),
		"one too many in both":      threeWith(2, 1, "a0", "b0 c0", ""),
		"a key twice in Small":      threeWith(5, 1, "a0 b0 a0", "c1", "d"),
		"a key twice in Main":       threeWith(5, 1, "c1", "a0 b0 a0", "d"),
		"a key in both":             threeWith(5, 1, "c1 a0", "b0 a0", "d"),
		"a key at both ends":        threeWith(5, 1, "a0 c1", "b0 a3", "d"),
		"a key twice, other values": {Cap: 5, Most: 1, Small: []impl.Item{{Key: "a", Val: "x"}}, Main: []impl.Item{{Key: "a", Val: "y", Freq: 1}}},
		"a ghost twice":             threeWith(5, 1, "a0", "b0", "c d c"),
		"a ghost twice, alike":      threeWith(5, 1, "a0", "b0", "c c"),
		"one ghost too many":        threeWith(4, 2, "a0", "b0", "c d e"),
		"two ghosts of one":         threeWith(4, 3, "a0", "b0", "c d"),
		"two ghosts of none":        threeWith(4, 4, "a0", "b0", "c d"),
		"two ghosts, cap 1":         threeWith(1, 1, "a0", "", "c d"),
		"a ghost below 0":           {Cap: 4, Most: 2, Ghost: []int{5, -1}},
		"a ghost above MaxNum":      {Cap: 4, Most: 2, Ghost: []int{4294967296, 5}},
		"the greatest ghost":        {Cap: 4, Most: 2, Ghost: []int{math.MaxInt}},
		"the least ghost":           {Cap: 4, Most: 2, Ghost: []int{math.MinInt}},
	}
	for what, x := range map[string]impl.Item{
		"an item of nothing":       {},
		"an item without a key":    {Val: "v"},
		"a blank in a key":         {Key: "x y"},
		"a byte 10 in a key":       {Key: "x\n"},
		"a long key":               {Key: strings.Repeat("k", 21)},
		"a blank in a value":       {Key: "x", Val: " "},
		"a byte 10 in a value":     {Key: "x", Val: "\n"},
		"a long value":             {Key: "x", Val: strings.Repeat("v", 41)},
		"a Freq below 0":           {Key: "x", Freq: -1},
		"a Freq above MaxFreq":     {Key: "x", Freq: 4},
		"the greatest Freq":        {Key: "x", Freq: math.MaxInt},
		"the least of 64 as Freq":  {Key: "x", Freq: math.MinInt},
		"a key that is blank":      {Key: " "},
		"a key of a line's ending": {Key: "\n"},
	} {
		small, main := threeWith(5, 2, "a0 b2", "c1", "d"), threeWith(5, 2, "a0 b2", "c1", "d")
		small.Small = append(small.Small, x)
		main.Main = slices.Insert(main.Main, 0, x)
		l[what+", in Small"], l[what+", in Main"] = small, main
	}
	return l
}

func TestThreesThatArentRight(t *testing.T) {
	deeds := append(threeDeeds("a", "b", "c", "d", "x", "none", "", "x y"), putDeed("a", "x y"), putDeed("none", strings.Repeat("v", 41)))
	for what, c := range wrongThrees() {
		if impl.ThreeOk(c) || threeOkSaid(c) {
			t.Errorf("%s: ThreeOk(%+v) is true", what, c)
		}
		for _, d := range deeds {
			got, told := d.do(c)
			ok := told[len(told)-1]
			if !sameThree(got, impl.Three{}) || ok != "false" || strings.Join(told[:len(told)-1], "") != "" {
				t.Errorf("%s: %s of %+v is %+v, %q", what, d.what, c, got, told)
			}
		}
		threeAsSaid(t, c, deeds)
	}
}

func TestThreeOk(t *testing.T) {
	for _, x := range []struct {
		what string
		c    impl.Three
	}{
		{"the least, empty", threeWith(1, 1, "", "", "")},
		{"the least, a ghost", threeWith(1, 1, "", "", "a")},
		{"the least, an item in Small", threeWith(1, 1, "a0", "", "")},
		{"the least, an item in Main", threeWith(1, 1, "", "a3", "b")},
		{"the greatest, empty", threeWith(60, 1, "", "", "")},
		{"the greatest, most of 60", threeWith(60, 60, "", "", "a")},
		{"items of all Freqs", threeWith(8, 2, "a0 b1 c2 d3", "e0 f1 g2 h3", "i j k l m n")},
		{"more than Most in Small", threeWith(4, 1, "a0 b0 c0 d0", "", "")},
		{"fewer than Most in Small", threeWith(4, 3, "a0", "b0 c0 d0", "")},
		{"a ghost whose key is an item", threeWith(4, 2, "a0", "b0", "a b")},
		{"the ends of the ghosts", impl.Three{Cap: 4, Most: 2, Ghost: []int{0, 4294967295}}},
		{"the ends of the ghosts, the other way", impl.Three{Cap: 4, Most: 2, Ghost: []int{4294967295, 0}}},
		{"lists without elements", impl.Three{Cap: 2, Most: 1, Small: []impl.Item{}, Main: []impl.Item{}, Ghost: []int{}}},
		{"values alike", impl.Three{Cap: 2, Most: 1, Small: []impl.Item{{Key: "a", Val: "v"}}, Main: []impl.Item{{Key: "b", Val: "v"}}}},
		{"keys that differ by a letter's size", threeWith(3, 1, "a0 A0", "ä0", "")},
		{"keys of one Hash", threeWith(3, 1, "liquid0", "costarring0", "liquid")},
	} {
		if !impl.ThreeOk(x.c) || !threeOkSaid(x.c) {
			t.Errorf("%s: ThreeOk(%+v) is false", x.what, x.c)
		}
	}
}

func TestThreeOkOfSizes(t *testing.T) {
	sizes := append(places(-3, 64), someInts...)
	for _, size := range sizes {
		for _, most := range append([]int{size - 1, size, size + 1}, sizes...) {
			c := impl.Three{Cap: size, Most: most}
			if got := impl.ThreeOk(c); got != threeOkSaid(c) {
				t.Fatalf("ThreeOk(%+v) is %v", c, got)
			}
			if threeOkSaid(c) {
				for _, more := range []int{-1, 0, 1, 2, 70} {
					c.Ghost = places(0, max(ghostsSaid(c)+more, 0))
					if got := impl.ThreeOk(c); got != (more <= 0) {
						t.Fatalf("%d ghosts: ThreeOk(%+v) is %v", len(c.Ghost), c, got)
					}
				}
			}
		}
	}
	for _, size := range []int{1, 2, 3, 10, 59, 60} {
		for _, n := range []int{size - 1, size, size + 1, 2 * size, 5000} {
			for _, small := range []int{0, 1, n / 2, n - 1, n} {
				c := impl.Three{Cap: size, Most: 1 + size/2, Small: someQueue("s", max(small, 0)), Main: someQueue("m", max(n-small, 0))}
				if got := impl.ThreeOk(c); got != (len(c.Small)+len(c.Main) <= size) {
					t.Fatalf("%d in Small, %d in Main: ThreeOk is %v", len(c.Small), len(c.Main), got)
				}
			}
		}
	}
}

// shortQueues: all lists of at most that many of some items that are right and some that aren't.
func shortQueues(most int) [][]impl.Item {
	stock := []impl.Item{{Key: "a"}, {Key: "b", Val: "v", Freq: 3}, {Key: "a", Val: "w", Freq: 1}, {Key: "c", Freq: 4}, {Val: "v"}}
	var l [][]impl.Item
	for _, picks := range shortLists(places(0, len(stock)), most) {
		var q []impl.Item
		for _, k := range picks {
			q = append(q, stock[k])
		}
		l = append(l, q)
	}
	return l
}

func TestThreeOkOfShortLists(t *testing.T) {
	right := 0
	for _, small := range shortQueues(2) {
		for _, main := range shortQueues(2) {
			for _, ghosts := range shortLists([]int{0, 7, -1}, 2) {
				for size := range 5 {
					for most := range 4 {
						c := impl.Three{Cap: size, Most: most, Small: small, Main: main, Ghost: ghosts}
						if got := impl.ThreeOk(c); got != threeOkSaid(c) {
							t.Fatalf("ThreeOk(%+v) is %v", c, got)
						}
						right += oneIf(threeOkSaid(c))
					}
				}
			}
		}
	}
	if right < 500 {
		t.Errorf("only %d are right", right)
	}
}

func TestThreeNew(t *testing.T) {
	sizes := append(places(-2, 64), someInts...)
	for _, size := range sizes {
		for _, most := range append([]int{size - 1, size, size + 1}, sizes...) {
			c, ok := impl.ThreeNew(size, most)
			want, right := threeNewSaid(size, most)
			if ok != right || !sameThree(c, want) || impl.ThreeOk(c) != right {
				t.Fatalf("ThreeNew(%d, %d) is %+v, %v", size, most, c, ok)
			}
		}
	}
	for _, x := range [][2]int{{1, 1}, {60, 1}, {60, 60}, {3, 1}} {
		if c, ok := impl.ThreeNew(x[0], x[1]); !ok || c.Cap != x[0] || c.Most != x[1] {
			t.Errorf("ThreeNew(%d, %d) is %+v, %v", x[0], x[1], c, ok)
		}
	}
	for _, x := range [][2]int{{0, 0}, {0, 1}, {1, 0}, {1, 2}, {60, 61}, {61, 1}, {61, 61}, {60, 0}, {-1, -1}} {
		if c, ok := impl.ThreeNew(x[0], x[1]); ok || !sameThree(c, impl.Three{}) {
			t.Errorf("ThreeNew(%d, %d) is %+v, %v", x[0], x[1], c, ok)
		}
	}
}

func TestGet(t *testing.T) {
	c := threeWith(9, 2, "a0 b1 c2 d3", "e0 f1 g2 h3", "i a")
	for _, x := range []struct {
		key   string
		small string
		main  string
	}{
		{"a", "a1 b1 c2 d3", "e0 f1 g2 h3"},
		{"b", "a0 b2 c2 d3", "e0 f1 g2 h3"},
		{"c", "a0 b1 c3 d3", "e0 f1 g2 h3"},
		{"d", "a0 b1 c2 d3", "e0 f1 g2 h3"},
		{"e", "a0 b1 c2 d3", "e1 f1 g2 h3"},
		{"f", "a0 b1 c2 d3", "e0 f2 g2 h3"},
		{"g", "a0 b1 c2 d3", "e0 f1 g3 h3"},
		{"h", "a0 b1 c2 d3", "e0 f1 g2 h3"},
	} {
		got, val, ok := impl.Get(c, x.key)
		if want := threeWith(9, 2, x.small, x.main, "i a"); !sameThree(got, want) || val != "v"+x.key || !ok {
			t.Errorf("Get(%+v, %q) is %+v, %q, %v", c, x.key, got, val, ok)
		}
	}
	for _, key := range append([]string{"i", "j", "A", "aa", "va", "a ", "abcdefgh", strings.Repeat("a", 21)}, oddTexts...) {
		if slices.Contains([]string{"a", "b"}, key) {
			continue
		}
		if got, val, ok := impl.Get(c, key); !sameThree(got, c) || val != "" || ok {
			t.Errorf("Get(%+v, %q) is %+v, %q, %v", c, key, got, val, ok)
		}
	}
	empty := impl.Three{Cap: 2, Most: 1, Small: []impl.Item{{Key: "a"}}}
	if got, val, ok := impl.Get(empty, "a"); got.Small[0].Freq != 1 || val != "" || !ok {
		t.Errorf("Get of an item with the empty value: %+v, %q, %v", got, val, ok)
	}
}

// evictCase: what a way to evict answers for a cache; Cap and Most are those of all.
type evictCase struct {
	what string
	c    impl.Three
	want impl.Three
	key  string
	ok   bool
}

func (x evictCase) try(t *testing.T, d threeDeed) {
	t.Helper()
	got, told := d.do(x.c)
	if !sameThree(got, x.want) || !slices.Equal(told, []string{x.key, strconv.FormatBool(x.ok)}) {
		t.Errorf("%s: %s of %+v is %+v, %q; want %+v", x.what, d.what, x.c, got, told, x.want)
	}
	if want, said := d.said(x.c); !sameThree(want, x.want) || !slices.Equal(told, said) {
		t.Errorf("%s: %s of %+v is said to be %+v, %q", x.what, d.what, x.c, want, said)
	}
}

func TestEvictSmall(t *testing.T) {
	for _, x := range []evictCase{
		{"both are empty", threeWith(5, 2, "", "", "x"), threeWith(5, 2, "", "", "x"), "", false},
		{"Small is empty", threeWith(5, 2, "", "a0 b1", "x"), threeWith(5, 2, "", "a0 b1", "x"), "", false},
		{"one of Freq 0", threeWith(5, 2, "a0", "", ""), threeWith(5, 2, "", "", "a"), "a", true},
		{"one of Freq 1", threeWith(5, 2, "a1", "", ""), threeWith(5, 2, "", "", "a"), "a", true},
		{"one of Freq 2", threeWith(5, 2, "a2", "", ""), threeWith(5, 2, "", "a0", ""), "", false},
		{"one of Freq 3", threeWith(5, 2, "a3", "", ""), threeWith(5, 2, "", "a0", ""), "", false},
		{"the first goes at once", threeWith(5, 2, "a0 b0 c3", "d1", ""), threeWith(5, 2, "b0 c3", "d1", "a"), "a", true},
		{"the first goes at once, with Freq 1", threeWith(5, 2, "a1 b3 c0", "d1", ""), threeWith(5, 2, "b3 c0", "d1", "a"), "a", true},
		{"some are spared", threeWith(6, 2, "a2 b3 c1 d3", "e1 f0", "x"), threeWith(6, 2, "d3", "e1 f0 a0 b0", "x c"), "c", true},
		{"the last one goes", threeWith(6, 2, "a3 b2 c2 d0", "e3", ""), threeWith(6, 2, "", "e3 a0 b0 c0", "d"), "d", true},
		{"all are spared", threeWith(6, 2, "a2 b3 c2", "d1 e3", "x"), threeWith(6, 2, "", "d1 e3 a0 b0 c0", "x"), "", false},
		{"all are spared, Main was empty", threeWith(3, 3, "a2 b3 c2", "", ""), threeWith(3, 3, "", "a0 b0 c0", ""), "", false},
		{"the ghost is there, the first", threeWith(5, 2, "a0 b0", "", "a x y"), threeWith(5, 2, "b0", "", "x y a"), "a", true},
		{"the ghost is there, in between", threeWith(5, 2, "a0 b0", "", "x a y"), threeWith(5, 2, "b0", "", "x y a"), "a", true},
		{"the ghost is there, the last", threeWith(5, 2, "a0 b0", "", "x y a"), threeWith(5, 2, "b0", "", "x y a"), "a", true},
		{"the ghost is there alone", threeWith(5, 2, "a0 b0", "", "a"), threeWith(5, 2, "b0", "", "a"), "a", true},
		{"the ghosts are full", threeWith(5, 2, "a0 b0", "", "x y z"), threeWith(5, 2, "b0", "", "y z a"), "a", true},
		{"the ghosts have room for one", threeWith(5, 2, "a0 b0", "", "x y"), threeWith(5, 2, "b0", "", "x y a"), "a", true},
		{"the ghosts of those that are spared stay", threeWith(5, 2, "a2 b0", "", "a b"), threeWith(5, 2, "", "a0", "a b"), "b", true},
		{"Cap less Most is 0, no ghost", threeWith(3, 3, "a0 b0", "", ""), threeWith(3, 3, "b0", "", "a"), "a", true},
		{"Cap less Most is 0, another ghost", threeWith(3, 3, "a0 b0", "", "x"), threeWith(3, 3, "b0", "", "a"), "a", true},
		{"Cap less Most is 0, that ghost", threeWith(3, 3, "a0 b0", "", "a"), threeWith(3, 3, "b0", "", "a"), "a", true},
		{"Cap less Most is 1, another ghost", threeWith(3, 2, "a0 b0", "", "x"), threeWith(3, 2, "b0", "", "a"), "a", true},
		{"Cap of 1", threeWith(1, 1, "a1", "", "x"), threeWith(1, 1, "", "", "a"), "a", true},
		{"a ghost of another key with that Hash", threeWith(4, 2, "liquid0", "", "costarring x"), threeWith(4, 2, "", "", "x liquid"), "liquid", true},
		{"the other key with that Hash stays", threeWith(4, 2, "liquid0 costarring0", "", "x"), threeWith(4, 2, "costarring0", "", "x liquid"), "liquid", true},
		{"it isn't right", threeWith(5, 2, "a0 a0", "", ""), impl.Three{}, "", false},
		{"it isn't right, and Small is empty", threeWith(5, 6, "", "a0", ""), impl.Three{}, "", false},
	} {
		x.try(t, evictSmallDeed())
	}
}

func TestEvictMain(t *testing.T) {
	for _, x := range []evictCase{
		{"both are empty", threeWith(5, 2, "", "", "x"), threeWith(5, 2, "", "", "x"), "", false},
		{"Main is empty", threeWith(5, 2, "a0 b3", "", "x"), threeWith(5, 2, "a0 b3", "", "x"), "", false},
		{"one of Freq 0", threeWith(5, 2, "", "a0", "x"), threeWith(5, 2, "", "", "x"), "a", true},
		{"one of Freq 1", threeWith(5, 2, "", "a1", ""), threeWith(5, 2, "", "", ""), "a", true},
		{"one of Freq 3", threeWith(5, 2, "", "a3", ""), threeWith(5, 2, "", "", ""), "a", true},
		{"the first goes at once", threeWith(5, 2, "d2", "a0 b0 c3", "x"), threeWith(5, 2, "d2", "b0 c3", "x"), "a", true},
		{"one comes round", threeWith(5, 2, "d2", "a1 b0 c3", ""), threeWith(5, 2, "d2", "c3 a0", ""), "b", true},
		{"the last one goes", threeWith(5, 2, "", "a3 b2 c1 d0", ""), threeWith(5, 2, "", "a2 b1 c0", ""), "d", true},
		{"all have Freq 1", threeWith(5, 2, "", "a1 b1 c1", ""), threeWith(5, 2, "", "b0 c0", ""), "a", true},
		{"all have Freq 3", threeWith(5, 2, "", "a3 b3 c3", ""), threeWith(5, 2, "", "b0 c0", ""), "a", true},
		{"the least Freq is 1", threeWith(5, 2, "", "a2 b1 c3", ""), threeWith(5, 2, "", "c2 a0", ""), "b", true},
		{"the least Freq is 2, the last", threeWith(5, 2, "", "a3 b3 c2", ""), threeWith(5, 2, "", "a0 b0", ""), "c", true},
		{"the first of two with the least", threeWith(6, 2, "", "a3 b1 c2 d1 e3", ""), threeWith(6, 2, "", "c1 d0 e2 a1", ""), "b", true},
		{"no ghost is made", threeWith(5, 2, "d0", "a0", ""), threeWith(5, 2, "d0", "", ""), "a", true},
		{"its ghost stays", threeWith(5, 2, "d0", "a0", "a x"), threeWith(5, 2, "d0", "", "a x"), "a", true},
		{"Cap of 1", threeWith(1, 1, "", "a2", "x"), threeWith(1, 1, "", "", "x"), "a", true},
		{"it isn't right", threeWith(5, 2, "", "a0 a0", ""), impl.Three{}, "", false},
		{"it isn't right, and Main is empty", threeWith(5, 6, "a0", "", ""), impl.Three{}, "", false},
	} {
		x.try(t, evictMainDeed())
	}
}

func TestEvict(t *testing.T) {
	for _, x := range []evictCase{
		{"both are empty", threeWith(5, 2, "", "", "x"), threeWith(5, 2, "", "", "x"), "", false},
		{"Small has Most less 1", threeWith(5, 2, "a0", "b0 c0", "x"), threeWith(5, 2, "a0", "c0", "x"), "b", true},
		{"Small has Most", threeWith(5, 2, "a0 d0", "b0 c0", "x"), threeWith(5, 2, "d0", "b0 c0", "x a"), "a", true},
		{"Small has more than Most", threeWith(5, 2, "a0 d0 e0", "b0 c0", "x"), threeWith(5, 2, "d0 e0", "b0 c0", "x a"), "a", true},
		{"Small has none", threeWith(5, 2, "", "b0 c0", "x"), threeWith(5, 2, "", "c0", "x"), "b", true},
		{"Main is empty, Small has Most less 1", threeWith(5, 2, "a0", "", "x"), threeWith(5, 2, "", "", "x a"), "a", true},
		{"Main is empty, Small has more than Most", threeWith(5, 2, "a0 b0 c0", "", ""), threeWith(5, 2, "b0 c0", "", "a"), "a", true},
		{"Small has Most, the first is spared", threeWith(5, 2, "a2 d0", "b0 c0", ""), threeWith(5, 2, "", "b0 c0 a0", "d"), "d", true},
		{"Small has Most, all are spared", threeWith(5, 2, "a2 d3", "b1 c0", "x"), threeWith(5, 2, "", "a0 d0 b0", "x"), "c", true},
		{"all are spared, the first of Main goes", threeWith(5, 2, "a2 d3", "b0 c0", ""), threeWith(5, 2, "", "c0 a0 d0", ""), "b", true},
		{"all are spared, one of those goes", threeWith(5, 2, "a2 d3", "b2 c1", ""), threeWith(5, 2, "", "d0 b1 c0", ""), "a", true},
		{"Main is empty, all are spared", threeWith(5, 2, "a2 d3", "", ""), threeWith(5, 2, "", "d0", ""), "a", true},
		{"Main is empty, the one is spared", threeWith(5, 2, "a3", "", "x"), threeWith(5, 2, "", "", "x"), "a", true},
		{"Cap of 1, in Small", threeWith(1, 1, "a0", "", "x"), threeWith(1, 1, "", "", "a"), "a", true},
		{"Cap of 1, in Small, asked for twice", threeWith(1, 1, "a2", "", "x"), threeWith(1, 1, "", "", "x"), "a", true},
		{"Cap of 1, in Main", threeWith(1, 1, "", "a1", "x"), threeWith(1, 1, "", "", "x"), "a", true},
		{"Most is Cap, Small has one less", threeWith(3, 3, "a0 b0", "c3", ""), threeWith(3, 3, "a0 b0", "", ""), "c", true},
		{"it isn't right", threeWith(5, 2, "a0 b0", "a0", ""), impl.Three{}, "", false},
		{"it isn't right, by Most alone", threeWith(5, 0, "a0", "b0", ""), impl.Three{}, "", false},
		{"it isn't right, by Cap alone", threeWith(61, 2, "a0", "b0", ""), impl.Three{}, "", false},
	} {
		x.try(t, evictDeed())
	}
}

// putCase: what Put of a key with the value new answers; gone are the keys, with blanks between.
type putCase struct {
	what string
	c    impl.Three
	key  string
	want impl.Three
	gone string
}

// anew gives the item of a key the value new.
func anew(c impl.Three, key string) impl.Three {
	for _, q := range [][]impl.Item{c.Small, c.Main} {
		for i, x := range q {
			if x.Key == key {
				q[i].Val = "new"
			}
		}
	}
	return c
}

func TestPut(t *testing.T) {
	for _, x := range []putCase{
		{"into an empty one", threeWith(3, 1, "", "", ""), "a", threeWith(3, 1, "a0", "", ""), ""},
		{"in Small, Freq 0", threeWith(3, 1, "a0 b0", "c0", "x"), "a", threeWith(3, 1, "a1 b0", "c0", "x"), ""},
		{"in Small, Freq 2", threeWith(3, 1, "a0 b2", "c0", "x"), "b", threeWith(3, 1, "a0 b3", "c0", "x"), ""},
		{"in Small, Freq 3", threeWith(3, 1, "a0 b3", "c0", "x"), "b", threeWith(3, 1, "a0 b3", "c0", "x"), ""},
		{"in Main, Freq 0", threeWith(3, 1, "a0 b0", "c0", "x"), "c", threeWith(3, 1, "a0 b0", "c1", "x"), ""},
		{"in Main, Freq 1", threeWith(4, 1, "a0 b0", "c1 d1", "x"), "d", threeWith(4, 1, "a0 b0", "c1 d2", "x"), ""},
		{"in Main, Freq 3", threeWith(4, 1, "a0 b0", "c3 d1", "x"), "c", threeWith(4, 1, "a0 b0", "c3 d1", "x"), ""},
		{"in Small, its ghost stays", threeWith(4, 1, "a0", "c3", "a x"), "a", threeWith(4, 1, "a1", "c3", "a x"), ""},
		{"in Main, its ghost stays", threeWith(4, 1, "a0", "c2", "c x"), "c", threeWith(4, 1, "a0", "c3", "c x"), ""},
		{"new, with room for two", threeWith(4, 1, "a0", "c3", "x"), "n", threeWith(4, 1, "a0 n0", "c3", "x"), ""},
		{"new, with room for one", threeWith(3, 1, "a0", "c3", "x"), "n", threeWith(3, 1, "a0 n0", "c3", "x"), ""},
		{"new, full, Small has Most", threeWith(3, 1, "a1", "b0 c3", "x"), "n", threeWith(3, 1, "n0", "b0 c3", "x a"), "a"},
		{"new, full, Small has less than Most", threeWith(3, 2, "a1", "b1 c0", "x"), "n", threeWith(3, 2, "a1 n0", "b0", "x"), "c"},
		{"new, full, Main is empty", threeWith(2, 1, "a2 b1", "", ""), "n", threeWith(2, 1, "n0", "a0", "b"), "b"},
		{"new, full, Small is empty", threeWith(2, 1, "", "a0 b3", "x"), "n", threeWith(2, 1, "n0", "b3", "x"), "a"},
		{"new, full, all of Small are spared", threeWith(3, 2, "a2 b3", "c1", ""), "n", threeWith(3, 2, "n0", "b0 c0", ""), "a"},
		{"new, Cap of 1", threeWith(1, 1, "a0", "", "x"), "n", threeWith(1, 1, "n0", "", "a"), "a"},
		{"new, Cap of 1, asked for twice", threeWith(1, 1, "a2", "", "x"), "n", threeWith(1, 1, "n0", "", "x"), "a"},
		{"new, the ghosts are full", threeWith(3, 1, "a0", "b0 c0", "x y"), "n", threeWith(3, 1, "n0", "b0 c0", "y a"), "a"},
		{"a ghost, empty", threeWith(3, 1, "", "", "n"), "n", threeWith(3, 1, "", "n0", ""), ""},
		{"a ghost, with room", threeWith(5, 1, "a0", "c3", "x n y"), "n", threeWith(5, 1, "a0", "c3 n0", "x y"), ""},
		{"a ghost, with room, the first", threeWith(5, 1, "a0", "c3", "n x y"), "n", threeWith(5, 1, "a0", "c3 n0", "x y"), ""},
		{"a ghost, with room, the last", threeWith(5, 1, "a0", "c3", "x y n"), "n", threeWith(5, 1, "a0", "c3 n0", "x y"), ""},
		{"a ghost, full, one goes from Small", threeWith(4, 1, "a0", "b0 c0 d0", "x n"), "n", threeWith(4, 1, "", "b0 c0 d0 n0", "x a"), "a"},
		{"a ghost, full, one goes from Main", threeWith(3, 2, "a0", "b0 c0", "n"), "n", threeWith(3, 2, "a0", "c0 n0", ""), "b"},
		{"a ghost, full, all of Small are spared", threeWith(3, 2, "a2 b2", "c0", "n"), "n", threeWith(3, 2, "", "a0 b0 n0", ""), "c"},
		{"a ghost that goes by that eviction", threeWith(3, 1, "a0", "b0 c0", "n x"), "n", threeWith(3, 1, "n0", "b0 c0", "x a"), "a"},
		{"a ghost that goes by that eviction, room for one", threeWith(3, 2, "a0 b0", "c0", "n"), "n", threeWith(3, 2, "b0 n0", "c0", "a"), "a"},
		{"a ghost that goes by that eviction, Most is Cap", threeWith(2, 2, "a0 b0", "", "n"), "n", threeWith(2, 2, "b0 n0", "", "a"), "a"},
		{"a ghost that stays, since who goes is one too", threeWith(3, 1, "a0", "b0 c0", "n a"), "n", threeWith(3, 1, "", "b0 c0 n0", "a"), "a"},
		{"of the Hash of one who goes by that", threeWith(3, 1, "liquid1", "b0 c0", "x"), "costarring", threeWith(3, 1, "", "b0 c0 costarring0", "x"), "liquid"},
		{"of the Hash of one who stays", threeWith(3, 1, "liquid1", "b0", "x"), "costarring", threeWith(3, 1, "liquid1 costarring0", "b0", "x"), ""},
	} {
		got, gone, ok := impl.Put(x.c, x.key, "new")
		want := anew(x.want, x.key)
		if !sameThree(got, want) || !slices.Equal(gone, strings.Fields(x.gone)) || !ok {
			t.Errorf("%s: Put(%+v, %q) is %+v, %q, %v; want %+v", x.what, x.c, x.key, got, gone, ok, want)
		}
		if said, out, _ := threePutSaid(x.c, x.key, "new"); !sameThree(said, want) || !slices.Equal(gone, out) {
			t.Errorf("%s: Put(%+v, %q) is said to be %+v, %q", x.what, x.c, x.key, said, out)
		}
	}
}

func TestPutOfItemsThatArentRight(t *testing.T) {
	long := strings.Repeat("k", 40)
	for _, c := range []impl.Three{threeWith(3, 1, "a0", "b0", "c"), threeWith(2, 1, "a0", "b0", "c"), threeWith(3, 1, "", "", "")} {
		for _, x := range [][2]string{{"", ""}, {"", "v"}, {" ", ""}, {"\n", ""}, {"a b", "v"}, {"a\n", "v"}, {"\na", "v"}, {" a", "v"}, {"a", " "}, {"a", "\n"}, {"b", "x y"}, {"c", "x\ny"}, {"n", "x "}, {long[:21], ""}, {long, ""}, {"a", long + "k"}, {"n", long + "k"}} {
			if got, gone, ok := impl.Put(c, x[0], x[1]); ok || len(gone) != 0 || !sameThree(got, impl.Three{}) {
				t.Errorf("Put(%+v, %q, %q) is %+v, %q, %v", c, x[0], x[1], got, gone, ok)
			}
		}
		for _, x := range [][2]string{{"a", ""}, {"n", ""}, {long[:20], long}, {"a", long}, {"\xff", "\xc3\x00"}, {"\t", "\u00a0"}, {"a=b", "*"}} {
			if got, _, ok := impl.Put(c, x[0], x[1]); !ok || !impl.ThreeOk(got) {
				t.Errorf("Put(%+v, %q, %q) is %+v, %v", c, x[0], x[1], got, ok)
			} else if _, val, found := impl.Get(got, x[0]); !found || val != x[1] {
				t.Errorf("Put(%+v, %q, %q): Get finds %q, %v", c, x[0], x[1], val, found)
			}
		}
		for _, key := range oddTexts {
			for _, val := range oddTexts {
				threeAsSaid(t, c, []threeDeed{putDeed(key, val), getDeed(key), dropDeed(val)})
			}
		}
	}
}

func TestDrop(t *testing.T) {
	c := threeWith(6, 2, "a0 b3 c1", "d2 e0 f3", "x a d y")
	for _, x := range []struct {
		key   string
		small string
		main  string
	}{
		{"a", "b3 c1", "d2 e0 f3"},
		{"b", "a0 c1", "d2 e0 f3"},
		{"c", "a0 b3", "d2 e0 f3"},
		{"d", "a0 b3 c1", "e0 f3"},
		{"e", "a0 b3 c1", "d2 f3"},
		{"f", "a0 b3 c1", "d2 e0"},
	} {
		got, ok := impl.Drop(c, x.key)
		if want := threeWith(6, 2, x.small, x.main, "x a d y"); !sameThree(got, want) || !ok {
			t.Errorf("Drop(%+v, %q) is %+v, %v", c, x.key, got, ok)
		}
		if again, twice := impl.Drop(got, x.key); !sameThree(again, got) || twice {
			t.Errorf("Drop of %q a second time: %+v, %v", x.key, again, twice)
		}
	}
	for _, key := range append([]string{"x", "y", "g", "A", "va", "a ", "aa"}, oddTexts...) {
		if slices.Contains([]string{"a", "b"}, key) {
			continue
		}
		if got, ok := impl.Drop(c, key); !sameThree(got, c) || ok {
			t.Errorf("Drop(%+v, %q) is %+v, %v", c, key, got, ok)
		}
	}
	if got, ok := impl.Drop(threeWith(1, 1, "a0", "", "b"), "a"); !sameThree(got, threeWith(1, 1, "", "", "b")) || !ok {
		t.Errorf("Drop of the last one: %+v, %v", got, ok)
	}
}

// freqLists: all lists of n Freqs.
func freqLists(n int) [][]int {
	all := shortLists([]int{0, 1, 2, 3}, n)
	return slices.DeleteFunc(all, func(l []int) bool { return len(l) != n })
}

// lettered: items with the keys from the letter first on, and these Freqs.
func lettered(first int, freqs []int) []impl.Item {
	var l []impl.Item
	for i, f := range freqs {
		key := string(rune('a' + first + i))
		l = append(l, impl.Item{Key: key, Val: key + key, Freq: f})
	}
	return l
}

// TestAllSmallThrees: all caches of a Cap of at most 3, but for the names of the keys.
func TestAllSmallThrees(t *testing.T) {
	n := 0
	deeds := threeDeeds("a", "b", "c", "d")
	ghosts := slices.DeleteFunc(shortLists(hashesOf("a b c d"), 2), func(l []int) bool { return len(l) == 2 && l[0] == l[1] })
	for size := 1; size <= 3; size++ {
		for most := 1; most <= size; most++ {
			for items := range size + 1 {
				for _, freqs := range freqLists(items) {
					for small := range items + 1 {
						for _, g := range ghosts {
							c := impl.Three{Cap: size, Most: most, Small: lettered(0, freqs[:small]), Main: lettered(small, freqs[small:]), Ghost: g}
							if len(g) <= ghostsSaid(c) {
								threeAsSaid(t, c, deeds)
								n++
							}
						}
					}
				}
			}
		}
	}
	if n < 5000 {
		t.Errorf("only %d caches", n)
	}
}

// TestGreatThrees: caches of many items, of all Freqs and of one alone, whose queues are turned.
func TestGreatThrees(t *testing.T) {
	for _, size := range []int{5, 30, 59, 60} {
		for _, most := range []int{1, 2, size / 10, size / 2, size - 1, size} {
			for _, small := range []int{0, 1, most - 1, most, most + 1, size - 1, size} {
				if most < 1 || small > size {
					continue
				}
				for freq := range 5 {
					c := impl.Three{Cap: size, Most: most, Small: someQueue("s", small), Main: someQueue("m", size-small)}
					for _, q := range [][]impl.Item{c.Small, c.Main} {
						for i := range q {
							q[i].Freq = []int{q[i].Freq, 1, 2, 3, 1 + (i+1)%3}[freq]
						}
					}
					c.Ghost = append(hashesOf("n s0"), places(7, 7+size)...)[:ghostsSaid(c)]
					threeAsSaid(t, c, threeDeeds("n", "s0", "m0", "m"+strconv.Itoa(size-small-1)))
					c.Ghost = nil
					threeAsSaid(t, c, threeDeeds("n"))
				}
			}
		}
	}
}

// TestEvictMainTillNobodyIsLeft: each one comes round as often as it must.
func TestEvictMainTillNobodyIsLeft(t *testing.T) {
	c := threeWith(6, 1, "s1", "a3 b1 c0 d2 e1", "x")
	for _, want := range []string{"c", "b", "e", "d", "a"} {
		next, key, ok := impl.EvictMain(c)
		if key != want || !ok {
			t.Fatalf("EvictMain(%+v) is %+v, %q, %v", c, next, key, ok)
		}
		c = next
	}
	if next, key, ok := impl.EvictMain(c); ok || key != "" || !sameThree(next, threeWith(6, 1, "s1", "", "x")) {
		t.Errorf("with nobody left: %+v, %q, %v", next, key, ok)
	}
}

func fillItems(l []impl.Item) {
	l = l[:cap(l)]
	for i := range l {
		l[i] = impl.Item{Key: "spoilt", Val: "spoilt", Freq: -77}
	}
}

// threeLists: for each list that a cache has, a call that writes into all of its memory.
func threeLists(c impl.Three) []func() {
	return []func(){
		func() { fillItems(c.Small) },
		func() { fillItems(c.Main) },
		func() { fill(c.Ghost) },
	}
}

// threesWithRoom: caches for which each deed does something, their lists with something behind the ends. In the second all items stand in one row, in the third too, with Main ahead of Small; the fourth is full, and in the last all are spared.
func threesWithRoom() []impl.Three {
	apart := threeWith(6, 2, "a2 b0", "c1 d0", "x n")
	row := queueOf("a2 b0 c1 d0 e3 f3 g3")
	together := impl.Three{Cap: 6, Most: 2, Small: row[:2], Main: row[2:4], Ghost: hashesOf("x n y z")[:2]}
	other := queueOf("c1 d0 a2 b0 e3 f3 g3")
	turned := impl.Three{Cap: 6, Most: 2, Small: other[2:4], Main: other[:2], Ghost: hashesOf("x n y z")[:2]}
	full := threeWith(4, 2, "a2 b0", "c1 d0", "x n")
	spared := threeWith(4, 2, "a2 b3", "c1 d2", "n x")
	for _, c := range []*impl.Three{&apart, &full, &spared} {
		c.Small, c.Main, c.Ghost = withRoom(c.Small), withRoom(c.Main), withRoom(c.Ghost)
	}
	return []impl.Three{apart, together, turned, full, spared}
}

func memoryDeeds() []threeDeed { return threeDeeds("a", "b", "c", "d", "n", "none", "") }

func TestThreesAnswerNewMemory(t *testing.T) {
	for _, d := range memoryDeeds() {
		for i := range threesWithRoom() {
			c := threesWithRoom()[i]
			// The lists are looked at as far as their memory goes, since that behind their ends is the caller's too.
			behind := func() impl.Three {
				return impl.Three{Small: c.Small[:cap(c.Small)], Main: c.Main[:cap(c.Main)], Ghost: c.Ghost[:cap(c.Ghost)]}
			}
			before := cloneThree(behind())
			want, right := d.said(c)
			first, told := d.do(c)
			other, again := d.do(c)
			for _, write := range threeLists(first) {
				write()
			}
			clear(told[:cap(told)])
			if !sameThree(behind(), before) {
				t.Errorf("%s of cache %d: the argument is now %+v", d.what, i, behind())
			}
			if !sameThree(other, want) || !slices.Equal(again, right) {
				t.Errorf("%s of cache %d: two answers share memory, or one is wrong: %+v, %q", d.what, i, other, again)
			}
			for _, write := range threeLists(c) {
				write()
			}
			if !sameThree(other, want) || !slices.Equal(again, right) {
				t.Errorf("%s of cache %d: the answer shares memory with the argument", d.what, i)
			}
		}
	}
}

func TestListsOfThreesShareNothing(t *testing.T) {
	for _, d := range memoryDeeds() {
		for i, c := range threesWithRoom() {
			want, _ := d.said(c)
			for k := range threeLists(want) {
				// The lists of hurt are apart, so there a write into one of them is to be seen in that one alone.
				got, _ := d.do(c)
				hurt := cloneThree(want)
				threeLists(got)[k]()
				threeLists(hurt)[k]()
				if !sameThree(got, hurt) {
					t.Errorf("%s of cache %d: the list %d shares memory with another", d.what, i, k)
				}
			}
		}
	}
}

// threeMove: a deed in a run, what it tells beside the cache, with blanks between, and what the cache is behind it.
type threeMove struct {
	d     threeDeed
	told  string
	small string
	main  string
	ghost string
}

// threeRun does the moves one after the other, from an empty cache on. The values of the items are those that queueOf gives them.
func threeRun(t *testing.T, size int, most int, moves []threeMove) {
	t.Helper()
	c, ok := impl.ThreeNew(size, most)
	if !ok {
		t.Fatalf("ThreeNew(%d, %d) says false", size, most)
	}
	for i, m := range moves {
		got, told := m.d.do(c)
		if want := threeWith(size, most, m.small, m.main, m.ghost); !sameThree(got, want) || strings.Join(told, " ") != m.told {
			t.Fatalf("move %d, %s: %+v, %q; want %+v", i, m.d.what, got, told, want)
		}
		c = got
	}
}

func comes(key string) threeDeed { return putDeed(key, "v"+key) }

func TestARunOfThreeQueues(t *testing.T) {
	threeRun(t, 4, 1, []threeMove{
		{getDeed("a"), " false", "", "", ""},
		{comes("a"), "true", "a0", "", ""},
		{comes("b"), "true", "a0 b0", "", ""},
		{getDeed("a"), "va true", "a1 b0", "", ""},
		{comes("a"), "true", "a2 b0", "", ""},
		{comes("c"), "true", "a2 b0 c0", "", ""},
		{getDeed("c"), "vc true", "a2 b0 c1", "", ""},
		{comes("d"), "true", "a2 b0 c1 d0", "", ""},
		{comes("e"), "b true", "c1 d0 e0", "a0", "b"},
		{comes("b"), "c true", "d0 e0", "a0 b0", "c"},
		{comes("f"), "d true", "e0 f0", "a0 b0", "c d"},
		{getDeed("c"), " false", "e0 f0", "a0 b0", "c d"},
		{comes("g"), "e true", "f0 g0", "a0 b0", "c d e"},
		{comes("h"), "f true", "g0 h0", "a0 b0", "d e f"},
		{comes("c"), "g true", "h0 c0", "a0 b0", "e f g"},
		{comes("f"), "h true", "c0", "a0 b0 f0", "g h"},
		{getDeed("b"), "vb true", "c0", "a0 b1 f0", "g h"},
		{dropDeed("c"), "true", "", "a0 b1 f0", "g h"},
		{dropDeed("c"), "false", "", "a0 b1 f0", "g h"},
		{comes("h"), "true", "", "a0 b1 f0 h0", "g"},
		{comes("i"), "a true", "i0", "b1 f0 h0", "g"},
		{getDeed("i"), "vi true", "i1", "b1 f0 h0", "g"},
		{getDeed("i"), "vi true", "i2", "b1 f0 h0", "g"},
		{comes("j"), "f true", "j0", "h0 i0 b0", "g"},
		{evictMainDeed(), "h true", "j0", "i0 b0", "g"},
		{evictSmallDeed(), "j true", "", "i0 b0", "g j"},
		{evictSmallDeed(), " false", "", "i0 b0", "g j"},
		{evictDeed(), "i true", "", "b0", "g j"},
		{dropDeed("b"), "true", "", "", "g j"},
		{evictMainDeed(), " false", "", "", "g j"},
		{evictDeed(), " false", "", "", "g j"},
		{comes("g"), "true", "", "g0", "j"},
	})
}

// threeStory: a cache with what only who saw the whole run knows: the value that was put last of each key that hasn't gone since, how often it was asked for since it came, and the keys that went from Small and haven't come again, the latest last, as many as may be.
type threeStory struct {
	c      impl.Three
	vals   map[string]string
	asked  map[string]int
	ghosts []string
}

func newThreeStory(t *testing.T, size int, most int) *threeStory {
	t.Helper()
	c, ok := impl.ThreeNew(size, most)
	if !ok {
		t.Fatalf("ThreeNew(%d, %d) says false", size, most)
	}
	return &threeStory{c: c, vals: map[string]string{}, asked: map[string]int{}}
}

func (s *threeStory) copied() *threeStory {
	next := &threeStory{c: s.c, vals: map[string]string{}, asked: map[string]int{}, ghosts: slices.Clone(s.ghosts)}
	for k := range s.vals {
		next.vals[k], next.asked[k] = s.vals[k], s.asked[k]
	}
	return next
}

// done does a deed and holds it against what chapter 11 says; it answers what is told, and whether the deed said true.
func (s *threeStory) done(t *testing.T, d threeDeed) ([]string, bool) {
	t.Helper()
	before := cloneThree(s.c)
	c, told := d.do(s.c)
	if want, right := d.said(s.c); !sameThree(c, want) || !slices.Equal(told, right) {
		t.Fatalf("%s of %+v: %+v, %q", d.what, s.c, c, told)
	}
	if !sameThree(s.c, before) {
		t.Fatalf("%s changed %+v to %+v", d.what, before, s.c)
	}
	s.c = c
	last := len(told) - 1
	return told[:last], told[last] == "true"
}

// goes: the key goes, by the deed that made the cache what it is now.
func (s *threeStory) goes(t *testing.T, key string) {
	t.Helper()
	if _, ok := s.vals[key]; !ok {
		t.Fatalf("%+v: %q goes, which wasn't there", s.c, key)
	}
	// No key of a story has the Hash of another, so only who went from Small can be the last ghost.
	if end := len(s.c.Ghost) - 1; end >= 0 && s.c.Ghost[end] == impl.Hash(key) {
		if s.asked[key] >= 2 {
			t.Fatalf("%+v: %q goes from Small, asked for %d times", s.c, key, s.asked[key])
		}
		s.ghosts = append(s.ghosts, key)
		s.ghosts = s.ghosts[max(0, len(s.ghosts)-ghostsSaid(s.c)):]
	}
	delete(s.vals, key)
	delete(s.asked, key)
}

func (s *threeStory) get(t *testing.T, key string) {
	t.Helper()
	told, ok := s.done(t, getDeed(key))
	if val, there := s.vals[key]; ok != there || told[0] != val {
		t.Fatalf("%+v: Get of %q finds %q, %v; put was %q", s.c, key, told[0], ok, val)
	}
	if ok {
		s.asked[key]++
	}
}

func (s *threeStory) put(t *testing.T, key string, val string) {
	t.Helper()
	full := len(s.vals) == s.c.Cap
	gone, ok := s.done(t, putDeed(key, val))
	if !ok {
		t.Fatalf("%+v: Put of %q says false", s.c, key)
	}
	if _, there := s.vals[key]; there {
		if len(gone) > 0 {
			t.Fatalf("%+v: %q go by a Put of %q, which was there", s.c, gone, key)
		}
		s.vals[key] = val
		s.asked[key]++
		return
	}
	if len(gone) != oneIf(full) {
		t.Fatalf("%+v: %q go by a Put of %q", s.c, gone, key)
	}
	for _, out := range gone {
		s.goes(t, out)
	}
	s.came(t, key)
	s.vals[key], s.asked[key] = val, 0
}

// came: a key that wasn't there was put. To Main comes only who was a ghost still.
func (s *threeStory) came(t *testing.T, key string) {
	t.Helper()
	end := s.c.Small
	if at := slices.Index(s.ghosts, key); at >= 0 {
		s.ghosts = slices.Delete(slices.Clone(s.ghosts), at, at+1)
		end = s.c.Main
	}
	if len(end) == 0 || end[len(end)-1].Key != key || end[len(end)-1].Freq != 0 {
		t.Fatalf("%+v: %q isn't at the end of its queue; ghosts were %q", s.c, key, s.ghosts)
	}
}

func (s *threeStory) drop(t *testing.T, key string) {
	t.Helper()
	_, ok := s.done(t, dropDeed(key))
	if _, there := s.vals[key]; ok != there {
		t.Fatalf("%+v: Drop of %q says %v", s.c, key, ok)
	}
	delete(s.vals, key)
	delete(s.asked, key)
}

func (s *threeStory) evict(t *testing.T, d threeDeed) {
	t.Helper()
	told, ok := s.done(t, d)
	if ok {
		s.goes(t, told[0])
	}
	if d.what == "Evict" && !ok && len(s.vals) > 0 {
		t.Fatalf("%+v: Evict says false", s.c)
	}
}

// look holds the cache against the story.
func (s *threeStory) look(t *testing.T) {
	t.Helper()
	items := slices.Concat(s.c.Small, s.c.Main)
	if !impl.ThreeOk(s.c) || len(items) > s.c.Cap || len(items) != len(s.vals) {
		t.Fatalf("%+v isn't right, or hasn't the keys of %v", s.c, s.vals)
	}
	for _, x := range items {
		if val, ok := s.vals[x.Key]; !ok || x.Val != val || slices.Contains(s.c.Ghost, impl.Hash(x.Key)) {
			t.Fatalf("%+v: the item %+v; put was %q", s.c, x, val)
		}
		if _, val, ok := impl.Get(s.c, x.Key); !ok || val != x.Val {
			t.Fatalf("%+v: Get of %q finds %q, %v", s.c, x.Key, val, ok)
		}
	}
	for _, x := range s.c.Small {
		if x.Freq != min(s.asked[x.Key], 3) {
			t.Fatalf("%+v: %q was asked for %d times", s.c, x.Key, s.asked[x.Key])
		}
	}
	if want := hashesOf(strings.Join(s.ghosts, " ")); !slices.Equal(s.c.Ghost, want) {
		t.Fatalf("%+v: ghosts are %q", s.c, s.ghosts)
	}
}

// nexts: what may come to pass next.
func (s *threeStory) nexts(t *testing.T, keys []string) []*threeStory {
	t.Helper()
	var l []*threeStory
	fork := func() *threeStory {
		l = append(l, s.copied())
		return l[len(l)-1]
	}
	for _, k := range keys {
		fork().get(t, k)
		fork().put(t, k, k+strconv.Itoa(len(s.c.Small)))
		fork().drop(t, k)
	}
	for _, d := range []threeDeed{evictSmallDeed(), evictMainDeed(), evictDeed()} {
		fork().evict(t, d)
	}
	return l
}

func (s *threeStory) tryAllMoves(t *testing.T, keys []string, deep int) int {
	t.Helper()
	s.look(t)
	n := 1
	if deep > 0 {
		for _, next := range s.nexts(t, keys) {
			n += next.tryAllMoves(t, keys, deep-1)
		}
	}
	return n
}

func TestAllOrdersOfMovesOnThrees(t *testing.T) {
	for _, x := range []struct {
		size int
		most int
		keys string
		deep int
	}{
		{1, 1, "a b", 5},
		{2, 1, "a b c", 4},
		{2, 2, "a b c", 4},
		{3, 1, "a b c d", 3},
		{3, 2, "a b c d", 3},
		{2, 1, "a b", 4},
	} {
		if n := newThreeStory(t, x.size, x.most).tryAllMoves(t, strings.Fields(x.keys), x.deep); n < 3000 {
			t.Errorf("Cap %d, Most %d: only %d runs", x.size, x.most, n)
		}
	}
}

// move does one of the moves that there are, by these numbers; askings and puts come most often.
func (s *threeStory) move(t *testing.T, keys int, next func(below int) int) {
	t.Helper()
	// Some keys are asked for more often than others.
	key := "k" + strconv.Itoa([]int{next(keys), next(1 + next(keys)/4)}[next(2)])
	switch pick := next(40); {
	case pick < 18:
		s.get(t, key)
	case pick < 35:
		s.put(t, key, strings.Repeat("v", next(41)))
	case pick < 37:
		s.drop(t, key)
	default:
		s.evict(t, []threeDeed{evictSmallDeed(), evictMainDeed(), evictDeed()}[pick-37])
	}
}

func TestLongRunsOnThrees(t *testing.T) {
	for i, size := range []int{1, 2, 3, 4, 7, 10, 20, 59, 60} {
		for _, most := range []int{1, 1 + size/10, 1 + size/2, size} {
			if most > size {
				continue
			}
			s, next := newThreeStory(t, size, most), storyNumbers(100*i+most)
			ghosts, mains := 0, 0
			for k := range 1000 {
				s.move(t, 2+4*size, next)
				ghosts += oneIf(len(s.c.Ghost) == ghostsSaid(s.c))
				mains += oneIf(len(s.c.Main) > 0)
				// In great caches a look takes long.
				if k%(1+size/3) == 0 {
					s.look(t)
				}
			}
			s.look(t)
			if ghosts == 0 || mains == 0 {
				t.Errorf("Cap %d, Most %d: Ghost was full %d times, Main had somebody %d times", size, most, ghosts, mains)
			}
		}
	}
}

// TestKeysThatComeOnceLeaveMainAsItIs: where Small has Most, it is Small that gives up.
func TestKeysThatComeOnceLeaveMainAsItIs(t *testing.T) {
	for _, most := range []int{1, 2, 5, 9} {
		s := newThreeStory(t, 10, most)
		for i := range 10 {
			s.put(t, "main"+strconv.Itoa(i), "v")
			s.get(t, "main"+strconv.Itoa(i))
			s.get(t, "main"+strconv.Itoa(i))
		}
		s.evict(t, evictSmallDeed())
		for i := range most {
			s.put(t, "small"+strconv.Itoa(i), "v")
		}
		main := s.c.Main
		if len(main) != 10-most || len(s.c.Small) != most {
			t.Fatalf("Most %d: %+v", most, s.c)
		}
		for i := range 100 {
			s.put(t, "once"+strconv.Itoa(i), "v")
			// Asked for a second time it still isn't kept.
			if i%3 == 0 {
				s.get(t, "once"+strconv.Itoa(i))
			}
			s.look(t)
			if !slices.Equal(s.c.Main, main) || len(s.c.Small) != most {
				t.Fatalf("Most %d: Main was %v, and behind %d keys that came once: %+v", most, keysIn(main), i+1, s.c)
			}
		}
	}
}

// TestWhoComesAgainAsAGhost: of the keys that went, those that went lately come to Main, the others to Small.
func TestWhoComesAgainAsAGhost(t *testing.T) {
	for _, most := range []int{1, 4, 9, 10} {
		s := newThreeStory(t, 10, most)
		for i := range 40 {
			s.put(t, "k"+strconv.Itoa(i), "v")
		}
		// From k0 to k29 all went, in that order.
		room := ghostsSaid(s.c)
		again, late := "k"+strconv.Itoa(29-room), "k29"
		s.look(t)
		old := s.copied()
		old.put(t, again, "v")
		if last := old.c.Small[len(old.c.Small)-1]; last.Key != again || len(old.c.Main) > 0 {
			t.Errorf("Most %d: %q comes again, too late to be a ghost: %+v", most, again, old.c)
		}
		s.drop(t, "k35")
		s.put(t, late, "v")
		if len(s.c.Main) != 1 || s.c.Main[0].Key != late || len(s.c.Ghost) != room-1 {
			t.Errorf("Most %d: %q comes again: %+v", most, late, s.c)
		}
		s.look(t)
	}
}
