package tests

import (
	"hash/fnv"
	"math"
	"slices"
	"strconv"
	"strings"
	"testing"

	"loop.example/g00724/impl"
)

// noNumbers: ints on both sides of the numbers, from the next one to the farthest.
var noNumbers = []int{-1, -2, -6, -4294967296, math.MinInt + 1, math.MinInt, 4294967296, 4294967297, 4294967302, 1 << 40, math.MaxInt - 1, math.MaxInt}

// someNumbers: numbers at both ends, around each power of two, and some that lie in between.
func someNumbers() []int {
	l := []int{0, 10, 99, 100, 123456789, 305419896, 2863311530, 1431655765, 4294967294}
	for k := range 32 {
		l = append(l, 1<<k, 1<<k+1, 1<<(k+1)-1)
	}
	n := 7
	for range 300 {
		n = (n*1103515245 + 12345) % 4294967296
		l = append(l, n, n>>9, n>>20)
	}
	return slices.DeleteFunc(l, func(n int) bool { return n > 4294967295 })
}

func TestWordConstants(t *testing.T) {
	if impl.MaxNum != 4294967295 || impl.MaxTag != 1073741823 || impl.MaxIndex != 1048575 {
		t.Errorf("MaxNum %d, MaxTag %d, MaxIndex %d", impl.MaxNum, impl.MaxTag, impl.MaxIndex)
	}
}

func TestPack(t *testing.T) {
	for _, x := range []struct{ tag, index, word int }{
		{0, 0, 0},
		{0, 1, 1},
		{1, 0, 1048576},
		{3, 5, 3145733},
		{0, 1048575, 1048575},
		{1, 1048575, 2097151},
		{1073741823, 0, 1125899905794048},
		{1073741822, 1048575, 1125899905794047},
		{1073741823, 1048575, 1125899906842623},
	} {
		if w, ok := impl.Pack(x.tag, x.index); w != x.word || !ok {
			t.Errorf("Pack(%d, %d) = %d, %v, want %d, true", x.tag, x.index, w, ok, x.word)
		}
		if tag, index, ok := impl.Unpack(x.word); tag != x.tag || index != x.index || !ok {
			t.Errorf("Unpack(%d) = %d, %d, %v, want %d, %d, true", x.word, tag, index, ok, x.tag, x.index)
		}
	}
}

func TestPackRefuses(t *testing.T) {
	tags := []int{-1, -1073741824, math.MinInt, 1073741824, 1 << 43, 1 << 44, 1<<44 + 1, math.MaxInt}
	for _, tag := range tags {
		for _, index := range []int{0, 5, 1048575} {
			if w, ok := impl.Pack(tag, index); w != 0 || ok {
				t.Errorf("Pack(%d, %d) = %d, %v, want 0, false", tag, index, w, ok)
			}
		}
	}
	for _, index := range []int{-1, -1048576, math.MinInt, 1048576, 1048577, 1 << 40, math.MaxInt} {
		for _, tag := range append([]int{0, 1, 1073741823}, tags...) {
			if w, ok := impl.Pack(tag, index); w != 0 || ok {
				t.Errorf("Pack(%d, %d) = %d, %v, want 0, false", tag, index, w, ok)
			}
		}
	}
}

func TestUnpackRefuses(t *testing.T) {
	for _, w := range []int{-1, -2, -1048575, -1048576, -1048577, -3145733, math.MinInt, math.MinInt + 1, 1125899906842624, 1125899906842625, 1125899907891200, 1 << 60, math.MaxInt} {
		if tag, index, ok := impl.Unpack(w); tag != 0 || index != 0 || ok {
			t.Errorf("Unpack(%d) = %d, %d, %v, want 0, 0, false", w, tag, index, ok)
		}
	}
}

func TestUnpackTakesApartWhatPackMakes(t *testing.T) {
	for _, n := range someNumbers() {
		for _, index := range []int{0, 1, n % 1048576, 1048574, 1048575} {
			tag := n % 1073741824
			w, ok := impl.Pack(tag, index)
			if !ok || w < 0 {
				t.Fatalf("Pack(%d, %d) = %d, %v", tag, index, w, ok)
			}
			if a, b, ok := impl.Unpack(w); a != tag || b != index || !ok {
				t.Fatalf("Unpack(%d) = %d, %d, %v, want %d, %d, true", w, a, b, ok, tag, index)
			}
		}
	}
}

func TestPackMakesAnewWhatUnpackTookApart(t *testing.T) {
	for _, n := range someNumbers() {
		for _, w := range []int{n, n * 262144, n*262144 + n%262144} {
			tag, index, ok := impl.Unpack(w)
			if !ok {
				t.Fatalf("Unpack(%d) says false", w)
			}
			if again, ok := impl.Pack(tag, index); again != w || !ok {
				t.Fatalf("Pack(%d, %d) = %d, %v, want %d, true", tag, index, again, ok, w)
			}
		}
	}
}

func TestNextTag(t *testing.T) {
	for _, x := range []struct{ tag, next int }{
		{0, 1}, {1, 2}, {7, 8}, {1048575, 1048576}, {1073741821, 1073741822}, {1073741822, 1073741823},
		{1073741823, 0},
		{-1, 0}, {-2, 0}, {-1073741824, 0}, {math.MinInt, 0},
		{1073741824, 0}, {1073741825, 0}, {4294967295, 0}, {math.MaxInt, 0},
	} {
		if got := impl.NextTag(x.tag); got != x.next {
			t.Errorf("NextTag(%d) = %d, want %d", x.tag, got, x.next)
		}
	}
}

// oddTexts: the empty one, bytes above 127, bytes that are no UTF-8, blanks and bytes 10 in all places.
var oddTexts = []string{
	"", "a", "b", "ab", "ba", "foobar", " ", "  ", "\n", "\n\n", " a", "a ", "\na", "a\n", "a b", "a  b", "a\nb", "a\n\nb", " \n \n",
	"\x00", "\x00\x00", "a\x00", "\x7f", "\x80", "\xff", "\xff\xff", "\xc3", "\xc3 ", "\xc3\n", "\xe2\x82", "\xe2\x82 x\n", "\xe2 \x82\n\xac", "\xed\xa0\x80", "\xf0\x9f \x98\n\x80",
	"é", "é ü", "é\nü", "€", "😀 😀\n😀", "\ufffd", "\u00a0", "a\u00a0b", "a\u2028b", "a\u2029b", "a\u0085b", "a\u3000b", "\u0120\u0a0a\u200a\u010a",
	"\t", "a\tb", "a\r\nb", "a\vb\fc", "x y\nz  w\n\nv \n u", "new 10 2\nput a b\nget a\n",
}

func TestHash(t *testing.T) {
	for _, x := range []struct {
		s string
		h int
	}{
		{"", 2166136261},
		{"a", 3826002220},
		{"b", 3876335077},
		{"foobar", 3214735720},
		{"\x00", 84696351},
	} {
		if got := impl.Hash(x.s); got != x.h {
			t.Errorf("Hash(%q) = %d, want %d", x.s, got, x.h)
		}
	}
}

func TestHashGoesByteByByte(t *testing.T) {
	l := append([]string{strings.Repeat("long ", 2000)}, oddTexts...)
	for b := range 256 {
		l = append(l, string([]byte{byte(b)}), string([]byte{'k', byte(b), 'z'}))
	}
	for _, s := range l {
		f := fnv.New32a()
		f.Write([]byte(s))
		if got := impl.Hash(s); got != int(f.Sum32()) {
			t.Errorf("Hash(%q) = %d, want %d", s, got, f.Sum32())
		}
	}
}

// turned is Flip worked out on the 32 binary digits.
func turned(n int) int {
	digits := []byte(strconv.FormatInt(1<<32|int64(n), 2)[1:])
	slices.Reverse(digits)
	m, _ := strconv.ParseInt(string(digits), 2, 64)
	return int(m)
}

func TestFlip(t *testing.T) {
	for _, x := range []struct{ n, flipped int }{
		{0, 0}, {1, 2147483648}, {2, 1073741824}, {6, 1610612736}, {2147483648, 1}, {65536, 32768}, {4294967295, 4294967295}, {4294967294, 2147483647},
	} {
		if got := impl.Flip(x.n); got != x.flipped {
			t.Errorf("Flip(%d) = %d, want %d", x.n, got, x.flipped)
		}
	}
	for _, n := range someNumbers() {
		if got := impl.Flip(n); got != turned(n) {
			t.Errorf("Flip(%d) = %d, want %d", n, got, turned(n))
		}
		if got := impl.Flip(impl.Flip(n)); got != n {
			t.Errorf("Flip twice of %d = %d", n, got)
		}
	}
}

func TestOrderKeyAndDummyKey(t *testing.T) {
	for _, x := range []struct{ n, order, dummy int }{
		{0, 1, 0},
		{1, 2147483649, 2147483648},
		{2, 1073741825, 1073741824},
		{3, 3221225473, 3221225472},
		{2147483648, 1, 0},
		{2147483649, 2147483649, 2147483648},
		{4294967295, 4294967295, 4294967294},
	} {
		if got := impl.OrderKey(x.n); got != x.order {
			t.Errorf("OrderKey(%d) = %d, want %d", x.n, got, x.order)
		}
		if got := impl.DummyKey(x.n); got != x.dummy {
			t.Errorf("DummyKey(%d) = %d, want %d", x.n, got, x.dummy)
		}
	}
	for _, n := range someNumbers() {
		even := turned(n) / 2 * 2
		if got := impl.OrderKey(n); got != even+1 {
			t.Errorf("OrderKey(%d) = %d, want %d", n, got, even+1)
		}
		if got := impl.DummyKey(n); got != even {
			t.Errorf("DummyKey(%d) = %d, want %d", n, got, even)
		}
	}
}

func TestNoNumberIsTurned(t *testing.T) {
	for _, n := range noNumbers {
		if a, b, c := impl.Flip(n), impl.OrderKey(n), impl.DummyKey(n); a != 0 || b != 0 || c != 0 {
			t.Errorf("of %d: Flip %d, OrderKey %d, DummyKey %d, want 0", n, a, b, c)
		}
	}
}

func TestBucket(t *testing.T) {
	for _, x := range []struct{ hash, size, bucket int }{
		{13, 8, 5}, {8, 8, 0}, {7, 8, 7}, {0, 8, 0}, {13, 1, 0}, {13, 2, 1}, {100, 7, 2},
		{4294967295, 64, 63},
		{4294967295, 4294967295, 0},
		{4294967294, 4294967295, 4294967294},
		{4294967295, 4294967294, 1},
	} {
		if got := impl.Bucket(x.hash, x.size); got != x.bucket {
			t.Errorf("Bucket(%d, %d) = %d, want %d", x.hash, x.size, got, x.bucket)
		}
	}
	for _, n := range noNumbers {
		for _, other := range []int{5, 7, 13, 1000, 4294967295} {
			if got := impl.Bucket(n, other); got != 0 {
				t.Errorf("Bucket(%d, %d) = %d, want 0", n, other, got)
			}
			if got := impl.Bucket(other, n); got != 0 {
				t.Errorf("Bucket(%d, %d) = %d, want 0", other, n, got)
			}
		}
		if a, b := impl.Bucket(n, 0), impl.Bucket(n, n); a != 0 || b != 0 {
			t.Errorf("Bucket of %d and 0: %d, of it and itself: %d, want 0", n, a, b)
		}
	}
	if a, b := impl.Bucket(13, 0), impl.Bucket(0, 0); a != 0 || b != 0 {
		t.Errorf("Bucket of size 0: %d, %d, want 0", a, b)
	}
}

func TestParent(t *testing.T) {
	for _, x := range []struct{ bucket, parent int }{
		{0, 0}, {1, 0}, {2, 0}, {3, 1}, {4, 0}, {5, 1}, {6, 2}, {7, 3}, {12, 4}, {63, 31},
		{2147483647, 1073741823}, {2147483648, 0}, {2147483649, 1}, {4294967295, 2147483647},
	} {
		if got := impl.Parent(x.bucket); got != x.parent {
			t.Errorf("Parent(%d) = %d, want %d", x.bucket, got, x.parent)
		}
	}
	for _, n := range someNumbers() {
		if n == 0 {
			continue
		}
		rest := "0" + strconv.FormatInt(int64(n), 2)[1:]
		if want, _ := strconv.ParseInt(rest, 2, 64); impl.Parent(n) != int(want) {
			t.Errorf("Parent(%d) = %d, want %d", n, impl.Parent(n), want)
		}
	}
	for _, n := range noNumbers {
		if got := impl.Parent(n); got != 0 {
			t.Errorf("Parent(%d) = %d, want 0", n, got)
		}
	}
}

func TestNumText(t *testing.T) {
	for _, x := range []struct {
		n int
		s string
	}{
		{0, "0"}, {1, "1"}, {9, "9"}, {10, "10"}, {100, "100"}, {907, "907"}, {1000000000, "1000000000"}, {4294967294, "4294967294"}, {4294967295, "4294967295"},
	} {
		if got := impl.NumText(x.n); got != x.s {
			t.Errorf("NumText(%d) = %q, want %q", x.n, got, x.s)
		}
		if n, ok := impl.TextNum(x.s); n != x.n || !ok {
			t.Errorf("TextNum(%q) = %d, %v, want %d, true", x.s, n, ok, x.n)
		}
	}
	for _, n := range noNumbers {
		if got := impl.NumText(n); got != "" {
			t.Errorf("NumText(%d) = %q, want nothing", n, got)
		}
	}
}

func TestTextNumReadsWhatNumTextWrites(t *testing.T) {
	for _, n := range someNumbers() {
		s := impl.NumText(n)
		if s != strconv.Itoa(n) {
			t.Errorf("NumText(%d) = %q", n, s)
		}
		if got, ok := impl.TextNum(s); got != n || !ok {
			t.Errorf("TextNum(%q) = %d, %v, want %d, true", s, got, ok, n)
		}
	}
}

func TestTextNumRefuses(t *testing.T) {
	for _, s := range []string{
		"", "00", "01", "007", "04294967295", strings.Repeat("0", 40), strings.Repeat("0", 40) + "1",
		"+1", "-1", "+0", "-0", "+", "-", "1-", "1+1",
		" ", " 1", "1 ", "1 2", "\n", "\n1", "1\n", "\t1", "1\r", "1\x00", "\x00", "0 ", " 0", "0\n",
		"4294967296", "4294967297", "4294967300", "9999999999", "10000000000", "42949672950", "42949672959",
		"9223372036854775807", "9223372036854775808", "18446744073709551615", "18446744073709551616", "18446744073709551617", "18446744073709551623",
		"340282366920938463463374607431768211456", "340282366920938463463374607431768211457", strings.Repeat("9", 5000), "1" + strings.Repeat("0", 64), "1" + strings.Repeat("0", 5000),
		"/", ":", "1/", "1:", "a", "1a", "a1", "0x1", "0b1", "0o7", "1e3", "1.0", "1.", ".1", "1,000", "1_000", "nine", "0a",
		"\xff", "1\xff", "\xff1", "\xb1", "1\xb1", "\xc3", "1\xc3", "\xe2\x82", "\ufffd", "1\ufffd",
		"é", "1é", "é1", "٣", "1٣", "１", "1１", "²", "1²", "\u0131", "1\u0131", "\u0130", "\u0a30", "1\u00a0", "\U00010031", "𝟏",
	} {
		if n, ok := impl.TextNum(s); n != 0 || ok {
			t.Errorf("TextNum(%q) = %d, %v, want 0, false", s, n, ok)
		}
	}
	for b := range 256 {
		s := string([]byte{byte(b)})
		n, ok := impl.TextNum(s)
		if b >= '0' && b <= '9' {
			if n != b-'0' || !ok {
				t.Errorf("TextNum(%q) = %d, %v", s, n, ok)
			}
		} else if n != 0 || ok {
			t.Errorf("TextNum(%q) = %d, %v, want 0, false", s, n, ok)
		}
	}
}

func TestCut(t *testing.T) {
	for _, x := range []struct {
		s    string
		want []string
	}{
		{"", []string{""}},
		{"a", []string{"a"}},
		{" ", []string{"", ""}},
		{"   ", []string{"", "", "", ""}},
		{"a b", []string{"a", "b"}},
		{"put key val", []string{"put", "key", "val"}},
		{" a", []string{"", "a"}},
		{"a ", []string{"a", ""}},
		{"  a", []string{"", "", "a"}},
		{"a  ", []string{"a", "", ""}},
		{"a  b", []string{"a", "", "b"}},
		{" a   b ", []string{"", "a", "", "", "b", ""}},
		{"a\nb c", []string{"a\nb", "c"}},
		{"\n", []string{"\n"}},
		{"a\tb\rc\vd\fe\x00f", []string{"a\tb\rc\vd\fe\x00f"}},
		{"a\u00a0b\u3000c\u0120d", []string{"a\u00a0b\u3000c\u0120d"}},
		{"é ü €", []string{"é", "ü", "€"}},
		{"\xff \xfe", []string{"\xff", "\xfe"}},
		{"\xc3 \xe2\x82 x", []string{"\xc3", "\xe2\x82", "x"}},
	} {
		if got := impl.Cut(x.s); !slices.Equal(got, x.want) {
			t.Errorf("Cut(%q) = %q, want %q", x.s, got, x.want)
		}
	}
}

func TestCutAtEveryBlank(t *testing.T) {
	for _, s := range oddTexts {
		got := impl.Cut(s)
		if len(got) != strings.Count(s, " ")+1 || strings.Join(got, " ") != s {
			t.Errorf("Cut(%q) = %q", s, got)
		}
		if slices.ContainsFunc(got, func(p string) bool { return strings.Contains(p, " ") }) {
			t.Errorf("Cut(%q) = %q: a part with a blank", s, got)
		}
	}
}

func TestLines(t *testing.T) {
	for _, x := range []struct {
		s    string
		want []string
	}{
		{"", nil},
		{"a", []string{"a"}},
		{"\n", []string{""}},
		{"\n\n\n", []string{"", "", ""}},
		{"a\n", []string{"a"}},
		{"a\nb", []string{"a", "b"}},
		{"a\nb\n", []string{"a", "b"}},
		{"\na", []string{"", "a"}},
		{"\n\na\n", []string{"", "", "a"}},
		{"a\n\n", []string{"a", ""}},
		{"a\n\nb", []string{"a", "", "b"}},
		{"a\n\n\nb\n\n", []string{"a", "", "", "b", ""}},
		{" \n", []string{" "}},
		{"\n ", []string{"", " "}},
		{"a b\n c ", []string{"a b", " c "}},
		{"a\r\nb\r", []string{"a\r", "b\r"}},
		{"a\u2028b\u0085c\u010ad\ve\ff", []string{"a\u2028b\u0085c\u010ad\ve\ff"}},
		{"é\nü\n€", []string{"é", "ü", "€"}},
		{"\xff\n\xfe\n", []string{"\xff", "\xfe"}},
		{"\xc3\n\xe2\x82\nx", []string{"\xc3", "\xe2\x82", "x"}},
		{"\x00\n\x00", []string{"\x00", "\x00"}},
	} {
		if got := impl.Lines(x.s); !slices.Equal(got, x.want) {
			t.Errorf("Lines(%q) = %q, want %q", x.s, got, x.want)
		}
	}
}

func TestLinesBehindEveryByteTen(t *testing.T) {
	for _, s := range oddTexts {
		want := strings.SplitAfter(s, "\n")
		want = slices.DeleteFunc(want, func(p string) bool { return p == "" })
		for i, p := range want {
			want[i] = strings.TrimSuffix(p, "\n")
		}
		if got := impl.Lines(s); !slices.Equal(got, want) {
			t.Errorf("Lines(%q) = %q, want %q", s, got, want)
		}
	}
}

func TestPartsAreNewMemory(t *testing.T) {
	for _, f := range []func(string) []string{impl.Cut, impl.Lines} {
		for _, s := range oddTexts {
			first, second := f(s), f(s)
			kept := slices.Clone(first)
			first = first[:cap(first)]
			for i := range first {
				first[i] = "spoilt"
			}
			if !slices.Equal(second, kept) {
				t.Errorf("of %q: two answers share memory", s)
			}
			if third := f(s); !slices.Equal(third, kept) {
				t.Errorf("of %q: %q at first, then %q", s, kept, third)
			}
		}
	}
}

func TestMod(t *testing.T) {
	for _, x := range []struct{ n, m, want int }{
		{0, 5, 0}, {3, 5, 3}, {5, 5, 0}, {13, 5, 3}, {-1, 5, 4}, {-5, 5, 0}, {-6, 5, 4}, {-13, 5, 2},
		{7, 1, 0}, {-7, 1, 0}, {0, 1, 0}, {4, 5, 4}, {-4, 5, 1},
		{math.MaxInt, 1, 0}, {math.MinInt, 1, 0},
		{math.MaxInt, 2, 1}, {math.MinInt, 2, 0}, {math.MinInt, 3, 1}, {math.MaxInt, 10, 7}, {math.MinInt, 10, 2},
		{math.MaxInt, math.MaxInt, 0}, {math.MinInt, math.MaxInt, math.MaxInt - 1}, {math.MinInt + 1, math.MaxInt, 0},
		{-1, math.MaxInt, math.MaxInt - 1}, {math.MaxInt - 1, math.MaxInt, math.MaxInt - 1},
		{4294967296, 4294967296, 0}, {-4294967297, 4294967296, 4294967295},
	} {
		if got := impl.Mod(x.n, x.m); got != x.want {
			t.Errorf("Mod(%d, %d) = %d, want %d", x.n, x.m, got, x.want)
		}
	}
	for _, n := range []int{0, 1, 7, -1, -7, math.MaxInt, math.MinInt} {
		for _, m := range []int{0, -1, -2, -5, -1000, math.MinInt + 1, math.MinInt} {
			if got := impl.Mod(n, m); got != 0 {
				t.Errorf("Mod(%d, %d) = %d, want 0", n, m, got)
			}
		}
	}
}

func TestModSmall(t *testing.T) {
	for m := 1; m <= 20; m++ {
		want := 0
		for n := -20 * m; n <= 20*m; n++ {
			if got := impl.Mod(n, m); got != want {
				t.Fatalf("Mod(%d, %d) = %d, want %d", n, m, got, want)
			}
			want++
			if want == m {
				want = 0
			}
		}
	}
}
