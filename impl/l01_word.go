package impl

import (
	"math/bits"
	"strconv"
)

const MaxNum = 4294967295
const MaxTag = 1073741823
const MaxIndex = 1048575

const hashStart = 2166136261
const hashFactor = 16777619

func isNumber(n int) bool { return n >= 0 && n <= MaxNum }

func isTag(n int) bool { return n >= 0 && n <= MaxTag }

func isIndex(n int) bool { return n >= 0 && n <= MaxIndex }

func Pack(tag int, index int) (int, bool) {
	if !isTag(tag) || !isIndex(index) {
		return 0, false
	}
	return tag*(MaxIndex+1) + index, true
}

func Unpack(w int) (int, int, bool) {
	tag, index := w/(MaxIndex+1), w%(MaxIndex+1)
	// A w just below 0 has the quotient 0, so it is the sign of the rest that gives it away.
	if !isTag(tag) || !isIndex(index) {
		return 0, 0, false
	}
	return tag, index, true
}

func NextTag(tag int) int {
	if !isTag(tag) || tag == MaxTag {
		return 0
	}
	return tag + 1
}

func Hash(s string) int {
	// The product stays below 2 to the power of 57, so an int has room for it.
	h := hashStart
	for _, b := range []byte(s) {
		h = (h ^ int(b)) * hashFactor % (MaxNum + 1)
	}
	return h
}

func Flip(n int) int {
	if !isNumber(n) {
		return 0
	}
	return int(bits.Reverse32(uint32(n)))
}

func OrderKey(hash int) int {
	// Flip alone would not do: its 0 for what is no number would get the bit set.
	if !isNumber(hash) {
		return 0
	}
	return Flip(hash) | 1
}

func DummyKey(bucket int) int { return Flip(bucket) &^ 1 }

func Bucket(hash int, size int) int {
	if !isNumber(hash) || !isNumber(size) || size == 0 {
		return 0
	}
	return hash % size
}

func Parent(bucket int) int {
	if !isNumber(bucket) || bucket == 0 {
		return 0
	}
	return bucket - 1<<(bits.Len32(uint32(bucket))-1)
}

func NumText(n int) string {
	if !isNumber(n) {
		return ""
	}
	return strconv.Itoa(n)
}

func TextNum(s string) (int, bool) {
	if s == "" || s[0] == '0' && s != "0" {
		return 0, false
	}
	n := 0
	for _, r := range s {
		if r < '0' || r > '9' {
			return 0, false
		}
		n = 10*n + int(r-'0')
		// Asked at every digit, so that a long text can't wrap around to a number.
		if n > MaxNum {
			return 0, false
		}
	}
	return n, true
}

// cutAt takes runes for bytes: that is sound for a mark below 128, which is never a part of another rune.
func cutAt(s string, mark rune) []string {
	var parts []string
	from := 0
	for i, r := range s {
		if r == mark {
			parts = append(parts, s[from:i])
			from = i + 1
		}
	}
	return append(parts, s[from:])
}

func Cut(s string) []string { return cutAt(s, ' ') }

func Lines(s string) []string {
	lines := cutAt(s, '\n')
	last := len(lines) - 1
	if lines[last] == "" {
		return lines[:last]
	}
	return lines
}

func Mod(n int, m int) int {
	if m < 1 {
		return 0
	}
	r := n % m
	if r < 0 {
		return r + m
	}
	return r
}
