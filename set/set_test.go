package set_test

import (
	"math"
	"math/big"
	"slices"
	"testing"

	"gerund/set"
)

const all = 1<<32 - 1

// wrongs are numbers that no set has, some of which are small ones in their lowest bits.
func wrongs() []int {
	l := []int{-1, -2, -31, -32, -33, -64, 32, 33, 62, 63, 64, 65, 95, 96, 127, 128, 255, 256, 257, 1000, math.MinInt, math.MinInt + 1, math.MaxInt, math.MaxInt - 1}
	for bit := 6; bit < 63; bit++ {
		l = append(l, 1<<bit, 1<<bit+1, 1<<bit+31, -1<<bit, -1<<bit+1, -1<<bit+31, -1<<bit-1)
	}
	return l
}

// upTo is the numbers from 0 on below n.
func upTo(n int) []int {
	var l []int
	for i := range n {
		l = append(l, i)
	}
	return l
}

// members is a set's numbers, by other means: by halves.
func members(s uint32) []int {
	var l []int
	for n := 0; s > 0; n++ {
		if s%2 == 1 {
			l = append(l, n)
		}
		s /= 2
	}
	return l
}

// setOf is the set of some numbers, by other means: a sum of powers, each of them once.
func setOf(l []int) uint32 {
	sum := new(big.Int)
	for n := range 32 {
		if slices.Contains(l, n) {
			sum.Add(sum, new(big.Int).Exp(big.NewInt(2), big.NewInt(int64(n)), nil))
		}
	}
	return uint32(sum.Uint64())
}

// sets are none, all, those of one and of two numbers, all but these, those below and from a number on, and many others.
func sets() []uint32 {
	l := []uint32{0, all, 0x55555555, 0xaaaaaaaa, 0x0000ffff, 0xffff0000, 0x0f0f0f0f, 0x80000001, 0x7ffffffe}
	for i := range 32 {
		one := uint32(1) << i
		l = append(l, one-1, all-(one-1))
		for j := range i + 1 {
			two := one | 1<<j
			l = append(l, two, all-two)
		}
	}
	word := uint32(1)
	for range 5000 {
		word = word*1664525 + 1013904223
		l = append(l, word^word>>15)
	}
	for s := range uint32(1 << 12) {
		l = append(l, s, s<<10, s<<20)
	}
	return l
}

// P3.1: the numbers of a list, in whatever order, however often.
func TestOf(t *testing.T) {
	for _, x := range []struct {
		l []int
		s uint32
	}{
		{[]int{4, 1, 4}, 18},
		{nil, 0},
		{[]int{}, 0},
		{[]int{0}, 1},
		{[]int{31}, 1 << 31},
		{[]int{31, 0}, 1<<31 + 1},
		{[]int{0, 31}, 1<<31 + 1},
		{[]int{0, 0, 0}, 1},
		{[]int{31, 31}, 1 << 31},
		{[]int{5, 3, 30, 3, 5, 3}, 1<<30 + 40},
		{upTo(32), all},
		{append(upTo(32), upTo(32)...), all},
		{upTo(31), all - 1<<31},
		{upTo(32)[1:], all - 1},
	} {
		if s := set.Of(x.l); s != x.s {
			t.Error(x.l, s, "not", x.s)
		}
		backward := slices.Clone(x.l)
		slices.Reverse(backward)
		if s := set.Of(backward); s != x.s {
			t.Error(backward, s, "not", x.s)
		}
	}
}

// P3.1: each number by itself, and a long list of one.
func TestOfOne(t *testing.T) {
	for n := range 32 {
		want := setOf([]int{n})
		if s := set.Of([]int{n}); s != want {
			t.Error(n, s, "not", want)
		}
		if s := set.Of(slices.Repeat([]int{n}, 10001)); s != want {
			t.Error(n, s, "not", want)
		}
	}
}

// P3.1: numbers that no set has are passed over, wherever they stand.
func TestOfWrongNumbers(t *testing.T) {
	for _, n := range wrongs() {
		for _, x := range []struct {
			l []int
			s uint32
		}{{[]int{n}, 0}, {[]int{n, n}, 0}, {[]int{n, 7}, 128}, {[]int{7, n}, 128}, {[]int{0, n, 31}, 1<<31 + 1}, {append(upTo(32), n), all}} {
			if s := set.Of(x.l); s != x.s {
				t.Error(x.l, s, "not", x.s)
			}
		}
	}
	if s := set.Of(wrongs()); s != 0 {
		t.Error(s)
	}
	if s := set.Of(append(wrongs(), 4, 1, 4)); s != 18 {
		t.Error(s)
	}
}

// P3.1: a set has its members, and no other number.
func TestHas(t *testing.T) {
	for _, s := range sets() {
		l := members(s)
		for n := -40; n < 80; n++ {
			if has := set.Has(s, n); has != slices.Contains(l, n) {
				t.Fatal(l, n, has)
			}
		}
	}
}

// P3.1: no set has a number below 0 or above 31.
func TestHasWrongNumbers(t *testing.T) {
	for _, s := range []uint32{0, 1, 2, 1 << 31, 18, all - 1, all} {
		for _, n := range wrongs() {
			if set.Has(s, n) {
				t.Error(s, n)
			}
		}
	}
}

// P3.1: members, how many, and the least one, of sets that are told.
func TestMembers(t *testing.T) {
	for _, x := range []struct {
		s     uint32
		l     []int
		least int
	}{
		{0, nil, -1},
		{1, []int{0}, 0},
		{2, []int{1}, 1},
		{18, []int{1, 4}, 1},
		{1 << 31, []int{31}, 31},
		{1<<31 + 1, []int{0, 31}, 0},
		{1<<31 + 1<<30, []int{30, 31}, 30},
		{0x8000, []int{15}, 15},
		{0x18000, []int{15, 16}, 15},
		{all, upTo(32), 0},
		{all - 1, upTo(32)[1:], 1},
		{all - 1<<31, upTo(31), 0},
	} {
		if l := set.Members(x.s); !slices.Equal(l, x.l) {
			t.Error(x.s, l, "not", x.l)
		}
		if n := set.Count(x.s); n != len(x.l) {
			t.Error(x.s, n, "not", len(x.l))
		}
		if n := set.Least(x.s); n != x.least {
			t.Error(x.s, n, "not", x.least)
		}
	}
}

// P3.1: the same of many sets, by other means.
func TestMembersByOtherMeans(t *testing.T) {
	for _, s := range sets() {
		want, least := members(s), -1
		if len(want) > 0 {
			least = want[0]
		}
		if l := set.Members(s); !slices.Equal(l, want) {
			t.Fatal(s, l, "not", want)
		}
		if n := set.Count(s); n != len(want) {
			t.Fatal(s, n, "not", len(want))
		}
		if n := set.Least(s); n != least {
			t.Fatal(s, n, "not", least)
		}
	}
}

// P3.1: all below a number, from none to all of 0 to 31.
func TestBelow(t *testing.T) {
	for n, s := range map[int]uint32{0: 0, 1: 1, 2: 3, 5: 31, 16: 1<<16 - 1, 30: 1<<30 - 1, 31: 1<<31 - 1, 32: all} {
		if b := set.Below(n); b != s {
			t.Error(n, b, "not", s)
		}
	}
	for n := range 33 {
		if b, want := set.Below(n), setOf(upTo(n)); b != want {
			t.Error(n, b, "not", want)
		}
	}
}

// P3.1: no number of a set is below a number under 0, and all are below one above 31.
func TestBelowWrongNumbers(t *testing.T) {
	for _, n := range wrongs() {
		want := uint32(0)
		if n > 31 {
			want = all
		}
		if b := set.Below(n); b != want {
			t.Error(n, b, "not", want)
		}
	}
}

// P3.1: what was handed in is as it was, its spare room too.
func TestArgumentsStay(t *testing.T) {
	room := append(append(wrongs(), 4, 1, 4), 77, 78, 79)
	before := slices.Clone(room)
	set.Of(room[:len(room)-3])
	if !slices.Equal(room, before) {
		t.Error(room)
	}
}

// P3.1: who writes into what was answered changes no later answer.
func TestAnswersAreNew(t *testing.T) {
	for _, s := range []uint32{0, 1, 18, 1 << 31, all} {
		first := set.Members(s)
		second := set.Members(s)
		for i := range first[:cap(first)] {
			first[:cap(first)][i] = 4711
		}
		if !slices.Equal(second, members(s)) || !slices.Equal(set.Members(s), members(s)) {
			t.Error(s, second)
		}
	}
}

// P3.2: a set is that of its members; they rise, and are all.
func TestSetIsThatOfItsMembers(t *testing.T) {
	for _, s := range sets() {
		l := set.Members(s)
		if set.Of(l) != s || setOf(l) != s {
			t.Fatal(s, l, set.Of(l))
		}
		for i := 1; i < len(l); i++ {
			if l[i-1] >= l[i] {
				t.Fatal(s, l)
			}
		}
		for n := -1; n <= 32; n++ {
			if set.Has(s, n) != slices.Contains(l, n) {
				t.Fatal(s, l, n)
			}
		}
	}
}

// P3.2: the members of a list's set are the list's small numbers, sorted, each of them once.
func TestMembersOfLists(t *testing.T) {
	word := uint32(5)
	for size := range 200 {
		l := make([]int, size)
		for i := range l {
			word = word*1664525 + 1013904223
			l[i] = int(word>>16)%50 - 9
		}
		want := slices.DeleteFunc(slices.Clone(l), func(n int) bool { return n < 0 || n > 31 })
		slices.Sort(want)
		want = slices.Compact(want)
		s := set.Of(l)
		if got := set.Members(s); !slices.Equal(got, want) {
			t.Fatal(l, got, "not", want)
		}
		if s != setOf(l) || set.Count(s) != len(want) {
			t.Fatal(l, s)
		}
	}
}

// P3.2: what is below a number is just what of all numbers is less than it, and a set's least one is the first that is not below.
func TestBelowAndLeast(t *testing.T) {
	for n := -3; n < 36; n++ {
		for m := -3; m < 36; m++ {
			if set.Has(set.Below(n), m) != (0 <= m && m < min(n, 32)) {
				t.Error(n, m)
			}
		}
	}
	for _, s := range sets() {
		if least := set.Least(s); s != 0 && (s&set.Below(least) != 0 || s&set.Below(least+1) != setOf([]int{least})) {
			t.Fatal(s, least)
		}
	}
}
