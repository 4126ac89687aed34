package draw_test

import (
	"math/big"
	"slices"
	"testing"

	"gerund/api"
	"gerund/draw"
	"gerund/nat"
)

const high = 1<<32 - 1

// most is the greatest bound that may be.
func most() api.Nat { return slices.Repeat(api.Nat{high}, api.MaxLimbs) }

// power is 2 to the 32nd, so often.
func power(often int) api.Nat { return append(make(api.Nat, often), 1) }

// wrongs are bounds that may not be, and 0.
func wrongs() []api.Nat {
	return []api.Nat{nil, {}, {0}, {1, 0}, {0, 0}, {high, high, 0}, power(api.MaxLimbs), append(most(), 1), append(most(), 0), make(api.Nat, api.MaxLimbs), make(api.Nat, 1000)}
}

// bounds are such as may be: those about each power of two, and some that are none of these.
func bounds() []api.Nat {
	l := []api.Nat{{1}, {2}, {3}, {5}, {6}, {7}, {10}, {1000}, {high - 1}, {high}, {0, 3}, {7, 5}, {high, high}, {0, high}, {1, 0, 1}, {5, 6, 7}, {high, 0, high, 9}}
	for bit := range 32 * api.MaxLimbs {
		x := append(make(api.Nat, bit/32), 1<<(bit%32))
		one := nat.Of(1)
		less, _ := nat.Sub(x, one)
		more, _ := nat.Add(x, one)
		l = append(l, x, more)
		if len(less) > 0 {
			l = append(l, less)
		}
	}
	return append(l, most())
}

// stream is words that follow from one to the next, some of them with no bit, or all.
func stream(n int, word uint32) []uint32 {
	l := make([]uint32, n)
	for i := range l {
		word = word*1664525 + 1013904223
		switch word >> 29 {
		case 0:
			l[i] = 0
		case 1:
			l[i] = high
		default:
			l[i] = word ^ word>>15
		}
	}
	return l
}

func toBig(limbs []uint32) *big.Int {
	n := new(big.Int)
	for i := len(limbs) - 1; i >= 0; i-- {
		n.Lsh(n, 32)
		n.Or(n, big.NewInt(int64(limbs[i])))
	}
	return n
}

// bitsOf is how many bits a bound less 1 has, by other means.
func bitsOf(bound api.Nat) int {
	return new(big.Int).Sub(toBig(bound), big.NewInt(1)).BitLen()
}

// wordsOf is how many words so many bits need: counted.
func wordsOf(k int) int {
	n := 0
	for ; k > 0; k -= 32 {
		n++
	}
	return n
}

// below draws by other means; nothing, if the words are too few.
func below(bound api.Nat, words []uint32) (*big.Int, int) {
	k := bitsOf(bound)
	n := wordsOf(k)
	mask := new(big.Int).Lsh(big.NewInt(1), uint(k))
	for at := 0; at+n <= len(words); at += n {
		x := new(big.Int).Mod(toBig(words[at:at+n]), mask)
		if x.Cmp(toBig(bound)) < 0 {
			return x, at + n
		}
	}
	return nil, 0
}

// is: was just this told?
func is(t *testing.T, bound api.Nat, words []uint32, want api.Nat, used int) {
	t.Helper()
	x, n, e := draw.Below(bound, words)
	if e != api.OK || !slices.Equal(x, want) || n != used {
		t.Error(bound, x, n, e, "not", want, used)
	}
}

// fails: was just this error told, and nothing beside it?
func fails(t *testing.T, bound api.Nat, words []uint32, want api.Errno) {
	t.Helper()
	if x, n, e := draw.Below(bound, words); e != want || len(x) != 0 || n != 0 {
		t.Error(bound, len(words), x, n, e, "not", want)
	}
}

// P2.1: a try has as many words as its bits need.
func TestNeed(t *testing.T) {
	for _, x := range []struct {
		bound api.Nat
		n     int
	}{
		{api.Nat{1}, 0}, {api.Nat{2}, 1}, {api.Nat{3}, 1}, {api.Nat{1 << 31}, 1}, {api.Nat{high}, 1},
		{api.Nat{0, 1}, 1}, {api.Nat{1, 1}, 2}, {api.Nat{high, high}, 2}, {api.Nat{0, 0, 1}, 2}, {api.Nat{1, 0, 1}, 3},
		{power(31), 31}, {append(api.Nat{1}, power(30)...), 32}, {most(), 32},
	} {
		if n := draw.Need(x.bound); n != x.n {
			t.Error(x.bound, n, "not", x.n)
		}
	}
	for _, bound := range bounds() {
		if n := draw.Need(bound); n != wordsOf(bitsOf(bound)) {
			t.Error(bound, n)
		}
	}
	for _, bound := range wrongs() {
		if n := draw.Need(bound); n != 0 {
			t.Error(bound, n)
		}
	}
}

// P2.1: the chapter's example, and words that draw nothing.
func TestBelow(t *testing.T) {
	three := api.Nat{3}
	is(t, three, []uint32{7, 2}, api.Nat{2}, 2)
	is(t, three, []uint32{7, 6}, api.Nat{2}, 2)
	is(t, three, []uint32{0, 7}, nil, 1)
	is(t, three, []uint32{3, 7, high, 1 << 31, 1}, nil, 4)
	is(t, three, []uint32{high, high - 1}, api.Nat{2}, 2)
	is(t, api.Nat{5}, []uint32{7, 6, 4}, api.Nat{4}, 3)
	fails(t, three, []uint32{3, 7, 11}, api.ErrDraws)
}

// P2.1: a bound of 1 takes no words, whatever there are.
func TestBelowOne(t *testing.T) {
	for _, words := range [][]uint32{nil, {}, {0}, {high}, {1, 2, 3}, stream(api.MaxDraws, 1)} {
		is(t, api.Nat{1}, words, nil, 0)
	}
}

// P2.1: a power of two takes each try, and of its last word the lowest bits alone.
func TestBelowPowers(t *testing.T) {
	is(t, api.Nat{2}, []uint32{high}, api.Nat{1}, 1)
	is(t, api.Nat{2}, []uint32{high - 1, 1}, nil, 1)
	is(t, api.Nat{4}, []uint32{255}, api.Nat{3}, 1)
	is(t, api.Nat{1 << 31}, []uint32{high}, api.Nat{1<<31 - 1}, 1)
	is(t, api.Nat{0, 1}, []uint32{high, 5}, api.Nat{high}, 1)
	is(t, api.Nat{0, 2}, []uint32{high, high}, api.Nat{high, 1}, 2)
	is(t, api.Nat{0, 0, 1}, []uint32{high, high, 5}, api.Nat{high, high}, 2)
	is(t, power(31), append(slices.Repeat([]uint32{high}, 31), 1), most()[:31], 31)
}

// P2.1: of several limbs the lowest one comes first; noughts at the end aren't told.
func TestBelowSeveralLimbs(t *testing.T) {
	is(t, api.Nat{1, 1}, []uint32{5, 0}, api.Nat{5}, 2)
	is(t, api.Nat{1, 1}, []uint32{0, 0}, nil, 2)
	is(t, api.Nat{1, 1}, []uint32{0, 1}, api.Nat{0, 1}, 2)
	is(t, api.Nat{1, 1}, []uint32{0, 7}, api.Nat{0, 1}, 2)
	is(t, api.Nat{1, 1}, []uint32{1, 1, 0, 1, 9}, api.Nat{0, 1}, 4)
	is(t, api.Nat{0, 5, 6}, []uint32{9, 0, high - 7}, api.Nat{9}, 3)
	is(t, api.Nat{0, 5, 6}, []uint32{9, 4, high - 1}, api.Nat{9, 4, 6}, 3)
	is(t, api.Nat{0, 5, 6}, []uint32{9, 5, 6, 8, 7, 5}, api.Nat{8, 7, 5}, 6)
	is(t, most(), append(most(), make([]uint32, 32)...), nil, 64)
}

// P2.1: no words, or a part of a try at the end, are too few.
func TestTooFewWords(t *testing.T) {
	fails(t, api.Nat{2}, nil, api.ErrDraws)
	fails(t, api.Nat{2}, []uint32{}, api.ErrDraws)
	fails(t, api.Nat{1, 1}, []uint32{0}, api.ErrDraws)
	fails(t, api.Nat{1, 1}, []uint32{1, 1, 5}, api.ErrDraws)
	fails(t, api.Nat{1, 1}, []uint32{high, high, 0}, api.ErrDraws)
	fails(t, most(), make([]uint32, 31), api.ErrDraws)
	for _, bound := range bounds() {
		if n := draw.Need(bound); n > 0 {
			fails(t, bound, make([]uint32, n-1), api.ErrDraws)
			is(t, bound, make([]uint32, n), nil, n)
		}
	}
}

// P2.1: 1000 words are taken, and one more is not, though fewer would do.
func TestManyWords(t *testing.T) {
	if api.MaxDraws != 1000 {
		t.Fatal(api.MaxDraws)
	}
	nothing := slices.Repeat([]uint32{high}, api.MaxDraws-1)
	is(t, api.Nat{3}, append(nothing, 2), api.Nat{2}, api.MaxDraws)
	fails(t, api.Nat{3}, append(nothing, high), api.ErrDraws)
	fails(t, api.Nat{1, 1, 1}, append(nothing, 0), api.ErrDraws)
	for _, bound := range bounds() {
		is(t, bound, make([]uint32, api.MaxDraws), nil, draw.Need(bound))
		for _, n := range []int{1, 2, 31, 32, 5000} {
			fails(t, bound, make([]uint32, api.MaxDraws+n), api.ErrMany)
		}
	}
}

// P2.1: a bound that may not be, or 0, is told first, however many words there are.
func TestWrongBounds(t *testing.T) {
	for _, bound := range wrongs() {
		for _, n := range []int{0, 1, 2, 32, 33, 64, api.MaxDraws, api.MaxDraws + 1, 5000} {
			fails(t, bound, make([]uint32, n), api.ErrArg)
			fails(t, bound, slices.Repeat([]uint32{high}, n), api.ErrArg)
		}
	}
}

// P2.1: what is drawn is as by other means, by words of all kinds.
func TestBelowByOtherMeans(t *testing.T) {
	for i, bound := range bounds() {
		for _, n := range []int{1, 2, 31, 33, 65, 200, api.MaxDraws} {
			words := stream(n, uint32(i*7+n))
			want, used := below(bound, words)
			x, got, e := draw.Below(bound, words)
			if want == nil {
				fails(t, bound, words, api.ErrDraws)
			} else if e != api.OK || !nat.Right(x) || toBig(x).Cmp(want) != 0 || got != used {
				t.Fatal(bound, n, x, got, e, "not", want, used)
			}
		}
	}
}

// guarded is x with spare room behind it, whose numbers are told.
func guarded(x []uint32) ([]uint32, func() bool) {
	room := append(slices.Clone(x), 77, 78, 79)
	before := slices.Clone(room)
	return room[:len(x)], func() bool { return slices.Equal(room, before) }
}

// P2.1: what was handed in is as it was, its spare room too, and an answer is new memory.
func TestArgumentsStay(t *testing.T) {
	for i, x := range append(bounds(), wrongs()...) {
		for _, n := range []int{0, 1, 2, 32, 40, 100, api.MaxDraws, api.MaxDraws + 1} {
			bound, sameBound := guarded(x)
			words, sameWords := guarded(stream(n, uint32(i+n)))
			draw.Need(bound)
			drawn, _, _ := draw.Below(bound, words)
			drawn = drawn[:cap(drawn)]
			for j := range drawn {
				drawn[j] = 4711
			}
			if !sameBound() || !sameWords() {
				t.Fatal(x, n)
			}
		}
	}
}

// P2.1: one list as both bound and words is told as two would be.
func TestOneListAsBoth(t *testing.T) {
	both := []uint32{6, 5, 4, 3}
	fails(t, both, both, api.ErrDraws)
	both = []uint32{5, 0, 0, 1}
	fails(t, both, both, api.ErrDraws)
	is(t, both[:1], both, nil, 2)
	if !slices.Equal(both, []uint32{5, 0, 0, 1}) {
		t.Error(both)
	}
}

// P2.2: of all words of some bits each number below a bound is drawn by as many, at the first try.
func TestEvenlyByOneWord(t *testing.T) {
	const words = 1 << 11
	for bound := uint32(1); bound <= 260; bound++ {
		often := make([]int, bound)
		for w := range uint32(words) {
			x, used, e := draw.Below(api.Nat{bound}, []uint32{w})
			if e == api.ErrDraws {
				continue
			}
			n := toBig(x).Int64()
			if e != api.OK || used != draw.Need(api.Nat{bound}) || n >= int64(bound) {
				t.Fatal(bound, w, x, used, e)
			}
			often[n]++
		}
		if each := words >> bitsOf(api.Nat{bound}); slices.Min(often) != each || slices.Max(often) != each {
			t.Fatal(bound, often, each)
		}
	}
}

// P2.2: the same where the last one of several words has few bits that count.
func TestEvenlyBySeveralWords(t *testing.T) {
	const lasts = 64
	for _, bound := range []api.Nat{{1, 1}, {0, 3}, {4, 5}, {high, 6}, {0, 8}, {1, 8}, {0, 0, 5}, {1, 0, 5}, {high, high, 5}} {
		n, k := draw.Need(bound), bitsOf(bound)
		for _, low := range []uint32{0, 3, high} {
			often := map[string]int{}
			words := slices.Repeat([]uint32{low}, n)
			for words[n-1] = range lasts {
				if x, used, e := draw.Below(bound, words); e == api.OK && used == n {
					often[toBig(x).String()]++
				}
			}
			for last := range uint32(lasts) {
				words[n-1] = last
				x, want := toBig(words), 0
				if x.Cmp(toBig(bound)) < 0 {
					want = lasts >> (k % 32)
				}
				if often[x.String()] != want {
					t.Error(bound, words, often[x.String()], "not", want)
				}
			}
		}
	}
}

// own is a number's own words in a try of n, with all bits ahead of its k ones as they are in over.
func own(x api.Nat, n, k int, over uint32) []uint32 {
	words := append(slices.Clone(x), make([]uint32, n-len(x))...)
	if k%32 != 0 {
		words[n-1] |= over << (k % 32)
	}
	return words
}

// P2.2: each number below a bound is drawn by its own words, whatever stands ahead of its bits: as many as there are of these; none at or above it is.
func TestEvenlyByOwnWords(t *testing.T) {
	for _, bound := range bounds() {
		n, k := draw.Need(bound), bitsOf(bound)
		if n == 0 {
			continue
		}
		last, _ := nat.Sub(bound, nat.Of(1))
		half, _, _ := nat.Div(bound, 2)
		third, _, _ := nat.Div(bound, 3)
		for _, over := range []uint32{0, 1, 2, 0x55555555, 0xaaaaaaaa, high} {
			for _, x := range []api.Nat{nil, third, half, last} {
				is(t, bound, own(x, n, k, over), x, n)
			}
			if nat.Bits(bound) == k {
				fails(t, bound, own(bound, n, k, over), api.ErrDraws)
			}
			all := slices.Repeat([]uint32{high}, n)
			if greatest := new(big.Int).Lsh(big.NewInt(1), uint(k)); toBig(bound).Cmp(greatest) < 0 {
				fails(t, bound, all, api.ErrDraws)
			}
		}
	}
}

// P2.2: tries that draw nothing leave the next ones as if they were the first, and what stands behind isn't looked at.
func TestNextTryIsAsTheFirst(t *testing.T) {
	for i, bound := range bounds() {
		n := draw.Need(bound)
		nothing := slices.Repeat([]uint32{high}, n)
		if _, used := below(bound, nothing); used > 0 || n == 0 {
			continue
		}
		for tries := 1; tries <= 4; tries++ {
			words := stream(8*n, uint32(i+tries))
			x, used, e := draw.Below(bound, words)
			later := append(slices.Repeat(nothing, tries), words...)
			if e != api.OK {
				fails(t, bound, later, e)
				continue
			}
			is(t, bound, later, x, used+tries*n)
			is(t, bound, later[:used+tries*n], x, used+tries*n)
			is(t, bound, append(later, stream(9, 5)...), x, used+tries*n)
		}
	}
}
