package nat_test

import (
	"math/big"
	"math/bits"
	"slices"
	"strings"
	"testing"

	"gerund/api"
	"gerund/nat"
)

const high = 1<<32 - 1

// most is the greatest number that may be.
func most() api.Nat { return slices.Repeat(api.Nat{high}, api.MaxLimbs) }

// power is 2 to the 32nd, so often.
func power(often int) api.Nat { return append(make(api.Nat, often), 1) }

// wrongs are numbers that may not be: a last limb that is 0, and more than 32 limbs.
func wrongs() []api.Nat {
	return []api.Nat{{0}, {0, 0}, {1, 0}, {high, high, 0}, power(api.MaxLimbs), append(most(), 1), append(most(), 0), make(api.Nat, api.MaxLimbs), make(api.Nat, 1000)}
}

// edges are numbers that may be, at the edges of limbs and of the whole.
func edges() []api.Nat {
	l := []api.Nat{nil, {1}, {2}, {3}, {9}, {10}, {999999999}, {1000000000}, {1 << 31}, {1<<31 - 1}, {high - 1}, {high}, {0, 1}, {1, 1}, {0, 1 << 31}, {high, 1<<31 - 1}, {0, high}, {high, high}, {0, 0, 1}, {high, 0, 1}, {0, high, high}, {high, high, 1 << 31}, {0, 0, 0, 1<<31 - 1}}
	for _, n := range []int{15, 16, 17, 30, 31, 32} {
		l = append(l, power(n-1), most()[:n], append(make(api.Nat, n-1), high), append(make(api.Nat, n-1), 1<<31))
	}
	return l
}

// mixed are numbers of all lengths whose limbs follow from one to the next, many of them 0 or all bits.
func mixed() []api.Nat {
	var l []api.Nat
	word := uint32(12345)
	for i := range 160 {
		x := make(api.Nat, 1+i%api.MaxLimbs)
		for j := range x {
			word = word*1664525 + 1013904223
			switch word >> 29 {
			case 0:
				x[j] = 0
			case 1:
				x[j] = high
			default:
				x[j] = word ^ word>>15
			}
		}
		x[len(x)-1] |= 1 << (i % 32)
		l = append(l, x)
	}
	return l
}

func all() []api.Nat { return append(edges(), mixed()...) }

func toBig(x api.Nat) *big.Int {
	n := new(big.Int)
	for i := len(x) - 1; i >= 0; i-- {
		n.Lsh(n, 32)
		n.Or(n, big.NewInt(int64(x[i])))
	}
	return n
}

// is: is x the number n, and may it be?
func is(x api.Nat, n *big.Int) bool { return nat.Right(x) && toBig(x).Cmp(n) == 0 }

func fits(n *big.Int) bool { return n.BitLen() <= 32*api.MaxLimbs }

// expect holds what a call answered against a number, or against ErrBig where that is too great.
func expect(t *testing.T, what string, x api.Nat, e api.Errno, n *big.Int) {
	t.Helper()
	if fits(n) && (e != api.OK || !is(x, n)) {
		t.Fatal(what, "is", x, "error", e, "not", n)
	}
	if !fits(n) && (e != api.ErrBig || len(x) != 0) {
		t.Fatal(what, "is", x, "error", e, "not too great", n)
	}
}

// P1.1: a number may be by its limbs' count, and its last limb.
func TestRight(t *testing.T) {
	for _, x := range all() {
		if !nat.Right(x) {
			t.Error(x)
		}
	}
	for _, x := range wrongs() {
		if nat.Right(x) {
			t.Error(x)
		}
	}
	if !nat.Right(api.Nat{}) || !nat.Right(api.Nat{0, 1}) {
		t.Error("no limbs, or a lower one that is 0")
	}
}

// P1.1: Of has the fewest limbs.
func TestOf(t *testing.T) {
	for n, want := range map[uint64]api.Nat{0: nil, 1: {1}, high: {high}, 1 << 32: {0, 1}, 1<<32 + 7: {7, 1}, 1<<64 - 1: {high, high}, 1 << 63: {0, 1 << 31}} {
		if x := nat.Of(n); !slices.Equal(x, want) {
			t.Error(n, x)
		}
	}
}

// P1.1: the order of numbers is that of what they are.
func TestCmp(t *testing.T) {
	for _, a := range all() {
		for _, b := range all() {
			if c := nat.Cmp(a, b); c != toBig(a).Cmp(toBig(b)) {
				t.Fatal(a, b, c)
			}
		}
	}
}

// P1.1: sums, differences and products, and where there are none.
func TestAddSubMul(t *testing.T) {
	for _, a := range all() {
		for _, b := range all() {
			x, y := toBig(a), toBig(b)
			sum, e := nat.Add(a, b)
			expect(t, "sum", sum, e, new(big.Int).Add(x, y))
			product, e := nat.Mul(a, b)
			expect(t, "product", product, e, new(big.Int).Mul(x, y))
			left, e := nat.Sub(a, b)
			if x.Cmp(y) >= 0 {
				expect(t, "difference", left, e, new(big.Int).Sub(x, y))
			} else if e != api.ErrRange || len(left) != 0 {
				t.Fatal("difference", a, b, left, e)
			}
		}
	}
}

// P1.1: 32 limbs are taken, and one more is too great.
func TestGreatest(t *testing.T) {
	if x, e := nat.Add(most(), nil); e != api.OK || !slices.Equal(x, most()) {
		t.Error(x, e)
	}
	if x, e := nat.Add(nat.Of(1), most()); e != api.ErrBig || len(x) != 0 {
		t.Error(x, e)
	}
	if x, e := nat.Mul(power(15), power(16)); e != api.OK || !slices.Equal(x, power(31)) {
		t.Error(x, e)
	}
	if x, e := nat.Mul(power(16), power(16)); e != api.ErrBig || len(x) != 0 {
		t.Error(x, e)
	}
	if x, e := nat.Mul(most()[:16], most()[:16]); e != api.OK || len(x) != 32 {
		t.Error(x, e)
	}
	if x, e := nat.Mul(most(), nil); e != api.OK || len(x) != 0 {
		t.Error(x, e)
	}
}

// P1.1 and P1.2: what is divided by a limb.
func TestDiv(t *testing.T) {
	for _, x := range all() {
		for _, d := range []uint32{1, 2, 3, 10, 1 << 16, 1000000000, 1<<31 - 1, 1 << 31, 1<<31 + 1, high - 1, high} {
			often, left, e := nat.Div(x, d)
			q, r := new(big.Int).QuoRem(toBig(x), big.NewInt(int64(d)), new(big.Int))
			if e != api.OK || !is(often, q) || !is(nat.Of(uint64(left)), r) {
				t.Fatal(x, d, often, left, e)
			}
		}
		if often, left, e := nat.Div(x, 0); e != api.ErrArg || len(often) != 0 || left != 0 {
			t.Fatal(x, often, left, e)
		}
	}
}

// checkQuo holds what b goes into a against the same by other means.
func checkQuo(t *testing.T, a, b api.Nat) {
	t.Helper()
	often, left, e := nat.Quo(a, b)
	q, r := new(big.Int).QuoRem(toBig(a), toBig(b), new(big.Int))
	if e != api.OK || !is(often, q) || !is(left, r) {
		t.Fatal(a, b, often, left, e)
	}
}

// P1.1 and P1.2: what is divided by any other number.
func TestQuo(t *testing.T) {
	for _, a := range all() {
		for _, b := range all() {
			if len(b) > 0 {
				checkQuo(t, a, b)
			} else if often, left, e := nat.Quo(a, b); e != api.ErrArg || len(often)+len(left) != 0 {
				t.Fatal(a, often, left, e)
			}
		}
	}
}

// P1.1 and P1.2: limbs at their edges, so that a guess by the highest ones is too great by one, and by two.
func TestQuoAtEdges(t *testing.T) {
	limbs := []uint32{0, 1, 1<<31 - 1, 1 << 31, high - 1, high}
	number := func(n, of int) api.Nat {
		x := make(api.Nat, n)
		for i := range x {
			x[i] = limbs[of%len(limbs)]
			of /= len(limbs)
		}
		return x
	}
	for i := range 6 * 6 * 6 * 6 {
		a := number(4, i)
		for j := range 6 * 6 * 6 {
			if b := number(3, j); nat.Right(a) && nat.Right(b) {
				checkQuo(t, a, b)
			}
		}
	}
}

// P1.1: the highest bit, counted from 1.
func TestBits(t *testing.T) {
	for _, x := range all() {
		if n := nat.Bits(x); n != toBig(x).BitLen() {
			t.Error(x, n)
		}
	}
	if nat.Bits(nil) != 0 || nat.Bits(api.Nat{1}) != 1 || nat.Bits(api.Nat{0, 1}) != 33 || nat.Bits(most()) != 1024 {
		t.Error(nat.Bits(most()))
	}
}

// P1.1: what is no number is no argument, on either side, whatever else is wrong.
func TestWrongNumbers(t *testing.T) {
	two := map[string]func(a, b api.Nat) (api.Nat, api.Errno){"Add": nat.Add, "Sub": nat.Sub, "Mul": nat.Mul}
	for _, x := range wrongs() {
		for _, y := range append(edges(), wrongs()...) {
			for name, call := range two {
				a, e := call(x, y)
				b, f := call(y, x)
				if e != api.ErrArg || f != api.ErrArg || len(a)+len(b) != 0 {
					t.Fatal(name, x, y, e, f)
				}
			}
			a, b, e := nat.Quo(x, y)
			c, d, f := nat.Quo(y, x)
			if e != api.ErrArg || f != api.ErrArg || len(a)+len(b)+len(c)+len(d) != 0 {
				t.Fatal("Quo", x, y, e, f)
			}
			if nat.Cmp(x, y) != 0 || nat.Cmp(y, x) != 0 {
				t.Fatal("Cmp", x, y)
			}
		}
		for _, d := range []uint32{0, 1, high} {
			if often, left, e := nat.Div(x, d); e != api.ErrArg || len(often) != 0 || left != 0 {
				t.Fatal("Div", x, often, left, e)
			}
		}
		if nat.Text(x) != "" || nat.Bits(x) != 0 {
			t.Fatal(x, nat.Text(x), nat.Bits(x))
		}
	}
}

// guarded is x with spare room behind it, whose limbs are told.
func guarded(x api.Nat) (api.Nat, func() bool) {
	room := append(slices.Clone(x), 77, 78, 79)
	before := slices.Clone(room)
	return room[:len(x)], func() bool { return slices.Equal(room, before) }
}

// P1.1: what was handed in is as it was, its spare room too.
func TestArgumentsStay(t *testing.T) {
	numbers := append(append(edges(), mixed()[:40]...), wrongs()...)
	for _, x := range numbers {
		for _, y := range numbers {
			a, sameA := guarded(x)
			b, sameB := guarded(y)
			for _, pair := range [][2]api.Nat{{a, b}, {a, a}} {
				nat.Add(pair[0], pair[1])
				nat.Sub(pair[0], pair[1])
				nat.Mul(pair[0], pair[1])
				nat.Quo(pair[0], pair[1])
				nat.Cmp(pair[0], pair[1])
			}
			nat.Right(a)
			nat.Div(a, 7)
			nat.Text(a)
			nat.Bits(a)
			if !sameA() || !sameB() {
				t.Fatal(x, y)
			}
		}
	}
}

// P1.1: an answer is new memory: who writes into it changes no argument, and no other answer.
func TestAnswersAreNew(t *testing.T) {
	spoil := func(l ...api.Nat) {
		for _, x := range l {
			for i := range x {
				x[i] = 4711
			}
		}
	}
	for _, x := range edges() {
		for _, y := range []api.Nat{nil, {1}, {high, 5}, most()} {
			a, sameA := guarded(x)
			b, sameB := guarded(y)
			sum, _ := nat.Add(a, b)
			left, _ := nat.Sub(a, b)
			product, _ := nat.Mul(a, b)
			quotient, _, _ := nat.Div(a, 1)
			spoil(sum, left, product, quotient)
			often, rest, _ := nat.Quo(a, b)
			kept := slices.Clone(rest)
			spoil(often)
			if !slices.Equal(rest, kept) {
				t.Fatal(x, y)
			}
			spoil(rest)
			if !sameA() || !sameB() {
				t.Fatal(x, y)
			}
		}
	}
}

// must is what a call answers without an error.
func must(t *testing.T) func(x api.Nat, e api.Errno) api.Nat {
	return func(x api.Nat, e api.Errno) api.Nat {
		t.Helper()
		if e != api.OK || !nat.Right(x) {
			t.Fatal(x, e)
		}
		return x
	}
}

// P1.2: in either order the same, errors too.
func TestEitherOrder(t *testing.T) {
	for _, a := range all() {
		for _, b := range all() {
			s, e := nat.Add(a, b)
			u, f := nat.Add(b, a)
			p, g := nat.Mul(a, b)
			q, h := nat.Mul(b, a)
			if e != f || g != h || !slices.Equal(s, u) || !slices.Equal(p, q) {
				t.Fatal(a, b)
			}
		}
	}
}

// P1.2: parts shared out and put together again.
func TestPartsTogether(t *testing.T) {
	ok := must(t)
	var small []api.Nat
	for _, x := range all() {
		if len(x) <= 10 {
			small = append(small, x)
		}
	}
	for i, a := range small {
		b, c := small[(i*7+3)%len(small)], small[(i*5+1)%len(small)]
		left := ok(nat.Mul(a, ok(nat.Add(b, c))))
		right := ok(nat.Add(ok(nat.Mul(a, b)), ok(nat.Mul(a, c))))
		if nat.Cmp(left, right) != 0 {
			t.Error("shared out", a, b, c)
		}
		left = ok(nat.Add(a, ok(nat.Add(b, c))))
		right = ok(nat.Add(ok(nat.Add(a, b)), c))
		if nat.Cmp(left, right) != 0 {
			t.Error("sums of three", a, b, c)
		}
		left = ok(nat.Mul(a, ok(nat.Mul(b, c))))
		right = ok(nat.Mul(ok(nat.Mul(a, b)), c))
		if nat.Cmp(left, right) != 0 {
			t.Error("products of three", a, b, c)
		}
		if nat.Cmp(ok(nat.Sub(ok(nat.Add(a, b)), b)), a) != 0 {
			t.Error("put to and taken away", a, b)
		}
	}
}

// P1.2: what is divided is that often d and what is left, and that is less than d.
func TestDividedTogether(t *testing.T) {
	ok := must(t)
	for _, a := range all() {
		for _, b := range all() {
			if len(b) == 0 {
				continue
			}
			often, left, e := nat.Quo(a, b)
			if e != api.OK || nat.Cmp(left, b) != -1 || nat.Cmp(ok(nat.Add(ok(nat.Mul(often, b)), left)), a) != 0 {
				t.Fatal(a, b, often, left, e)
			}
			d := b[len(b)-1]
			byLimb, rest, e := nat.Div(a, d)
			if e != api.OK || rest >= d || nat.Cmp(ok(nat.Add(ok(nat.Mul(byLimb, nat.Of(uint64(d)))), nat.Of(uint64(rest)))), a) != 0 {
				t.Fatal(a, d, byLimb, rest, e)
			}
		}
	}
}

// P1.1 and P1.3: a number's text is its digits, and is parsed as it.
func TestTextAndBack(t *testing.T) {
	for _, x := range all() {
		s := nat.Text(x)
		if s != toBig(x).String() {
			t.Fatal(x, s)
		}
		if y, e := nat.Parse(s); e != api.OK || !slices.Equal(x, y) {
			t.Fatal(s, y, e)
		}
	}
}

// P1.3: what is parsed has just that text; noughts within it, in groups of any size, stay.
func TestParseAndBack(t *testing.T) {
	l := []string{"0", "1", "9", "10", "4294967295", "4294967296", "999999999", "1000000000", "1000000001", "18446744073709551616"}
	for n := range 308 {
		l = append(l, "1"+strings.Repeat("0", n), "1"+strings.Repeat("0", n)+"3", strings.Repeat("9", n+1), strings.Repeat("120", n/3+1))
	}
	for _, s := range l {
		want, _ := new(big.Int).SetString(s, 10)
		if !fits(want) {
			t.Fatal(s)
		}
		if x, e := nat.Parse(s); e != api.OK || !is(x, want) || nat.Text(x) != s {
			t.Fatal(s, x, e)
		}
	}
}

// P1.1: what isn't digits alone, or has noughts ahead, isn't of the form, however long it is.
func TestParseForm(t *testing.T) {
	long := strings.Repeat("8", 400)
	l := []string{"", "00", "01", "007", "-0", "-1", "+1", " 1", "1 ", "1 2", "1_0", "0x1", "1e3", "1.0", "a", "1a", "a1", "/", ":", "1/", "1:", "\x00", "1\x00", "1\n", "\xff", "\u0661", "\uff11", "1\u0661", "0" + long, long + "x", long + " ", "x" + long, long + "\u0661" + long}
	for c := range 256 {
		if c < '0' || c > '9' {
			l = append(l, string([]byte{byte(c)}), string([]byte{'1', byte(c)}), string([]byte{byte(c), '1'}))
		}
	}
	for _, s := range l {
		if x, e := nat.Parse(s); e != api.ErrForm || len(x) != 0 {
			t.Error(s, x, e)
		}
	}
}

// P1.1: the greatest number is parsed, and one more is too great.
func TestParseBig(t *testing.T) {
	bound := new(big.Int).Lsh(big.NewInt(1), 32*api.MaxLimbs)
	one := big.NewInt(1)
	if x, e := nat.Parse(new(big.Int).Sub(bound, one).String()); e != api.OK || !slices.Equal(x, most()) {
		t.Error(x, e)
	}
	great := strings.Repeat("9", 309)
	for _, s := range []string{bound.String(), new(big.Int).Add(bound, one).String(), great, great + "0", "1" + strings.Repeat("0", 309), strings.Repeat("1", 100000)} {
		if x, e := nat.Parse(s); e != api.ErrBig || len(x) != 0 {
			t.Error(s, x, e)
		}
	}
}

// P1.1: Of and Bits tell of 64 bits what the machine does.
func TestOfBits(t *testing.T) {
	for i := range 64 {
		for _, n := range []uint64{1 << i, 1<<i - 1, 1<<i + 1} {
			x := nat.Of(n)
			if !nat.Right(x) || nat.Bits(x) != bits.Len64(n) || !is(x, new(big.Int).SetUint64(n)) {
				t.Error(n, x)
			}
		}
	}
}
