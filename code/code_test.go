package code_test

import (
	"bytes"
	"encoding/binary"
	"math"
	"runtime"
	"slices"
	"testing"

	"gerund/api"
	"gerund/code"
)

const (
	all  = 1<<32 - 1
	half = 1<<31 - 1
)

// told are numbers whose bytes are told, worked out by hand: those about each seventh bit, and the chapter's example.
func told() map[uint32][]byte {
	return map[uint32][]byte{
		0:         {0},
		1:         {1},
		127:       {127},
		128:       {128, 1},
		129:       {129, 1},
		255:       {255, 1},
		256:       {128, 2},
		300:       {172, 2},
		16383:     {255, 127},
		16384:     {128, 128, 1},
		16385:     {129, 128, 1},
		65535:     {255, 255, 3},
		2097151:   {255, 255, 127},
		2097152:   {128, 128, 128, 1},
		268435455: {255, 255, 255, 127},
		268435456: {128, 128, 128, 128, 1},
		half - 1:  {254, 255, 255, 255, 7},
		half:      {255, 255, 255, 255, 7},
		1 << 31:   {128, 128, 128, 128, 8},
		all - 1:   {254, 255, 255, 255, 15},
		all:       {255, 255, 255, 255, 15},
	}
}

// fronts are bytes that stand ahead of what is put, such as might be taken for a part of it among them.
func fronts() [][]byte {
	return [][]byte{nil, {}, {9}, {0}, {128}, {255, 255, 255, 255, 255, 255}, {1, 128, 0}, bytes.Repeat([]byte{200}, 300)}
}

// drawer is words that look like drawn ones.
type drawer uint64

func (d *drawer) word() uint32 {
	*d = *d*6364136223846793005 + 1442695040888963407
	return uint32(*d >> 32)
}

// some is a number that has any of 0 to 32 bits.
func (d *drawer) some() uint32 {
	return uint32(uint64(d.word()) >> (d.word() % 33))
}

// numbers are those that are told, those about each power of two, and many others, small ones and great ones.
func numbers() []uint32 {
	var l []uint32
	for n := range told() {
		l = append(l, n)
	}
	for bit := range 32 {
		l = append(l, 1<<bit-1, 1<<bit, 1<<bit+1, all-1<<bit)
	}
	d := drawer(5)
	for range 2000 {
		l = append(l, d.some())
	}
	slices.Sort(l)
	return slices.Compact(l)
}

// lists are such as may be put: of none, of one, of 127 and of 128, which one byte doesn't tell any more, and others.
func lists() [][]int {
	l := [][]int{nil, {}, {0}, {0, 0}, {127}, {128}, {half}, {half - 1, half}, {5, 300, half}, {half, 0, half, 0}}
	d := drawer(6)
	for _, size := range []int{1, 2, 3, 7, 60, 126, 127, 128, 129, 255, 256, 300, 16383, 16384, 16385} {
		some := make([]int, size)
		for i := range some {
			some[i] = int(d.some() & half)
		}
		l = append(l, some, make([]int, size), slices.Repeat([]int{half}, size))
	}
	return l
}

// wrongs are numbers that no list may have, some of which are right ones in their lowest bits.
func wrongs() []int {
	l := []int{-1, -2, -127, -128, half + 1, half + 2, all - 1, all, all + 1, all + 2, all + 129, math.MinInt, math.MinInt + 1, math.MaxInt, math.MaxInt - 1}
	for bit := 31; bit < 63; bit++ {
		l = append(l, 1<<bit, 1<<bit+5, -1<<bit, -1<<bit+5)
	}
	return l
}

// places are such as no bytes have: below 0, and behind the end.
func places(size int) []int {
	return []int{-1, -2, -5, -1 << 32, math.MinInt, math.MinInt + 1, size + 1, size + 2, size + 5, size + 1<<32, math.MaxInt, math.MaxInt - 1, math.MaxInt - 5}
}

// bytesOf is a number's bytes, by other means.
func bytesOf(n uint32) []byte { return binary.AppendUvarint(nil, uint64(n)) }

// bytesOfList is a list's bytes, by other means.
func bytesOfList(l []int) []byte {
	b := bytesOf(uint32(len(l)))
	for _, n := range l {
		b = append(b, bytesOf(uint32(n))...)
	}
	return b
}

// got is what is got, by other means: as the chapter's words follow each other.
func got(b []byte, at int) (uint32, int, api.Errno) {
	if at < 0 || at > len(b) {
		return 0, 0, api.ErrArg
	}
	isLast := func(c byte) bool { return c < 128 }
	if at+5 <= len(b) && !slices.ContainsFunc(b[at:at+5], isLast) {
		return 0, 0, api.ErrForm
	}
	last := slices.IndexFunc(b[at:], isLast)
	if last < 0 {
		return 0, 0, api.ErrEnd
	}
	if last > 0 && b[at+last] == 0 {
		return 0, 0, api.ErrForm
	}
	sum, weight := 0, 1
	for _, c := range b[at : at+last+1] {
		sum += int(c) % 128 * weight
		weight *= 128
	}
	if sum >= 1<<32 {
		return 0, 0, api.ErrForm
	}
	return uint32(sum), at + last + 1, api.OK
}

// gotList is what list is got, by other means.
func gotList(b []byte, at, most int) ([]int, int, api.Errno) {
	left, at, e := got(b, at)
	if e == api.OK && int(left) > most {
		e = api.ErrMany
	}
	var l []int
	for e == api.OK && left > 0 {
		var n uint32
		n, at, e = got(b, at)
		if n >= 1<<31 {
			e = api.ErrForm
		}
		l = append(l, int(n))
		left--
	}
	if e != api.OK {
		return nil, 0, e
	}
	return l, at, api.OK
}

// strings hands on all strings of so many bytes at most that are made of the letters.
func strings(letters []byte, most int, hand func([]byte)) {
	var further func(b []byte)
	further = func(b []byte) {
		hand(b)
		if len(b) == most {
			return
		}
		for _, c := range letters {
			further(append(b, c))
		}
	}
	further(make([]byte, 0, most))
}

// room is b with such bytes in the room behind its end as would end a number there.
func room(b []byte) []byte {
	return append(slices.Clone(b), 1, 2, 3, 4, 5, 6, 7, 8)[:len(b)]
}

// holdGet tells where what is got isn't as it was told.
func holdGet(t *testing.T, b []byte, at int, n uint32, to int, e api.Errno) {
	t.Helper()
	if x, y, f := code.Get(b, at); x != n || y != to || f != e {
		t.Fatal(b, at, ":", x, y, int(f), "not", n, to, int(e))
	}
}

// holdGetList tells where what list is got isn't as it was told.
func holdGetList(t *testing.T, b []byte, at, most int, l []int, to int, e api.Errno) {
	t.Helper()
	if x, y, f := code.GetList(b, at, most); !slices.Equal(x, l) || y != to || f != e {
		t.Fatal(b, at, most, ":", x, y, int(f), "not", l, to, int(e))
	}
}

// P5.1: numbers whose bytes are told, behind nothing and behind other bytes.
func TestPut(t *testing.T) {
	for n, b := range told() {
		for _, front := range fronts() {
			if x := code.Put(front, n); !bytes.Equal(x, slices.Concat(front, b)) {
				t.Error(front, n, x)
			}
		}
	}
}

// P5.1: the same of many numbers, by other means.
func TestPutByOtherMeans(t *testing.T) {
	for _, n := range numbers() {
		if x := code.Put(nil, n); !bytes.Equal(x, bytesOf(n)) {
			t.Error(n, x)
		}
	}
	for n := range uint32(1 << 17) {
		if x := code.Put(nil, n); !bytes.Equal(x, bytesOf(n)) {
			t.Fatal(n, x)
		}
	}
}

// P5.1: numbers whose bytes are told, at any place, whatever stands behind them.
func TestGet(t *testing.T) {
	for n, b := range told() {
		for _, front := range fronts() {
			for _, end := range [][]byte{nil, {0}, {1}, {128}, {255, 255, 255, 255, 255}} {
				holdGet(t, slices.Concat(front, b, end), len(front), n, len(front)+len(b), api.OK)
			}
		}
	}
}

// P5.1: a place below 0, or behind the end, whatever the bytes, and whatever lies in the room behind them.
func TestGetWrongPlace(t *testing.T) {
	for _, b := range [][]byte{nil, {}, {0}, {1, 2, 3}, {128}, {128, 0}, {255, 255, 255, 255, 255}, {255, 255, 255, 255, 16}, bytes.Repeat([]byte{5}, 1000)} {
		for _, at := range places(len(b)) {
			holdGet(t, b, at, 0, 0, api.ErrArg)
			holdGet(t, room(b), at, 0, 0, api.ErrArg)
		}
	}
}

// P5.1: bytes that end ahead of one below 128: at their end itself, and behind one to four others.
func TestGetEnd(t *testing.T) {
	for _, front := range fronts() {
		for _, c := range []byte{128, 129, 143, 144, 254, 255} {
			for size := range 5 {
				b := slices.Concat(front, bytes.Repeat([]byte{c}, size))
				holdGet(t, b, len(front), 0, 0, api.ErrEnd)
				holdGet(t, room(b), len(front), 0, 0, api.ErrEnd)
			}
		}
	}
	for n, b := range told() {
		for size := range b {
			if _, _, e := code.Get(b[:size], 0); e != api.ErrEnd {
				t.Error(n, size, int(e))
			}
		}
	}
}

// P5.1: five bytes of 128 or more are of no number, whether others are behind them or not.
func TestGetFiveBytes(t *testing.T) {
	for _, c := range []byte{128, 129, 143, 200, 255} {
		for _, end := range [][]byte{nil, {0}, {1}, {15}, {128}, {255, 1}} {
			for _, front := range fronts() {
				b := slices.Concat(front, bytes.Repeat([]byte{c}, 5), end)
				holdGet(t, b, len(front), 0, 0, api.ErrForm)
				holdGet(t, room(b), len(front), 0, 0, api.ErrForm)
			}
		}
	}
}

// P5.1: a last byte 0 is of a number just if it is the first, too.
func TestGetLastNought(t *testing.T) {
	for _, c := range []byte{128, 129, 255} {
		for size := range 5 {
			b := append(bytes.Repeat([]byte{c}, size), 0)
			if size == 0 {
				holdGet(t, b, 0, 0, 1, api.OK)
				holdGet(t, append(b, 0), 1, 0, 2, api.OK)
				continue
			}
			holdGet(t, b, 0, 0, 0, api.ErrForm)
			holdGet(t, append(b, 1), 0, 0, 0, api.ErrForm)
		}
	}
}

// P5.1: a number of 2^32 or more is none, the least one and each other one: of the fifth byte four bits may be.
func TestGetTooGreat(t *testing.T) {
	for c := range byte(128) {
		for _, low := range []byte{128, 129, 255} {
			b := append(bytes.Repeat([]byte{low}, 4), c)
			rest := uint32(low-128) * (1 + 1<<7 + 1<<14 + 1<<21)
			if 0 < c && c < 16 {
				holdGet(t, b, 0, uint32(c)<<28+rest, 5, api.OK)
			} else {
				holdGet(t, b, 0, 0, 0, api.ErrForm)
			}
		}
	}
}

// P5.1: where more than one error would fit: a place ahead of all, and what follows five bytes behind these.
func TestGetOrder(t *testing.T) {
	for _, x := range []struct {
		b  []byte
		at int
		e  api.Errno
	}{
		{nil, 0, api.ErrEnd},
		{nil, 1, api.ErrArg},
		{nil, -1, api.ErrArg},
		{[]byte{255, 255, 255, 255, 255}, -1, api.ErrArg},
		{[]byte{255, 255, 255, 255, 255}, 0, api.ErrForm},
		{[]byte{255, 255, 255, 255, 255}, 1, api.ErrEnd},
		{[]byte{255, 255, 255, 255, 255}, 4, api.ErrEnd},
		{[]byte{255, 255, 255, 255, 255}, 5, api.ErrEnd},
		{[]byte{255, 255, 255, 255, 255}, 6, api.ErrArg},
		{[]byte{255, 255, 255, 255, 255, 255}, 1, api.ErrForm},
		{[]byte{255, 255, 255, 255, 16}, 0, api.ErrForm},
		{[]byte{255, 255, 255, 255, 16}, 1, 0},
		{[]byte{128, 128, 128, 128, 0}, 0, api.ErrForm},
		{[]byte{128, 0, 128}, 0, api.ErrForm},
		{[]byte{128, 0, 128}, 1, 0},
		{[]byte{128, 0, 128}, 2, api.ErrEnd},
	} {
		if _, _, e := code.Get(x.b, x.at); e != x.e {
			t.Error(x.b, x.at, int(e))
		}
	}
}

// P5.1: all bytes, one and two of them; what is got of them, by other means.
func TestGetOfFewBytes(t *testing.T) {
	for c := range 1 << 8 {
		b := []byte{byte(c)}
		n, to, e := got(b, 0)
		holdGet(t, b, 0, n, to, e)
	}
	for c := range 1 << 16 {
		b := []byte{byte(c), byte(c >> 8)}
		for at := range 2 {
			n, to, e := got(b, at)
			holdGet(t, b, at, n, to, e)
		}
	}
}

// P5.1: all strings of bytes about which the errors turn, at each place and at one further on either side, by other means.
func TestGetByOtherMeans(t *testing.T) {
	strings([]byte{0, 1, 15, 16, 127, 128, 129, 255}, 6, func(b []byte) {
		for at := -1; at <= len(b)+1; at++ {
			n, to, e := got(b, at)
			holdGet(t, b, at, n, to, e)
		}
	})
}

// P5.1: lists whose bytes are told: how many there are, and each.
func TestPutList(t *testing.T) {
	for _, x := range []struct {
		l []int
		b []byte
	}{
		{nil, []byte{0}},
		{[]int{}, []byte{0}},
		{[]int{0}, []byte{1, 0}},
		{[]int{300}, []byte{1, 172, 2}},
		{[]int{127, 128}, []byte{2, 127, 128, 1}},
		{[]int{5, 300, half}, []byte{3, 5, 172, 2, 255, 255, 255, 255, 7}},
		{[]int{1, 1, 0, 1}, []byte{4, 1, 1, 0, 1}},
		{make([]int, 127), append([]byte{127}, make([]byte, 127)...)},
		{make([]int, 128), append([]byte{128, 1}, make([]byte, 128)...)},
		{make([]int, 300), append([]byte{172, 2}, make([]byte, 300)...)},
	} {
		for _, front := range fronts() {
			b, e := code.PutList(front, x.l)
			if e != api.OK || !bytes.Equal(b, slices.Concat(front, x.b)) {
				t.Error(front, x.l, b, int(e))
			}
			holdGetList(t, slices.Concat(front, x.b, front), len(front), len(x.l), x.l, len(front)+len(x.b), api.OK)
		}
	}
}

// P5.1: the same of many lists, by other means.
func TestPutListByOtherMeans(t *testing.T) {
	for _, l := range lists() {
		b, e := code.PutList([]byte{7, 255}, l)
		if e != api.OK || !bytes.Equal(b, append([]byte{7, 255}, bytesOfList(l)...)) {
			t.Fatal(len(l), int(e))
		}
	}
}

// P5.1: a number below 0, or of 2^31 or more, wherever it stands, and no bytes beside the error.
func TestPutListWrongNumbers(t *testing.T) {
	for _, n := range wrongs() {
		for _, l := range [][]int{{n}, {n, 1}, {0, n}, {half, n, 3}, append(make([]int, 200), n)} {
			for _, front := range fronts() {
				if b, e := code.PutList(front, l); e != api.ErrArg || len(b) != 0 {
					t.Fatal(front, l, b, int(e))
				}
			}
		}
	}
	for _, n := range []int{0, 1, half - 1, half} {
		if _, e := code.PutList(nil, []int{n}); e != api.OK {
			t.Error(n, int(e))
		}
	}
}

// P5.1: Get's errors of how many there are.
func TestGetListCount(t *testing.T) {
	for _, most := range []int{-1, 0, 1, 300, math.MaxInt} {
		for _, at := range places(3) {
			holdGetList(t, []byte{1, 1, 1}, at, most, nil, 0, api.ErrArg)
			holdGetList(t, room([]byte{1, 1, 1}), at, most, nil, 0, api.ErrArg)
		}
		for _, b := range [][]byte{nil, {128}, {255, 255, 255, 255}} {
			holdGetList(t, b, 0, most, nil, 0, api.ErrEnd)
			holdGetList(t, room(b), 0, most, nil, 0, api.ErrEnd)
		}
		for _, b := range [][]byte{{128, 0}, {129, 128, 0, 1}, {255, 255, 255, 255, 255, 1}, {128, 128, 128, 128, 16}} {
			holdGetList(t, b, 0, most, nil, 0, api.ErrForm)
		}
	}
}

// P5.1: more numbers than are let in, none and just as many among them.
func TestGetListMost(t *testing.T) {
	for _, size := range []int{0, 1, 2, 127, 128, 300} {
		l := slices.Repeat([]int{3}, size)
		b := bytesOfList(l)
		for _, most := range []int{math.MinInt, -1 << 32, -1, 0, 1, 2, 3, 126, 127, 128, 129, 299, 300, 301, 1 << 31, 1 << 32, 1 << 40, math.MaxInt} {
			if size > most {
				holdGetList(t, b, 0, most, nil, 0, api.ErrMany)
			} else {
				holdGetList(t, b, 0, most, l, len(b), api.OK)
			}
		}
	}
}

// P5.1: a count as great as numbers go is no more than a count: it is held against most, and what isn't there isn't waited for.
func TestGetListGreatCount(t *testing.T) {
	for _, n := range []uint32{half, 1 << 31, all - 1, all} {
		b := append(bytesOf(n), 1, 2, 3)
		for _, most := range []int{math.MinInt, -1, 0, 3, 300, half - 1} {
			holdGetList(t, b, 0, most, nil, 0, api.ErrMany)
		}
		holdGetList(t, b, 0, int(n)-1, nil, 0, api.ErrMany)
		holdGetList(t, b, 0, int(n), nil, 0, api.ErrEnd)
		holdGetList(t, b, 0, math.MaxInt, nil, 0, api.ErrEnd)
		holdGetList(t, append(b, 128, 0), 0, math.MaxInt, nil, 0, api.ErrForm)
	}
}

// P5.1: what bytes tell of how many there are takes no memory, if they aren't there: the call ends as others do.
func TestGetListTakesNoRoomAhead(t *testing.T) {
	b := append(bytesOf(all), 1, 2, 3)
	var before, after runtime.MemStats
	runtime.ReadMemStats(&before)
	holdGetList(t, b, 0, math.MaxInt, nil, 0, api.ErrEnd)
	runtime.ReadMemStats(&after)
	if taken := after.TotalAlloc - before.TotalAlloc; taken > 1<<20 {
		t.Error(taken)
	}
}

// P5.1: Get's errors of the numbers, at the first, in the middle and at the last, and one that no list may have.
func TestGetListNumbers(t *testing.T) {
	for _, front := range [][]byte{{}, {0}, {5, 172, 2}} {
		ahead := len(front)
		if ahead > 1 {
			ahead--
		}
		for _, x := range []struct {
			b    []byte
			left int
			e    api.Errno
		}{
			{nil, 1, api.ErrEnd},
			{[]byte{128}, 1, api.ErrEnd},
			{[]byte{255, 255, 255, 255}, 1, api.ErrEnd},
			{[]byte{1}, 2, api.ErrEnd},
			{[]byte{128, 0}, 1, api.ErrForm},
			{[]byte{255, 255, 255, 255, 255}, 1, api.ErrForm},
			{[]byte{255, 255, 255, 255, 16}, 1, api.ErrForm},
			{[]byte{255, 255, 255, 255, 15}, 1, api.ErrForm},
			{[]byte{128, 128, 128, 128, 8}, 1, api.ErrForm},
			{[]byte{128, 128, 128, 128, 8, 1}, 2, api.ErrForm},
			{[]byte{255, 255, 255, 255, 7}, 2, api.ErrEnd},
			{[]byte{128, 128, 128, 128, 8}, 2, api.ErrForm}, // ahead of the end
			{[]byte{128, 0}, 9, api.ErrForm},
		} {
			count := ahead + x.left
			b := slices.Concat([]byte{77, byte(count)}, front, x.b)
			holdGetList(t, b, 1, count, nil, 0, x.e)
			holdGetList(t, b, 1, 1000, nil, 0, x.e)
			holdGetList(t, b, 1, count-1, nil, 0, api.ErrMany)
		}
	}
	holdGetList(t, []byte{1, 255, 255, 255, 255, 7}, 0, 1, []int{half}, 6, api.OK)
}

// P5.1: bytes of lists that are cut end too early, at each place, whatever lies in the room behind them.
func TestGetListCut(t *testing.T) {
	for _, l := range lists() {
		if len(l) > 300 {
			continue
		}
		b := bytesOfList(l)
		for size := range b {
			if _, _, e := code.GetList(room(b[:size]), 0, len(l)); e != api.ErrEnd {
				t.Fatal(l, size, int(e))
			}
		}
	}
}

// P5.1: all strings of bytes about which the errors turn, with few and many let in, by other means.
func TestGetListByOtherMeans(t *testing.T) {
	hold := func(b []byte) {
		for at := -1; at <= min(len(b)+1, 2); at++ {
			for _, most := range []int{-1, 0, 1, 2, 1000} {
				l, to, e := gotList(b, at, most)
				holdGetList(t, b, at, most, l, to, e)
			}
		}
	}
	strings([]byte{0, 1, 2, 3, 127, 128, 255}, 5, hold)
	strings([]byte{1, 7, 8, 128, 255}, 7, hold)
	d := drawer(7)
	for range 50000 {
		b := []byte{byte(d.word() % 9)}
		for range d.word() % 30 {
			c := byte(d.word() >> 24)
			if d.word()%4 > 0 {
				c %= 128
			}
			b = append(b, c)
		}
		hold(b)
	}
}

// P5.1: what was handed in is as it was, its spare room too, also where a number is put behind it.
func TestArgumentsStay(t *testing.T) {
	for _, front := range fronts() {
		for _, l := range [][]int{nil, {0}, {5, 300, half}, {1, -1}, {half + 1}, make([]int, 200)} {
			b := slices.Concat(front, bytesOfList(make([]int, 3)), []byte{77, 78, 79, 80, 81, 82, 83, 84})
			b = append(b, make([]byte, 300)...)
			m := append(slices.Clone(l), 4711, 4712)
			c, n := slices.Clone(b), slices.Clone(m)
			for _, size := range []int{0, len(front), len(front) + 4} {
				code.Put(b[:size], 7)
				code.Put(b[:size], all)
				code.PutList(b[:size], m[:len(l)])
				code.Get(b[:size], len(front))
				code.GetList(b[:size], len(front), 9)
				if !bytes.Equal(b, c) || !slices.Equal(m, n) {
					t.Fatal(front, l, "were changed")
				}
			}
		}
	}
}

// P5.1: what is put behind the same bytes once more leaves the first answer as it was, though the bytes have room behind their end.
func TestAnswersAreNew(t *testing.T) {
	b := make([]byte, 2, 100)
	first, second := code.Put(b, 300), code.Put(b, all)
	third, _ := code.PutList(b, []int{1, 2})
	fourth, _ := code.PutList(b, nil)
	again := code.Put(second, 5)
	other := code.Put(second, 6)
	for i, x := range []struct{ got, want []byte }{
		{b, []byte{0, 0}},
		{first, []byte{0, 0, 172, 2}},
		{second, []byte{0, 0, 255, 255, 255, 255, 15}},
		{third, []byte{0, 0, 2, 1, 2}},
		{fourth, []byte{0, 0, 0}},
		{again, []byte{0, 0, 255, 255, 255, 255, 15, 5}},
		{other, []byte{0, 0, 255, 255, 255, 255, 15, 6}},
	} {
		if !bytes.Equal(x.got, x.want) {
			t.Error(i, x.got)
		}
	}
	for _, x := range [][]byte{first, second, third, fourth, again} {
		x = x[:cap(x)]
		for i := range x {
			x[i] ^= 255
		}
	}
	if !bytes.Equal(b[:100], make([]byte, 100)) || !bytes.Equal(other, []byte{0, 0, 255, 255, 255, 255, 15, 6}) {
		t.Error(b[:100], other)
	}
}

// P5.1: who writes into a list that was got, or into its spare room, changes no later answer.
func TestListsAreNew(t *testing.T) {
	b := []byte{3, 5, 172, 2, 7}
	for range 2 {
		l, to, e := code.GetList(b, 0, 3)
		if !slices.Equal(l, []int{5, 300, 7}) || to != 5 || e != api.OK {
			t.Fatal(l, to, int(e))
		}
		l = l[:cap(l)]
		for i := range l {
			l[i] = -1
		}
	}
}

// P5.2: a number that is put is got as it was, from the place where it was put to its end.
func TestNumberThereAndBack(t *testing.T) {
	for _, n := range numbers() {
		for _, front := range fronts() {
			b := code.Put(front, n)
			holdGet(t, b, len(front), n, len(b), api.OK)
			holdGet(t, append(b, 255), len(front), n, len(b), api.OK)
		}
	}
	for n := range uint32(1 << 22) {
		b := code.Put(nil, n)
		holdGet(t, b, 0, n, len(b), api.OK)
	}
}

// P5.2: a list that is put is got as it was, if as many are let in.
func TestListThereAndBack(t *testing.T) {
	for _, l := range lists() {
		for _, front := range fronts() {
			b, e := code.PutList(front, l)
			if e != api.OK {
				t.Fatal(len(l), int(e))
			}
			holdGetList(t, b, len(front), len(l), l, len(b), api.OK)
			holdGetList(t, append(b, 255), len(front), math.MaxInt, l, len(b), api.OK)
		}
	}
}

// P5.2: numbers and lists that were put behind each other are got one by one.
func TestManyThereAndBack(t *testing.T) {
	singles := numbers()
	some := lists()[:20]
	var b []byte
	var e api.Errno
	for i, n := range singles {
		b = code.Put(b, n)
		if b, e = code.PutList(b, some[i%len(some)]); e != api.OK {
			t.Fatal(int(e))
		}
	}
	at := 0
	for i, n := range singles {
		x, to, e := code.Get(b, at)
		if x != n || e != api.OK {
			t.Fatal(i, x, int(e))
		}
		l, behind, e := code.GetList(b, to, 1000)
		if !slices.Equal(l, some[i%len(some)]) || e != api.OK {
			t.Fatal(i, l, int(e))
		}
		at = behind
	}
	if at != len(b) {
		t.Error(at, len(b))
	}
}

// P5.2: what number is got has just those bytes: put once more they are those from its place to the one behind it.
func TestGotNumberHasItsBytes(t *testing.T) {
	taken := 0
	strings([]byte{0, 1, 2, 15, 16, 127, 128, 129, 255}, 5, func(b []byte) {
		for at := range b {
			n, to, e := code.Get(b, at)
			if e != api.OK {
				continue
			}
			taken++
			if !bytes.Equal(code.Put(nil, n), b[at:to]) {
				t.Fatal(b, at, n, to)
			}
		}
	})
	if taken == 0 {
		t.Error("nothing was got")
	}
}

// P5.2: what list is got has just those bytes.
func TestGotListHasItsBytes(t *testing.T) {
	taken := 0
	strings([]byte{0, 1, 2, 3, 8, 128, 130, 255}, 6, func(b []byte) {
		l, to, e := code.GetList(b, 0, 6)
		if e != api.OK {
			return
		}
		taken++
		if again, f := code.PutList(nil, l); f != api.OK || !bytes.Equal(again, b[:to]) {
			t.Fatal(b, l, to, again)
		}
	})
	if taken == 0 {
		t.Error("nothing was got")
	}
}

// P5.2: no two numbers have the same bytes, nor do one's bytes begin another's.
func TestNumbersApart(t *testing.T) {
	var l [][]byte
	for _, n := range numbers() {
		l = append(l, code.Put(nil, n))
	}
	slices.SortFunc(l, bytes.Compare)
	for i := 1; i < len(l); i++ {
		if bytes.HasPrefix(l[i], l[i-1]) {
			t.Error(l[i-1], l[i])
		}
	}
}
