package place_test

import (
	"bytes"
	"fmt"
	"math"
	"slices"
	"testing"

	"gerund/place"
)

const most = 1 << 30

// rights are lines, and columns, that may be, rising.
func rights() []int {
	return []int{1, 2, 3, 7, 9, 10, 11, 99, 100, 128, 1000, 65536, 1<<24 - 1, 1 << 24, 1<<24 + 1, 1<<29 + 1, most - 2, most - 1, most}
}

// wrongs are numbers that no line and no column has, some of which are right ones in their lowest bits.
func wrongs() []int {
	l := []int{0, -1, -2, -most, -most - 1, most + 1, most + 2, math.MinInt, math.MinInt + 1, math.MaxInt, math.MaxInt - 1}
	for bit := 31; bit < 63; bit++ {
		l = append(l, 1<<bit, 1<<bit+1, 1<<bit+5, -1<<bit, -1<<bit+1, -1<<bit+5)
	}
	return l
}

// wrongParts are floats that are no line and no column: the wrong numbers, those that aren't whole, infinite ones, none.
func wrongParts() []float64 {
	l := []float64{
		math.Copysign(0, -1), 0.5, -0.5, -1.5, 1.5, 2.5, 1e9 + 0.5, most - 0.5, most + 0.5,
		math.Nextafter(1, 0), math.Nextafter(1, 2), math.Nextafter(2, 1), math.Nextafter(2, 3),
		math.Nextafter(most, 0), math.Nextafter(most, most+1), math.Nextafter(-1, 0),
		math.SmallestNonzeroFloat64, -math.SmallestNonzeroFloat64, math.MaxFloat64, -math.MaxFloat64,
		1 << 63, 1<<63 + 1<<11, 1 << 64, 1<<64 + 1<<12, -1 << 63, -1 << 64, 1e300, -1e300,
		math.Inf(1), math.Inf(-1), math.NaN(), -math.NaN(),
	}
	for _, n := range wrongs() {
		l = append(l, float64(n))
	}
	return l
}

// rightPlaces are the places of all those lines and columns, the one behind the other.
func rightPlaces() []complex128 {
	var l []complex128
	for _, line := range rights() {
		for _, col := range rights() {
			l = append(l, complex(float64(line), float64(col)))
		}
	}
	return l
}

// wrongPlaces are places of which the line may not be, or the column, or neither.
func wrongPlaces() []complex128 {
	l := []complex128{0, 1, 1i, 1.5 + 1i, 1 + 1.5i, 1.5 + 1.5i, -1 - 1i, most + (most+1)*1i, most + 1 + most*1i}
	for _, x := range wrongParts() {
		for _, n := range rights() {
			l = append(l, complex(x, float64(n)), complex(float64(n), x))
		}
		for _, y := range wrongParts() {
			l = append(l, complex(x, y))
		}
	}
	return l
}

// texts are all that are made of the letters, up to so many of them, the shorter ones first.
func texts(letters string, size int) [][]byte {
	l := [][]byte{{}}
	for i := 0; len(l[i]) < size; i++ {
		for _, c := range []byte(letters) {
			l = append(l, append(slices.Clone(l[i]), c))
		}
	}
	return l
}

// someTexts are short ones of line feeds and what is none, and longer ones.
func someTexts() [][]byte {
	l := texts("a\n\r", 7)
	l = append(l, texts("\n\x00\xff\x8a\v\f", 4)...)
	return append(l,
		[]byte("%token a b\n\n%%\ns : a s /* c\n d */ | ;\n"),
		[]byte("äöü\n€uro\r\n\t\u2028x\u0085y\n"),
		bytes.Repeat([]byte("abc\n"), 300),
		bytes.Repeat([]byte("\n"), 1000),
		bytes.Repeat([]byte("x"), 1000),
		bytes.Repeat([]byte("\n\r"), 500))
}

// placeOf is the place of a text's byte, by other means: the line feeds ahead of it, and how far the last one is.
func placeOf(b []byte, i int) complex128 {
	line := 1 + bytes.Count(b[:i], []byte("\n"))
	col := i - bytes.LastIndexByte(b[:i], '\n')
	return complex(float64(line), float64(col))
}

// P6.1: lines and columns that may be, and all that is told of their places.
func TestRightPlaces(t *testing.T) {
	for _, line := range rights() {
		for _, col := range rights() {
			p := complex(float64(line), float64(col))
			if !place.Right(p) {
				t.Error(p, "may be")
			}
			if q := place.Of(line, col); q != p {
				t.Error(line, col, q)
			}
			if x, y := place.Line(p), place.Col(p); x != line || y != col {
				t.Error(p, x, y)
			}
			if s := place.Text(p); s != fmt.Sprintf("%d:%d", line, col) {
				t.Error(p, s)
			}
		}
	}
}

// P6.1: places whose texts are told.
func TestText(t *testing.T) {
	for p, s := range map[complex128]string{1 + 1i: "1:1", 2 + 1i: "2:1", 1 + 2i: "1:2", 10 + 100i: "10:100", 907 + 60i: "907:60", most + 1i: "1073741824:1", 1 + most*1i: "1:1073741824", most + most*1i: "1073741824:1073741824", 0: "-", 1: "-", 1i: "-", most + 1 + 1i: "-", -1 + 1i: "-"} {
		if x := place.Text(p); x != s {
			t.Error(p, x, "not", s)
		}
	}
}

// P6.1: what may not be has no line, no column, no text and no step, whatever the byte.
func TestWrongPlaces(t *testing.T) {
	for _, p := range wrongPlaces() {
		if place.Right(p) {
			t.Error(p, "may not be")
		}
		if x, y := place.Line(p), place.Col(p); x != 0 || y != 0 {
			t.Error(p, x, y)
		}
		if s := place.Text(p); s != "-" {
			t.Error(p, s)
		}
		for _, c := range []byte("a\n\r\x00\xff") {
			if q := place.Step(p, c); q != 0 {
				t.Error(p, c, q)
			}
		}
	}
}

// P6.1: what may not be is before nothing, and nothing before it.
func TestBeforeOfWrongPlaces(t *testing.T) {
	others := []complex128{0, 1, 1i, 1 + 1i, 1 + 2i, 2 + 1i, 5 + 5i, most + most*1i, most + 1i, 1 + most*1i, complex(math.NaN(), math.NaN()), complex(math.Inf(1), 1), complex(math.Inf(-1), 1)}
	for _, p := range wrongPlaces() {
		for _, q := range others {
			if place.Before(p, q) || place.Before(q, p) {
				t.Error(p, q)
			}
		}
		if place.Before(p, p) {
			t.Error(p)
		}
	}
}

// P6.1: a line, or a column, that may not be makes the place 0, whatever the other one is.
func TestOfWrongNumbers(t *testing.T) {
	for _, n := range wrongs() {
		for _, m := range append(rights(), wrongs()...) {
			if p, q := place.Of(n, m), place.Of(m, n); p != 0 || q != 0 {
				t.Error(n, m, p, q)
			}
		}
	}
}

// P6.1: behind a line feed the next line begins, behind any other byte the next column follows.
func TestStep(t *testing.T) {
	for _, x := range []struct{ p, further, below complex128 }{
		{1 + 1i, 1 + 2i, 2 + 1i},
		{1 + 2i, 1 + 3i, 2 + 1i},
		{2 + 1i, 2 + 2i, 3 + 1i},
		{7 + 300i, 7 + 301i, 8 + 1i},
		{1 << 24 * (1 + 1i), 1<<24 + (1<<24+1)*1i, 1<<24 + 1 + 1i},
		{1 + (most-1)*1i, 1 + most*1i, 2 + 1i},
		{most - 1 + 1i, most - 1 + 2i, most + 1i},
		{1 + most*1i, 0, 2 + 1i},
		{most - 1 + most*1i, 0, most + 1i},
		{most + 1i, most + 2i, 0},
		{most + (most-1)*1i, most + most*1i, 0},
		{most + most*1i, 0, 0},
	} {
		for c := range 1 << 8 {
			want := x.further
			if c == 10 {
				want = x.below
			}
			if q := place.Step(x.p, byte(c)); q != want {
				t.Error(x.p, c, q, "not", want)
			}
		}
	}
}

// P6.1: the places of texts that are told, and of one more than the text has bytes.
func TestAt(t *testing.T) {
	for text, l := range map[string][]complex128{
		"":           {1 + 1i},
		"a":          {1 + 1i, 1 + 2i},
		"\n":         {1 + 1i, 2 + 1i},
		"ab\nc":      {1 + 1i, 1 + 2i, 1 + 3i, 2 + 1i, 2 + 2i},
		"ab\n\nc":    {1 + 1i, 1 + 2i, 1 + 3i, 2 + 1i, 3 + 1i, 3 + 2i},
		"\n\n":       {1 + 1i, 2 + 1i, 3 + 1i},
		"\r\n\x00":   {1 + 1i, 1 + 2i, 2 + 1i, 2 + 2i},
		"\u00e4\ty":  {1 + 1i, 1 + 2i, 1 + 3i, 1 + 4i, 1 + 5i},
		"x\ny\nz\nu": {1 + 1i, 1 + 2i, 2 + 1i, 2 + 2i, 3 + 1i, 3 + 2i, 4 + 1i, 4 + 2i},
	} {
		for i, p := range append(l, 0) {
			if q := place.At([]byte(text), i); q != p {
				t.Errorf("%q %d: %v, not %v", text, i, q, p)
			}
		}
	}
	if p := place.At(nil, 0); p != 1+1i {
		t.Error(p)
	}
}

// P6.1: the same of many texts, by other means.
func TestAtByOtherMeans(t *testing.T) {
	for _, b := range someTexts() {
		for i := range len(b) + 1 {
			if p := place.At(b, i); p != placeOf(b, i) {
				t.Fatalf("%q %d: %v, not %v", b, i, p, placeOf(b, i))
			}
		}
	}
}

// P6.1: a byte's number below 0, or of more than the text has, is of no place, whatever lies in the room behind the text.
func TestAtWrongNumbers(t *testing.T) {
	for _, b := range [][]byte{nil, {}, []byte("a"), []byte("\n"), []byte("ab\n\nc"), bytes.Repeat([]byte("a\n"), 500)} {
		room := append(slices.Clone(b), "efgh\nijk"...)[:len(b)]
		size := len(b)
		for _, i := range []int{-1, -2, -size, -size - 1, -1 << 32, math.MinInt, math.MinInt + 1, size + 1, size + 2, size + 8, size + 9, size + 1<<32, math.MaxInt, math.MaxInt - 1} {
			if i == 0 {
				continue
			}
			if p, q := place.At(b, i), place.At(room, i); p != 0 || q != 0 {
				t.Errorf("%q %d: %v %v", b, i, p, q)
			}
		}
	}
}

// P6.1 and P6.2: behind a line that has more columns than may be is no place, not behind its line feed either.
func TestAtOfLongLine(t *testing.T) {
	if testing.Short() {
		t.Skip("a text of 2^30 bytes")
	}
	b := make([]byte, most+1)
	b[most] = '\n'
	if p := place.At(b, most+1); p != 0 {
		t.Error(p)
	}
}

// P6.1: two places on one line, on different lines, and one place twice.
func TestBefore(t *testing.T) {
	for _, x := range []struct {
		p, q   complex128
		before bool
	}{
		{1 + 1i, 1 + 2i, true},
		{1 + 2i, 1 + 1i, false},
		{1 + 1i, 1 + 1i, false},
		{1 + 1i, 2 + 1i, true},
		{2 + 1i, 1 + 1i, false},
		{1 + 9i, 2 + 1i, true},
		{2 + 1i, 1 + 9i, false},
		{1 + 2i, 2 + 1i, true},
		{3 + 4i, 4 + 3i, true},
		{4 + 3i, 3 + 4i, false},
		{9 + 2i, 10 + 2i, true},
		{2 + 9i, 2 + 10i, true},
		{2 + 10i, 2 + 9i, false},
		{1 + most*1i, 2 + 1i, true},
		{most - 1 + most*1i, most + 1i, true},
		{most + 1i, 1 + most*1i, false},
		{most + (most-1)*1i, most + most*1i, true},
		{most + most*1i, most + most*1i, false},
		{1 + 1i, most + most*1i, true},
	} {
		if before := place.Before(x.p, x.q); before != x.before {
			t.Error(x.p, x.q, before)
		}
	}
}

// P6.1: what was handed in is as it was, its spare room too.
func TestArgumentsStay(t *testing.T) {
	room := []byte("ab\ncd\nef")
	before := slices.Clone(room)
	for i := -1; i <= len(room); i++ {
		place.At(room[:5], i)
	}
	if !bytes.Equal(room, before) {
		t.Errorf("%q", room)
	}
}

// P6.2: a text's places begin at 1:1; each of them is the step of the one ahead, which is before it.
func TestPlacesOfTexts(t *testing.T) {
	for _, b := range someTexts() {
		p := place.At(b, 0)
		if place.Text(p) != "1:1" {
			t.Fatalf("%q: %v", b, p)
		}
		for i, c := range b {
			q := place.At(b, i+1)
			if q != place.Step(p, c) || !place.Right(q) {
				t.Fatalf("%q %d: %v behind %v", b, i, q, p)
			}
			if !place.Before(p, q) || place.Before(q, p) {
				t.Fatalf("%q %d: %v not before %v", b, i, p, q)
			}
			p = q
		}
	}
}

// P6.2: of any two places of a text the one of the byte ahead is before the other one.
func TestOrderOfTexts(t *testing.T) {
	for _, b := range texts("a\n", 8) {
		for i := range len(b) + 1 {
			for k := range len(b) + 1 {
				if before := place.Before(place.At(b, i), place.At(b, k)); before != (i < k) {
					t.Fatalf("%q %d %d: %v", b, i, k, before)
				}
			}
		}
	}
}

// P6.2: of two places that may be and are unlike just one is before the other one: the places are in one order.
func TestJustOneIsBefore(t *testing.T) {
	l := rightPlaces()
	for i, p := range l {
		for k, q := range l {
			if before := place.Before(p, q); before != (i < k) {
				t.Fatal(p, q, before)
			}
		}
	}
}

// P6.2: what a place steps to is behind it, and no other place is between them on its line.
func TestStepIsBehind(t *testing.T) {
	for _, p := range rightPlaces() {
		for _, c := range []byte("a\n") {
			q := place.Step(p, c)
			if q == 0 {
				continue
			}
			if !place.Before(p, q) || place.Before(q, p) {
				t.Error(p, q)
			}
		}
		if q := place.Step(p, 'a'); q != 0 && (place.Line(q) != place.Line(p) || place.Col(q) != place.Col(p)+1) {
			t.Error(p, q)
		}
	}
}
