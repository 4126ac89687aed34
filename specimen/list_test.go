package specimen_test

import (
	"slices"
	"testing"

	"gerund/specimen"
)

// Rows are the same, if each of them is, and their order; nil and empty ones are alike.
func TestSameRows(t *testing.T) {
	l := [][]int{{1, 2}, {}, {3}}
	for _, x := range []struct {
		rows [][]int
		want bool
	}{
		{l, true}, {specimen.CopiedRows(l), true}, {[][]int{{1, 2}, nil, {3}}, true},
		{nil, false}, {l[:2], false}, {append(slices.Clone(l), nil), false}, {[][]int{{2, 1}, {}, {3}}, false}, {[][]int{{1, 2}, {3}, {}}, false}, {[][]int{{1, 2}, {}, {4}}, false}, {[][]int{{1, 2}, {0}, {3}}, false}, {[][]int{{1}, {}, {3}}, false},
	} {
		if specimen.SameRows(l, x.rows) != x.want || specimen.SameRows(x.rows, l) != x.want {
			t.Error(x)
		}
	}
	if !specimen.SameRows([][]int{}, nil) {
		t.Error("none")
	}
}

// Copied rows share nothing with those that they were made of.
func TestCopiedRows(t *testing.T) {
	l := [][]int{{1, 2}, {3}}
	c := specimen.CopiedRows(l)
	c[0][1], c[1] = 9, nil
	if !specimen.SameRows(l, [][]int{{1, 2}, {3}}) || len(specimen.CopiedRows[int](nil)) != 0 {
		t.Error(l, c)
	}
}

// A list with spare room is the same one, and shares nothing with it; whatever is written into it, or into its room, is told.
func TestSpareList(t *testing.T) {
	l := []int{1, 2}
	if given, asWas := specimen.SpareList(l, 7); !slices.Equal(given, l) || !asWas() {
		t.Fatal(given)
	}
	for i, change := range []func([]int){
		func(l []int) { l[0] = 9 },
		func(l []int) { l[1] = 9 },
		func(l []int) { _ = append(l, 9) },
		func(l []int) { _ = append(l[:1], 9) },
	} {
		given, asWas := specimen.SpareList(l, 7)
		if change(given); asWas() {
			t.Error(i, given)
		}
	}
	none, asWas := specimen.SpareList([]int(nil), 7)
	if _ = append(none, 9); len(none) != 0 || asWas() || !slices.Equal(l, []int{1, 2}) {
		t.Error(none, l)
	}
}

// Rows with spare room are the same ones, and share nothing with them; whatever is written into one, into the list of them, or into their room, is told.
func TestSpareRows(t *testing.T) {
	l := [][]int{{1, 2}, nil, {3}}
	if given, asWas := specimen.SpareRows(l, 7); !specimen.SameRows(given, l) || !asWas() {
		t.Fatal(given)
	}
	for i, change := range []func([][]int){
		func(l [][]int) { l[0][0] = 9 },
		func(l [][]int) { l[2][0] = 9 },
		func(l [][]int) { _ = append(l[0], 9) },
		func(l [][]int) { _ = append(l[1], 9) },
		func(l [][]int) { _ = append(l[2], 9) },
		func(l [][]int) { l[0], l[2] = l[2], l[0] },
		func(l [][]int) { l[1] = nil },
		func(l [][]int) { l[2] = l[2][:0] },
		func(l [][]int) { _ = append(l, nil) },
		func(l [][]int) { l[:4][3][0] = 9 },
	} {
		given, asWas := specimen.SpareRows(l, 7)
		if change(given); asWas() {
			t.Error(i, given)
		}
	}
	if !specimen.SameRows(l, [][]int{{1, 2}, nil, {3}}) {
		t.Error(l)
	}
}

// All that a list has room for is spoilt.
func TestSpoil(t *testing.T) {
	l := []int{1, 2, 3, 4}
	if specimen.Spoil(l[1:2:3], 7); !slices.Equal(l, []int{1, 7, 7, 4}) {
		t.Error(l)
	}
	if specimen.Spoil(l[:1], 8); !slices.Equal(l, []int{8, 8, 8, 8}) {
		t.Error(l)
	}
	specimen.Spoil(nil, 9)
}
