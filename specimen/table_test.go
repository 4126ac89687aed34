package specimen_test

import (
	"testing"

	"gerund/api"
	"gerund/specimen"
)

// A blank table has as much of everything as is told, and nothing is done in it.
func TestBlank(t *testing.T) {
	for _, x := range [][3]int{{0, 0, 0}, {1, 0, 0}, {1, 2, 3}, {3, 0, 2}, {2, 4, 0}} {
		u := specimen.Blank(x[0], x[1], x[2])
		if len(u.Actions) != x[0] || len(u.Gotos) != x[0] {
			t.Fatal(x, u)
		}
		for n := range x[0] {
			if len(u.Actions[n]) != x[1]+1 || len(u.Gotos[n]) != x[2] {
				t.Error(x, u)
			}
			for _, cell := range u.Actions[n] {
				if cell != (api.Cell{}) {
					t.Error(x, u)
				}
			}
			for _, to := range u.Gotos[n] {
				if to != -1 {
					t.Error(x, u)
				}
			}
		}
	}
}

// changedTables are what makes a table of two states another one, or writes into its spare room.
func changedTables() []func(*api.Table) {
	return []func(*api.Table){
		func(u *api.Table) { u.Actions[0][0].Kind = 9 },
		func(u *api.Table) { u.Actions[1][1].N = 9 },
		func(u *api.Table) { u.Actions[1] = nil },
		func(u *api.Table) { u.Gotos[0][0] = 9 },
		func(u *api.Table) { u.Gotos[1] = u.Gotos[1][:1] },
		func(u *api.Table) { _ = append(u.Actions[0], api.Cell{}) },
		func(u *api.Table) { _ = append(u.Gotos[1], 9) },
		func(u *api.Table) { _ = append(u.Actions, nil) },
		func(u *api.Table) { _ = append(u.Gotos, nil) },
	}
}

// A copied table, and one with spare room, are the same, and share nothing; changed, they are told to be another one, or that they aren't as they were.
func TestTables(t *testing.T) {
	u, was := specimen.Blank(2, 1, 2), specimen.Blank(2, 1, 2)
	if given, asWas := specimen.SpareTable(u); !specimen.SameTables(given, u) || !asWas() {
		t.Fatal(given)
	}
	for i, change := range changedTables() {
		c := specimen.CopiedTable(u)
		if change(&c); specimen.SameTables(c, u) != (i > 4) || specimen.SameTables(u, c) != (i > 4) {
			t.Error(i, c)
		}
		given, asWas := specimen.SpareTable(u)
		if change(&given); asWas() {
			t.Error(i, given)
		}
	}
	if !specimen.SameTables(u, was) || specimen.SameTables(u, specimen.Blank(3, 1, 2)) {
		t.Error(u, was)
	}
}
