package tests

import (
	"math"
	"slices"
	"testing"

	"loop.example/g00218/impl"
)

// gridAgain goes through all nodes of a grid, and takes those of the row or of the column.
func gridAgain(rows, cols, row, col int) impl.Group {
	var g impl.Group
	node := 0
	for i := range rows {
		for j := range cols {
			if i == row || j == col {
				g.Nodes = append(g.Nodes, node)
			}
			node++
		}
	}
	return g
}

type grid struct{ rows, cols int }

// allGrids are all that have rows and columns, and no more nodes than there may be.
func allGrids() []grid {
	var all []grid
	for rows := 1; rows <= 12; rows++ {
		for cols := 1; rows*cols <= 12; cols++ {
			all = append(all, grid{rows, cols})
		}
	}
	return all
}

func (x grid) quorums(t *testing.T) []impl.Group {
	t.Helper()
	var all []impl.Group
	for row := range x.rows {
		for col := range x.cols {
			g, ok := impl.GridQuorum(x.rows, x.cols, row, col)
			if !ok {
				t.Fatal(x, row, col)
			}
			all = append(all, g)
		}
	}
	return all
}

func TestGridQuorum(t *testing.T) {
	for _, x := range []struct {
		rows, cols, row, col int
		want                 []int
	}{
		{1, 1, 0, 0, []int{0}},
		{1, 4, 0, 2, []int{0, 1, 2, 3}}, {4, 1, 2, 0, []int{0, 1, 2, 3}},
		{1, 12, 0, 11, upTo(12)}, {1, 12, 0, 0, upTo(12)}, {12, 1, 11, 0, upTo(12)}, {12, 1, 0, 0, upTo(12)},
		{2, 2, 0, 0, []int{0, 1, 2}}, {2, 2, 0, 1, []int{0, 1, 3}}, {2, 2, 1, 0, []int{0, 2, 3}}, {2, 2, 1, 1, []int{1, 2, 3}},
		{2, 3, 1, 0, []int{0, 3, 4, 5}}, {2, 3, 0, 2, []int{0, 1, 2, 5}}, {3, 2, 1, 0, []int{0, 2, 3, 4}}, {3, 2, 2, 1, []int{1, 3, 4, 5}},
		{3, 4, 0, 0, []int{0, 1, 2, 3, 4, 8}}, {3, 4, 1, 2, []int{2, 4, 5, 6, 7, 10}}, {3, 4, 2, 3, []int{3, 7, 8, 9, 10, 11}}, {3, 4, 2, 0, []int{0, 4, 8, 9, 10, 11}},
		{4, 3, 0, 0, []int{0, 1, 2, 3, 6, 9}}, {4, 3, 2, 1, []int{1, 4, 6, 7, 8, 10}}, {4, 3, 3, 2, []int{2, 5, 8, 9, 10, 11}}, {4, 3, 3, 0, []int{0, 3, 6, 9, 10, 11}},
		{2, 6, 1, 5, []int{5, 6, 7, 8, 9, 10, 11}}, {6, 2, 5, 1, []int{1, 3, 5, 7, 9, 10, 11}}, {2, 5, 0, 4, []int{0, 1, 2, 3, 4, 9}}, {3, 3, 1, 1, []int{1, 3, 4, 5, 7}},
	} {
		if g, ok := impl.GridQuorum(x.rows, x.cols, x.row, x.col); !ok || !slices.Equal(g.Nodes, x.want) {
			t.Errorf("%+v: %v %v", x, g, ok)
		}
	}
}

// All grids, rows and columns about the limits are answered just as the document's words say.
func TestAllGrids(t *testing.T) {
	good := 0
	for rows := -1; rows <= 14; rows++ {
		for cols := -1; cols <= 14; cols++ {
			for row := -2; row <= 14; row++ {
				for col := -2; col <= 14; col++ {
					is := rows >= 1 && cols >= 1 && rows*cols <= 12 && row >= 0 && row < rows && col >= 0 && col < cols
					var want impl.Group
					if is {
						want = gridAgain(rows, cols, row, col)
						good++
					}
					if g, ok := impl.GridQuorum(rows, cols, row, col); ok != is || !slices.Equal(g.Nodes, want.Nodes) {
						t.Errorf("%d by %d, %d, %d: %v %v", rows, cols, row, col, g, ok)
					}
				}
			}
		}
	}
	if good != 264 { // each grid has as many places as nodes
		t.Error(good)
	}
}

func TestBadGridsHaveTheZeroAnswer(t *testing.T) {
	for _, x := range [][4]int{
		{0, 1, 0, 0}, {1, 0, 0, 0}, {0, 0, 0, 0}, {13, 1, 0, 0}, {1, 13, 0, 0}, {0, 13, 0, 0}, {13, 0, 0, 0}, {13, 13, 0, 0},
		{2, 7, 0, 0}, {7, 2, 0, 0}, {12, 2, 0, 0}, {2, 12, 0, 0}, {12, 12, 0, 0}, {4, 4, 0, 0}, {3, 5, 0, 0}, {5, 3, 0, 0},
		{3, 4, -1, 0}, {3, 4, 0, -1}, {3, 4, 3, 0}, {3, 4, 0, 4}, {4, 3, 4, 0}, {4, 3, 0, 3}, {1, 12, 1, 0}, {1, 12, 0, 12}, {12, 1, 12, 0}, {12, 1, 0, 1}, {1, 1, 1, 1}, {1, 1, -1, -1},
		{-1, -1, 0, 0}, {-3, -4, 0, 0}, {-1, 5, 0, 0}, {5, -1, 0, 0}, {-1, -1, -2, -2}, {-1, -12, -1, -1},
		{math.MaxInt, math.MaxInt, 0, 0}, {math.MinInt, math.MinInt, 0, 0}, {math.MinInt, math.MaxInt, 0, 0}, {math.MinInt, 2, 0, 0}, {2, math.MinInt, 0, 0}, {math.MaxInt, 1, 0, 0}, {1, math.MaxInt, 0, 0},
		{1 << 32, 1 << 32, 0, 0}, {1 << 62, 4, 0, 0}, {4, 1 << 62, 0, 0}, {1 << 61, 8, 1 << 60, 7}, {1<<32 + 3, 4, 0, 0}, {6148914691236517206, 3, 0, 0}, {3, 6148914691236517206, 0, 0},
		{3, 4, math.MinInt, 0}, {3, 4, 0, math.MinInt}, {3, 4, math.MaxInt, 0}, {3, 4, 0, math.MaxInt}, {3, 4, 1 << 32, 0}, {3, 4, 0, 1 << 32},
	} {
		if g, ok := impl.GridQuorum(x[0], x[1], x[2], x[3]); len(g.Nodes) > 0 || ok {
			t.Errorf("%v: %v %v", x, g, ok)
		}
	}
}

// The nodes rise, and the one where row and column cross is there once.
func TestGridQuorumsRise(t *testing.T) {
	for _, x := range allGrids() {
		for i, g := range x.quorums(t) {
			if !impl.GoodGroup(g, x.rows*x.cols) || len(g.Nodes) != x.rows+x.cols-1 {
				t.Errorf("%v: %v", x, g)
			}
			if !slices.Contains(g.Nodes, i) {
				t.Errorf("%v: %v has not %d, where both cross", x, g, i)
			}
		}
	}
}

// Promise 8: a row with a column meets any other one of the same grid.
func TestGridQuorumsMeet(t *testing.T) {
	for _, x := range allGrids() {
		n := x.rows * x.cols
		all := x.quorums(t)
		for i, a := range all {
			for j, b := range all {
				both, ok := impl.MeetOf(a, b, n)
				// the row of each crosses the column of the other
				one, other := i/x.cols*x.cols+j%x.cols, j/x.cols*x.cols+i%x.cols
				if !ok || !slices.Contains(both.Nodes, one) || !slices.Contains(both.Nodes, other) {
					t.Errorf("%v: %v and %v: %v %v", x, a, b, both, ok)
				}
			}
		}
		if meet, ok := impl.AllMeet(n, all); !meet || !ok {
			t.Errorf("%v: %v %v", x, meet, ok)
		}
	}
}

// Two rows without a column need not meet: it is the column that makes them.
func TestRowsAloneDoNotMeet(t *testing.T) {
	if both, ok := impl.MeetOf(group(0, 1, 2, 3), group(4, 5, 6, 7), 12); len(both.Nodes) > 0 || !ok {
		t.Error(both, ok)
	}
	if meet, ok := impl.AllMeet(12, []impl.Group{group(0, 1, 2, 3), group(4, 5, 6, 7), group(0, 4, 8)}); meet || !ok {
		t.Error(meet, ok)
	}
}
