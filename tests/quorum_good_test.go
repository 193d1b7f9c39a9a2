package tests

import (
	"math"
	"slices"
	"testing"

	"loop.example/g00218/impl"
)

func group(nodes ...int) impl.Group {
	return impl.Group{Nodes: nodes}
}

// groupsOf are all good groups of n nodes.
func groupsOf(n int) []impl.Group {
	all := []impl.Group{{}}
	for node := range n {
		for _, g := range all {
			all = append(all, group(append(slices.Clone(g.Nodes), node)...))
		}
	}
	return all
}

// ones are n votes of one each.
func ones(n int) []int {
	return slices.Repeat([]int{1}, n)
}

type groupOfNodes struct {
	g impl.Group
	n int
}

func goodGroupings() []groupOfNodes {
	return []groupOfNodes{
		{group(), 1}, {group(0), 1},
		{group(), 2}, {group(0), 2}, {group(1), 2}, {group(0, 1), 2},
		{impl.Group{Nodes: []int{}}, 3}, {group(0, 2), 3}, {group(1, 2), 3}, {group(0, 1, 2), 3},
		{group(), 12}, {group(11), 12}, {group(0, 11), 12}, {group(10, 11), 12}, {group(0, 1, 2, 3, 4, 5, 6, 7, 8, 9, 10, 11), 12},
		{group(1, 3, 5, 7, 9, 11), 12}, {group(10), 11},
	}
}

func badGroupings() []groupOfNodes {
	all := []groupOfNodes{
		// a node that is none
		{group(-1), 1}, {group(1), 1}, {group(2), 1}, {group(-1), 3}, {group(3), 3}, {group(4), 3}, {group(-1), 12}, {group(12), 12}, {group(13), 12},
		{group(-1, 0), 3}, {group(0, -1), 3}, {group(0, 3), 3}, {group(0, 1, 2, 3), 3}, {group(-1, 0, 1), 2}, {group(11), 11}, {group(0, 1, 12), 12},
		{group(math.MinInt), 3}, {group(math.MaxInt), 3}, {group(math.MinInt, 0), 3}, {group(0, math.MaxInt), 3},
		{group(16), 12}, {group(63), 12}, {group(64), 12}, {group(1 << 32), 12}, {group(-64), 12}, {group(0, 64), 12},
		// two alike
		{group(0, 0), 1}, {group(0, 0), 2}, {group(1, 1), 2}, {group(0, 1, 1), 3}, {group(0, 0, 1), 3}, {group(11, 11), 12}, {group(0, 1, 0), 3},
		// two that fall
		{group(1, 0), 2}, {group(2, 1), 3}, {group(0, 2, 1), 3}, {group(1, 0, 2), 3}, {group(11, 0), 12}, {group(0, 2, 4, 3), 12},
		{impl.Group{Nodes: make([]int, 13)}, 12}, {impl.Group{Nodes: make([]int, 100000)}, 12}, {impl.Group{Nodes: upTo(13)}, 12}, {impl.Group{Nodes: upTo(100000)}, 12},
	}
	for _, n := range []int{0, -1, 13, 14, 16, 64, 100, math.MinInt, math.MaxInt, 1 << 32, 1<<32 + 3} {
		all = append(all, groupOfNodes{group(), n}, groupOfNodes{group(0), n}, groupOfNodes{group(0, 1), n}, groupOfNodes{group(-1), n})
	}
	return append(all, groupOfNodes{group(12), 13}, groupOfNodes{impl.Group{Nodes: upTo(13)}, 13})
}

// goodGroupAgain tells the document's words a second time: a good group is what is left of all nodes, in order, if those go that it has not.
func goodGroupAgain(g impl.Group, n int) bool {
	if n < 1 || n > 12 {
		return false
	}
	var left []int
	for _, node := range upTo(n) {
		if slices.Contains(g.Nodes, node) {
			left = append(left, node)
		}
	}
	return slices.Equal(left, g.Nodes)
}

func TestGoodGroups(t *testing.T) {
	for _, x := range goodGroupings() {
		if !impl.GoodGroup(x.g, x.n) || !goodGroupAgain(x.g, x.n) {
			t.Errorf("%v of %d is good", x.g, x.n)
		}
	}
	for n := 1; n <= 12; n++ {
		for _, g := range groupsOf(n) {
			if !impl.GoodGroup(g, n) {
				t.Errorf("%v of %d is good", g, n)
			}
		}
	}
}

// checkNoGroup asks for the zero answer of all that is asked of a group that is none of n nodes.
func checkNoGroup(t *testing.T, g impl.Group, n int) {
	t.Helper()
	if impl.GoodGroup(g, n) {
		t.Errorf("%v of %d is not good", g, n)
	}
	if is, ok := impl.IsMajority(g, n); is || ok {
		t.Error("IsMajority", g, n, is, ok)
	}
	votes := ones(min(max(n, 0), 14))
	if weight, ok := impl.WeightOf(votes, g); weight != 0 || ok {
		t.Error("WeightOf", votes, g, weight, ok)
	}
	if is, ok := impl.IsRead(votes, 1, g); is || ok {
		t.Error("IsRead", votes, g, is, ok)
	}
	if is, ok := impl.IsWrite(votes, 1, g); is || ok {
		t.Error("IsWrite", votes, g, is, ok)
	}
	for _, other := range []impl.Group{{}, group(0), g} {
		if both, ok := impl.MeetOf(g, other, n); len(both.Nodes) > 0 || ok {
			t.Error("MeetOf", g, other, n, both, ok)
		}
		if both, ok := impl.MeetOf(other, g, n); len(both.Nodes) > 0 || ok {
			t.Error("MeetOf", other, g, n, both, ok)
		}
		for _, l := range [][]impl.Group{{g}, {g, other}, {other, g}, {other, other, g}, {{}, g}, {group(0), g, group(0)}} {
			checkNoSets(t, n, l)
		}
	}
}

// checkNoSets asks for the zero answer of groups of which one is not good, or of too many.
func checkNoSets(t *testing.T, n int, l []impl.Group) {
	t.Helper()
	if all, ok := impl.AllMeet(n, l); all || ok {
		t.Error("AllMeet", n, l, all, ok)
	}
	if minimal, ok := impl.MinimalOf(n, l); len(minimal) > 0 || ok {
		t.Error("MinimalOf", n, l, minimal, ok)
	}
}

func TestBadGroupsHaveTheZeroAnswer(t *testing.T) {
	for _, x := range badGroupings() {
		checkNoGroup(t, x.g, x.n)
	}
	for _, n := range []int{0, -1, 13, 14, math.MinInt, math.MaxInt} {
		checkNoSets(t, n, nil)
		checkNoSets(t, n, []impl.Group{})
	}
}

// All lists of up to four numbers about the nodes of n are good just where the document's words say so.
func TestAllSmallGroups(t *testing.T) {
	lists := [][]int{nil}
	for from := 0; len(lists) < 2000; {
		end := len(lists)
		for _, l := range lists[from:end] {
			for node := -1; node <= 5; node++ {
				lists = append(lists, append(slices.Clone(l), node))
			}
		}
		from = end
	}
	good := 0
	for _, l := range lists {
		for n := -1; n <= 14; n++ {
			g := group(l...)
			want := goodGroupAgain(g, n)
			if impl.GoodGroup(g, n) != want {
				t.Errorf("%v of %d: not %v", g, n, want)
			}
			if !want {
				checkNoGroup(t, g, n)
				continue
			}
			good++
		}
	}
	if good < 300 {
		t.Error(good)
	}
}

func TestIsMajority(t *testing.T) {
	for _, x := range []struct {
		g    impl.Group
		n    int
		want bool
	}{
		{group(), 1, false}, {group(0), 1, true},
		{group(), 2, false}, {group(0), 2, false}, {group(1), 2, false}, {group(0, 1), 2, true},
		{group(2), 3, false}, {group(0, 2), 3, true}, {group(0, 1, 2), 3, true},
		{group(0, 3), 4, false}, {group(1, 2, 3), 4, true},
		{group(3, 4), 5, false}, {group(0, 2, 4), 5, true},
		{group(0, 1, 2, 3, 4), 11, false}, {group(5, 6, 7, 8, 9, 10), 11, true},
		{group(6, 7, 8, 9, 10, 11), 12, false}, {group(5, 6, 7, 8, 9, 10, 11), 12, true}, {impl.Group{Nodes: upTo(12)}, 12, true},
	} {
		if is, ok := impl.IsMajority(x.g, x.n); is != x.want || !ok {
			t.Errorf("%v of %d: %v %v", x.g, x.n, is, ok)
		}
	}
}

// More than half: those that are in it are more than those that are not.
func TestMajorityIsMoreThanTheRest(t *testing.T) {
	for n := 1; n <= 12; n++ {
		for _, g := range groupsOf(n) {
			in, out := 0, 0
			for _, node := range upTo(n) {
				if slices.Contains(g.Nodes, node) {
					in++
				} else {
					out++
				}
			}
			if is, ok := impl.IsMajority(g, n); is != (in > out) || !ok {
				t.Errorf("%v of %d: %v %v", g, n, is, ok)
			}
		}
	}
}

// majoritiesOf are the groups of n nodes that are majorities, or, with just so many nodes, those of them.
func majoritiesOf(n int, nodes int) []impl.Group {
	var all []impl.Group
	for _, g := range groupsOf(n) {
		if is, _ := impl.IsMajority(g, n); is && (nodes == 0 || len(g.Nodes) == nodes) {
			all = append(all, g)
		}
	}
	return all
}

// Promise 8: majorities meet.
func TestMajoritiesMeet(t *testing.T) {
	for n := 1; n <= 12; n++ {
		all := majoritiesOf(n, 0)
		if n > 8 { // the least of them have the fewest nodes to meet in
			all = majoritiesOf(n, n/2+1)
		}
		if len(all) == 0 {
			t.Errorf("of %d nodes none", n)
		}
		for i, a := range all {
			for _, b := range all[i:] {
				if both, ok := impl.MeetOf(a, b, n); len(both.Nodes) == 0 || !ok {
					t.Fatalf("%v and %v of %d: %v %v", a, b, n, both, ok)
				}
			}
		}
		for first := 0; first < len(all); first += impl.MaxSets {
			if meet, ok := impl.AllMeet(n, all[first:min(first+impl.MaxSets, len(all))]); !meet || !ok {
				t.Fatalf("majorities of %d: %v %v", n, meet, ok)
			}
		}
	}
}

// Just half of the nodes are no majority, for the other half does not meet it.
func TestHalvesNeedNotMeet(t *testing.T) {
	for n := 2; n <= 12; n += 2 {
		a, b := group(upTo(n)[:n/2]...), group(upTo(n)[n/2:]...)
		both, ok := impl.MeetOf(a, b, n)
		if len(both.Nodes) > 0 || !ok {
			t.Error(a, b, both, ok)
		}
		isA, okA := impl.IsMajority(a, n)
		isB, okB := impl.IsMajority(b, n)
		if isA || !okA || isB || !okB {
			t.Error(a, isA, okA, b, isB, okB)
		}
	}
}
