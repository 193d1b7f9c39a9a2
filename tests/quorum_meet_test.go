package tests

import (
	"slices"
	"testing"

	"loop.example/g00218/impl"
)

// meetAgain keeps of the one group what is in the other one.
func meetAgain(a, b impl.Group) []int {
	var both []int
	for _, node := range a.Nodes {
		if slices.Contains(b.Nodes, node) {
			both = append(both, node)
		}
	}
	return both
}

// allMeetAgain tells the document's words a second time: any two, or one alone with itself.
func allMeetAgain(l []impl.Group) bool {
	if len(l) == 1 {
		return len(l[0].Nodes) > 0
	}
	for i, a := range l {
		for j, b := range l {
			if i != j && len(meetAgain(a, b)) == 0 {
				return false
			}
		}
	}
	return true
}

func sameGroup(a, b impl.Group) bool {
	return slices.Equal(a.Nodes, b.Nodes)
}

// minimalAgain tells the document's words a second time, list by list.
func minimalAgain(l []impl.Group) []impl.Group {
	var minimal []impl.Group
	for _, g := range l {
		isLess := func(other impl.Group) bool {
			return len(meetAgain(other, g)) == len(other.Nodes) && !sameGroup(g, other)
		}
		isSame := func(other impl.Group) bool { return sameGroup(g, other) }
		if !slices.ContainsFunc(l, isLess) && !slices.ContainsFunc(minimal, isSame) {
			minimal = append(minimal, g)
		}
	}
	return minimal
}

// checkSets asks what groups answer, against the document's words told a second time, and tells whether all meet.
func checkSets(t *testing.T, n int, l []impl.Group) bool {
	t.Helper()
	meet, ok := impl.AllMeet(n, l)
	if meet != allMeetAgain(l) || !ok {
		t.Errorf("AllMeet of %d nodes, %v: %v %v", n, l, meet, ok)
	}
	minimal, ok := impl.MinimalOf(n, l)
	if want := minimalAgain(l); !ok || !slices.EqualFunc(minimal, want, sameGroup) {
		t.Errorf("MinimalOf of %d nodes, %v: %v %v, not %v", n, l, minimal, ok, want)
	}
	// AllMeet of groups and of MinimalOf of them answer alike
	if again, ok := impl.AllMeet(n, minimal); again != meet || !ok {
		t.Errorf("AllMeet of %d nodes, %v: %v, of those that are minimal, %v: %v %v", n, l, meet, minimal, again, ok)
	}
	// what is minimal stays so
	if again, ok := impl.MinimalOf(n, minimal); !ok || !slices.EqualFunc(again, minimal, sameGroup) {
		t.Errorf("MinimalOf of %d nodes, %v: %v %v", n, minimal, again, ok)
	}
	return meet
}

func TestMeetOf(t *testing.T) {
	for _, x := range []struct {
		a, b impl.Group
		n    int
		want []int
	}{
		{group(), group(), 1, nil}, {group(0), group(), 1, nil}, {group(), group(0), 1, nil}, {group(0), group(0), 1, []int{0}},
		// nothing in both
		{group(0), group(1), 2, nil}, {group(0, 2, 4), group(1, 3, 5), 6, nil}, {group(0, 1), group(10, 11), 12, nil},
		// one within the other
		{group(1), group(0, 1, 2), 3, []int{1}}, {group(0, 1, 2), group(1), 3, []int{1}}, {group(0, 2), group(0, 1, 2), 3, []int{0, 2}}, {group(), group(0, 1, 2), 3, nil},
		{group(0, 11), impl.Group{Nodes: upTo(12)}, 12, []int{0, 11}}, {impl.Group{Nodes: upTo(12)}, impl.Group{Nodes: upTo(12)}, 12, upTo(12)},
		// some of each
		{group(0, 1), group(1, 2), 3, []int{1}}, {group(0, 1, 2, 3), group(2, 3, 4), 5, []int{2, 3}}, {group(0, 5, 11), group(0, 6, 11), 12, []int{0, 11}},
		// of more nodes the answer is the same
		{group(0, 1), group(1, 2), 12, []int{1}},
	} {
		if both, ok := impl.MeetOf(x.a, x.b, x.n); !ok || !slices.Equal(both.Nodes, x.want) {
			t.Errorf("%v and %v of %d: %v %v", x.a, x.b, x.n, both, ok)
		}
	}
}

func TestMeetOfAllSmallGroups(t *testing.T) {
	for n := 1; n <= 6; n++ {
		for _, a := range groupsOf(n) {
			for _, b := range groupsOf(n) {
				both, ok := impl.MeetOf(a, b, n)
				if !ok || !slices.Equal(both.Nodes, meetAgain(a, b)) {
					t.Errorf("%v and %v of %d: %v %v", a, b, n, both, ok)
				}
			}
		}
	}
}

func TestMeetOfGroupsThatAreNotGood(t *testing.T) {
	good := group(0, 1)
	for _, x := range []struct {
		a, b impl.Group
		n    int
	}{
		{good, group(2), 2}, {group(2), good, 2}, {good, group(-1, 0), 2}, {good, group(1, 0), 2}, {group(0, 0), good, 2}, {good, good, 1}, {good, good, 0}, {good, good, 13}, {group(12), group(12), 12}, {group(12), group(12), 13},
	} {
		if both, ok := impl.MeetOf(x.a, x.b, x.n); len(both.Nodes) > 0 || ok {
			t.Errorf("%v and %v of %d: %v %v", x.a, x.b, x.n, both, ok)
		}
	}
}

func TestAllMeet(t *testing.T) {
	for _, x := range []struct {
		n    int
		l    []impl.Group
		want bool
	}{
		{1, nil, true}, {12, []impl.Group{}, true},
		{1, []impl.Group{group(0)}, true}, {1, []impl.Group{{}}, false}, {12, []impl.Group{group(11)}, true}, {12, []impl.Group{{}}, false},
		{3, []impl.Group{group(0, 1), group(1, 2)}, true}, {3, []impl.Group{group(0), group(1, 2)}, false}, {3, []impl.Group{group(0), {}}, false}, {3, []impl.Group{{}, group(0)}, false},
		// two that meet and a third that does not meet one of them, or either
		{3, []impl.Group{group(0, 1), group(1, 2), group(0)}, false}, {3, []impl.Group{group(0), group(0, 1), group(1, 2)}, false}, {3, []impl.Group{group(0, 1), group(0), group(1, 2)}, false},
		{4, []impl.Group{group(0, 1), group(1, 2), group(3)}, false}, {4, []impl.Group{group(3), group(0, 1), group(1, 2)}, false},
		// any two of three, though no node is in all
		{3, []impl.Group{group(0, 1), group(1, 2), group(0, 2)}, true},
		// twice
		{2, []impl.Group{group(1), group(1)}, true}, {2, []impl.Group{{}, {}}, false}, {2, []impl.Group{group(0), group(1), group(0)}, false}, {2, []impl.Group{group(0), group(1), group(1)}, false},
		{12, []impl.Group{group(0, 11), group(1, 11), group(2, 11)}, true}, {12, []impl.Group{group(0, 11), group(1, 11), group(2, 10)}, false},
		{3, slices.Repeat([]impl.Group{group(2)}, 40), true}, {3, append(slices.Repeat([]impl.Group{group(2)}, 39), group(0, 1)), false}, {3, append([]impl.Group{group(0, 1)}, slices.Repeat([]impl.Group{group(2)}, 39)...), false},
		{3, append(slices.Repeat([]impl.Group{group(2)}, 39), group()), false}, {3, slices.Repeat([]impl.Group{{}}, 40), false},
	} {
		if meet, ok := impl.AllMeet(x.n, x.l); meet != x.want || !ok {
			t.Errorf("%v of %d: %v %v", x.l, x.n, meet, ok)
		}
	}
}

func TestMinimalOf(t *testing.T) {
	for _, x := range []struct {
		n    int
		l    []impl.Group
		want []impl.Group
	}{
		{1, nil, nil}, {12, []impl.Group{}, nil},
		{1, []impl.Group{{}}, []impl.Group{{}}}, {1, []impl.Group{group(0)}, []impl.Group{group(0)}},
		// one within another one, wherever it stands
		{3, []impl.Group{group(0, 1), group(0)}, []impl.Group{group(0)}}, {3, []impl.Group{group(0), group(0, 1)}, []impl.Group{group(0)}},
		{4, []impl.Group{group(0, 1, 2), group(2, 3), group(0, 2)}, []impl.Group{group(2, 3), group(0, 2)}},
		{4, []impl.Group{group(0, 1, 2, 3), group(0, 1, 2), group(0, 1), group(0)}, []impl.Group{group(0)}}, {4, []impl.Group{group(0), group(0, 1), group(0, 1, 2), group(0, 1, 2, 3)}, []impl.Group{group(0)}},
		// the same one twice
		{2, []impl.Group{group(1), group(1)}, []impl.Group{group(1)}}, {2, []impl.Group{{}, {}}, []impl.Group{{}}}, {3, []impl.Group{group(0, 1), group(0), group(0)}, []impl.Group{group(0)}},
		{3, []impl.Group{group(0, 1), group(2), group(0, 1), group(2)}, []impl.Group{group(0, 1), group(2)}}, {3, []impl.Group{group(0, 1), group(0, 1), group(1)}, []impl.Group{group(1)}},
		// the one without nodes is within all
		{3, []impl.Group{group(0), {}, group(1, 2)}, []impl.Group{{}}}, {3, []impl.Group{{}, group(0, 1, 2)}, []impl.Group{{}}}, {3, []impl.Group{group(0), group(1), {}, {}}, []impl.Group{{}}},
		// in order, each where it stands first
		{4, []impl.Group{group(3), group(1), group(2), group(0)}, []impl.Group{group(3), group(1), group(2), group(0)}},
		{4, []impl.Group{group(2, 3), group(0, 1), group(1, 2), group(2, 3), group(0, 1)}, []impl.Group{group(2, 3), group(0, 1), group(1, 2)}},
		{4, []impl.Group{group(1, 2, 3), group(0, 3), group(2), group(0, 2), group(0, 3)}, []impl.Group{group(0, 3), group(2)}},
		// as many nodes, but none within the other
		{12, []impl.Group{group(10, 11), group(0, 11), group(0, 10, 11)}, []impl.Group{group(10, 11), group(0, 11)}},
	} {
		if minimal, ok := impl.MinimalOf(x.n, x.l); !ok || !slices.EqualFunc(minimal, x.want, sameGroup) {
			t.Errorf("%v of %d: %v %v", x.l, x.n, minimal, ok)
		}
	}
}

// groupLists are all lists of just so many groups of n nodes.
func groupLists(n, many int) [][]impl.Group {
	lists := [][]impl.Group{nil}
	for range many {
		var longer [][]impl.Group
		for _, l := range lists {
			for _, g := range groupsOf(n) {
				longer = append(longer, append(slices.Clone(l), g))
			}
		}
		lists = longer
	}
	return lists
}

func TestAllSmallGroupLists(t *testing.T) {
	for _, x := range []struct{ n, many int }{{1, 0}, {1, 1}, {1, 4}, {2, 1}, {2, 2}, {2, 4}, {3, 1}, {3, 2}, {3, 3}, {3, 4}, {4, 2}, {4, 3}, {5, 2}, {12, 1}} {
		for _, l := range groupLists(x.n, x.many) {
			checkSets(t, x.n, l)
		}
	}
}

// groupsLike are groups of n nodes by a fixed rule that the seed sets going: many or few nodes each, some of them twice.
func groupsLike(seed uint64) (int, []impl.Group) {
	m := mixer(seed)
	n := 1 + m.below(12)
	often := 1 + m.below(4)
	var l []impl.Group
	for range m.below(41) {
		var g impl.Group
		for _, node := range upTo(n) {
			if m.below(5) < often {
				g.Nodes = append(g.Nodes, node)
			}
		}
		if len(l) > 0 && m.below(6) == 0 {
			g = l[m.below(len(l))]
		}
		l = append(l, g)
	}
	return n, l
}

func TestManyGroupLists(t *testing.T) {
	meet, apart := 0, 0
	for seed := range 3000 {
		n, l := groupsLike(uint64(seed))
		if checkSets(t, n, l) {
			meet++
		} else {
			apart++
		}
		if seed%10 == 0 { // the other way round the order is another one
			back := slices.Clone(l)
			slices.Reverse(back)
			checkSets(t, n, back)
		}
	}
	if meet < 300 || apart < 300 {
		t.Error(meet, apart)
	}
}

func TestLimitOfSets(t *testing.T) {
	for _, g := range []impl.Group{{}, group(0), group(0, 1, 2)} {
		checkSets(t, 3, slices.Repeat([]impl.Group{g}, 39))
		checkSets(t, 3, slices.Repeat([]impl.Group{g}, 40))
		checkNoSets(t, 3, slices.Repeat([]impl.Group{g}, 41))
		checkNoSets(t, 3, slices.Repeat([]impl.Group{g}, 10000))
	}
	all := groupsOf(6)
	checkSets(t, 6, all[:40])
	checkSets(t, 6, all[24:])
	checkNoSets(t, 6, all[:41])
	checkNoSets(t, 6, all)
	// forty of which none is within another one
	sevens := majoritiesOf(12, 7)[:40]
	if minimal, ok := impl.MinimalOf(12, sevens); !ok || !sameGroups(minimal, sevens) {
		t.Error(minimal, ok)
	}
}

// One group that is not good, wherever it stands, lets none of the others through; also where two ahead of it do not meet.
func TestOneBadGroupSpoilsAll(t *testing.T) {
	for _, bad := range []impl.Group{group(-1), group(4), group(0, 0), group(2, 1), group(0, 12), {Nodes: upTo(5)}} {
		for at := range 40 {
			for _, g := range []impl.Group{group(0), {}, group(0, 1, 2, 3)} {
				l := slices.Repeat([]impl.Group{g}, 40)
				l[at] = bad
				checkNoSets(t, 4, l)
			}
		}
		checkNoSets(t, 4, []impl.Group{group(0), group(1), bad})
	}
}
