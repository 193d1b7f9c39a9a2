package tests

import (
	"math"
	"slices"
	"testing"

	"loop.example/g00218/impl"
)

const mostOfClock = 1000000

func clock(at ...int) impl.Clock {
	return impl.Clock{At: at}
}

func goodClocks() []impl.Clock {
	return []impl.Clock{
		clock(0, 0, 0, 0, 0, 0),
		clock(1, 0, 0, 0, 0, 0),
		clock(0, 1, 0, 0, 0, 0),
		clock(0, 0, 0, 0, 0, 1),
		clock(1, 1, 1, 1, 1, 1),
		clock(1, 2, 3, 4, 5, 6),
		clock(6, 5, 4, 3, 2, 1),
		clock(1, 2, 3, 4, 5, 7),
		clock(0, 2, 3, 4, 5, 6),
		clock(mostOfClock, 0, 0, 0, 0, 0),
		clock(0, 0, 0, 0, 0, mostOfClock),
		clock(mostOfClock, mostOfClock, mostOfClock, mostOfClock, mostOfClock, mostOfClock),
	}
}

func badClocks() []impl.Clock {
	all := []impl.Clock{
		{},
		clock(),
		clock(0),
		clock(0, 0, 0, 0, 0),
		clock(0, 0, 0, 0, 0, 0, 0),
		{At: make([]int, 100)},
	}
	for _, n := range []int{-1, mostOfClock + 1, math.MinInt, math.MaxInt} {
		for p := range impl.MaxProcs {
			c := clock(1, 2, 3, 4, 5, 6)
			c.At[p] = n
			all = append(all, c)
		}
	}
	return all
}

func TestCompareClockHasFourAnswers(t *testing.T) {
	for _, c := range []struct {
		a, b impl.Clock
		want int
	}{
		{clock(0, 0, 0, 0, 0, 0), clock(0, 0, 0, 0, 0, 0), 0},
		{clock(1, 2, 3, 4, 5, 6), clock(1, 2, 3, 4, 5, 6), 0},
		{clock(1, 2, 3, 4, 5, 6), clock(1, 2, 3, 4, 5, 7), -1},
		{clock(1, 2, 3, 4, 5, 6), clock(2, 2, 3, 4, 5, 6), -1},
		{clock(1, 2, 3, 4, 5, 6), clock(2, 3, 4, 5, 6, 7), -1},
		{clock(1, 2, 3, 4, 5, 7), clock(1, 2, 3, 4, 5, 6), 1},
		{clock(2, 2, 3, 4, 5, 6), clock(1, 2, 3, 4, 5, 6), 1},
		{clock(2, 3, 4, 5, 6, 7), clock(1, 2, 3, 4, 5, 6), 1},
		{clock(0, 1, 0, 0, 0, 0), clock(1, 0, 0, 0, 0, 0), 2},
		{clock(1, 2, 3, 4, 5, 6), clock(0, 2, 3, 4, 5, 7), 2},
		{clock(0, 2, 3, 4, 5, 7), clock(1, 2, 3, 4, 5, 6), 2},
		{clock(9, 9, 9, 0, 9, 9), clock(0, 0, 0, 1, 0, 0), 2},
		{clock(0, 0, 0, 0, 0, 0), clock(mostOfClock, mostOfClock, mostOfClock, mostOfClock, mostOfClock, mostOfClock), -1},
	} {
		if n, ok := impl.CompareClock(c.a, c.b); n != c.want || !ok {
			t.Errorf("%v %v: %d %v", c.a, c.b, n, ok)
		}
	}
}

func TestCompareClockAgainstTheOrder(t *testing.T) {
	for _, a := range goodClocks() {
		for _, b := range goodClocks() {
			want := 2
			switch {
			case lessClock(a, b):
				want = -1
			case lessClock(b, a):
				want = 1
			case slices.Equal(a.At, b.At):
				want = 0
			}
			if n, ok := impl.CompareClock(a, b); n != want || !ok {
				t.Errorf("%v %v: %d %v", a, b, n, ok)
			}
		}
	}
}

func TestMergeClock(t *testing.T) {
	for _, a := range goodClocks() {
		for _, b := range goodClocks() {
			m, ok := impl.MergeClock(a, b)
			if !ok || len(m.At) != impl.MaxProcs {
				t.Fatalf("%v %v: %v %v", a, b, m, ok)
			}
			for i, n := range m.At {
				if n != max(a.At[i], b.At[i]) {
					t.Errorf("%v %v: %v", a, b, m)
				}
			}
		}
	}
}

func TestBadClocksHaveTheZeroAnswer(t *testing.T) {
	good := clock(1, 2, 3, 4, 5, 6)
	for _, bad := range badClocks() {
		for _, pair := range [][2]impl.Clock{{bad, good}, {good, bad}, {bad, bad}} {
			if n, ok := impl.CompareClock(pair[0], pair[1]); n != 0 || ok {
				t.Errorf("CompareClock %v: %d %v", pair, n, ok)
			}
			if m, ok := impl.MergeClock(pair[0], pair[1]); len(m.At) != 0 || ok {
				t.Errorf("MergeClock %v: %v %v", pair, m, ok)
			}
		}
	}
}

// cutsOf are all cuts of the events.
func cutsOf(l []impl.Event) [][]int {
	count := make([]int, impl.MaxProcs)
	for _, e := range l {
		count[e.Proc]++
	}
	cuts := [][]int{nil}
	for _, most := range count {
		var longer [][]int
		for _, c := range cuts {
			for n := range most + 1 {
				longer = append(longer, append(slices.Clone(c), n))
			}
		}
		cuts = longer
	}
	return cuts
}

// isClosed tells by the document's words whether a cut has with each event all that are ahead of it.
func isClosed(l []impl.Event, cut []int) bool {
	count := make([]int, impl.MaxProcs)
	in := make([]bool, len(l))
	for i, e := range l {
		in[i] = count[e.Proc] < cut[e.Proc]
		count[e.Proc]++
	}
	for i, row := range aheadTable(l) {
		for j, ahead := range row {
			if ahead && in[j] && !in[i] {
				return false
			}
		}
	}
	return true
}

func historiesToCut() [][]impl.Event {
	all := smallHistories(4, 3)
	for _, c := range twoCauses {
		all = append(all, c.events)
	}
	return append(all,
		[]impl.Event{send(0, 1), take(1, 1), send(1, 2), take(2, 2), send(2, 3), take(3, 3), send(3, 4), take(4, 4), send(4, 5), take(5, 5)},
		longHistory(1)[:14],
		longHistory(2)[:14])
}

func TestGoodCut(t *testing.T) {
	for _, l := range historiesToCut() {
		for _, cut := range cutsOf(l) {
			if good, ok := impl.GoodCut(l, cut); good != isClosed(l, cut) || !ok {
				t.Errorf("%+v %v: %v %v", l, cut, good, ok)
			}
		}
	}
}

func TestGoodCutOfManyEvents(t *testing.T) {
	for _, l := range append(longHistories(), locals(impl.MaxEvents)) {
		clocks, _ := impl.VectorOf(l)
		for i, c := range clocks {
			if good, ok := impl.GoodCut(l, c.At); !good || !ok {
				t.Errorf("%+v: the clock of %d: %v %v", l, i, good, ok)
			}
		}
		all := make([]int, impl.MaxProcs)
		for _, e := range l {
			all[e.Proc]++
			if good, ok := impl.GoodCut(l, all); !good || !ok {
				t.Errorf("%+v %v: %v %v", l, all, good, ok)
			}
		}
	}
	alone := make([]impl.Event, impl.MaxEvents)
	for i := range alone {
		alone[i] = local(4)
	}
	if good, ok := impl.GoodCut(alone, []int{0, 0, 0, 0, impl.MaxEvents, 0}); !good || !ok {
		t.Error(good, ok)
	}
}

func TestCutsThatAreNone(t *testing.T) {
	l := []impl.Event{local(0), send(0, 1), take(1, 1), local(5)}
	cuts := [][]int{nil, {}, {0}, {0, 0, 0, 0, 0}, {0, 0, 0, 0, 0, 0, 0}, make([]int, 100)}
	for p, most := range []int{2, 1, 0, 0, 0, 1} {
		for _, n := range []int{-1, most + 1, most + 2, 60, 61, math.MinInt, math.MaxInt} {
			cut := []int{2, 1, 0, 0, 0, 1}
			cut[p] = n
			cuts = append(cuts, cut)
		}
	}
	for _, cut := range cuts {
		if good, ok := impl.GoodCut(l, cut); good || ok {
			t.Errorf("%v: %v %v", cut, good, ok)
		}
	}
	if good, ok := impl.GoodCut(nil, []int{0, 0, 0, 1, 0, 0}); good || ok {
		t.Error(good, ok)
	}
}

// Good cuts are a lattice: what both have, and what either has, is a good cut again, the nearest one to both.
func TestGoodCutsAreALattice(t *testing.T) {
	for _, l := range historiesToCut() {
		var good [][]int
		for _, cut := range cutsOf(l) {
			if is, _ := impl.GoodCut(l, cut); is {
				good = append(good, cut)
			}
		}
		// All pairs of the longest histories would take too long.
		step := 1 + len(good)/60
		for i := 0; i < len(good); i += step {
			for _, b := range good {
				checkJoined(t, l, good[i], b)
			}
		}
	}
}

func checkJoined(t *testing.T, l []impl.Event, a, b []int) {
	for _, meet := range []bool{false, true} {
		c, ok := impl.JoinCuts(a, b, meet)
		if is, fits := impl.GoodCut(l, c); !ok || !is || !fits {
			t.Errorf("%+v: %v and %v, %v: %v", l, a, b, meet, c)
		}
	}
}

func TestJoinCuts(t *testing.T) {
	for _, c := range []struct{ a, b, join, meet []int }{
		{[]int{0, 0, 0, 0, 0, 0}, []int{0, 0, 0, 0, 0, 0}, []int{0, 0, 0, 0, 0, 0}, []int{0, 0, 0, 0, 0, 0}},
		{[]int{1, 2, 3, 4, 5, 6}, []int{6, 5, 4, 3, 2, 1}, []int{6, 5, 4, 4, 5, 6}, []int{1, 2, 3, 3, 2, 1}},
		{[]int{1, 2, 3, 4, 5, 6}, []int{0, 0, 0, 0, 0, 0}, []int{1, 2, 3, 4, 5, 6}, []int{0, 0, 0, 0, 0, 0}},
		{[]int{7, 7, 7, 7, 7, 7}, []int{7, 7, 7, 7, 7, 7}, []int{7, 7, 7, 7, 7, 7}, []int{7, 7, 7, 7, 7, 7}},
		{[]int{61, 0, 1000001, 0, 0, math.MaxInt}, []int{0, 62, 3, 0, 0, math.MaxInt - 1}, []int{61, 62, 1000001, 0, 0, math.MaxInt}, []int{0, 0, 3, 0, 0, math.MaxInt - 1}},
	} {
		for _, swap := range []bool{false, true} {
			a, b := c.a, c.b
			if swap {
				a, b = b, a
			}
			if x, ok := impl.JoinCuts(a, b, false); !ok || !slices.Equal(x, c.join) {
				t.Errorf("%v %v: %v %v", a, b, x, ok)
			}
			if x, ok := impl.JoinCuts(a, b, true); !ok || !slices.Equal(x, c.meet) {
				t.Errorf("%v %v, meet: %v %v", a, b, x, ok)
			}
		}
	}
}

func TestJoinCutsOfWrongLists(t *testing.T) {
	good := []int{1, 2, 3, 4, 5, 6}
	wrong := [][]int{nil, {}, {1}, {1, 2, 3, 4, 5}, {1, 2, 3, 4, 5, 6, 7}, make([]int, 100)}
	for p := range impl.MaxProcs {
		for _, n := range []int{-1, math.MinInt} {
			l := slices.Clone(good)
			l[p] = n
			wrong = append(wrong, l)
		}
	}
	for _, bad := range wrong {
		for _, pair := range [][2][]int{{bad, good}, {good, bad}, {bad, bad}} {
			for _, meet := range []bool{false, true} {
				if x, ok := impl.JoinCuts(pair[0], pair[1], meet); len(x) != 0 || ok {
					t.Errorf("%v, %v: %v %v", pair, meet, x, ok)
				}
			}
		}
	}
}
