package tests

import (
	"math"
	"slices"
	"testing"

	"loop.example/g00218/impl"
)

// aheadTable tells what is ahead of what by the document's words alone: the two causes, and then through one between, until nothing is new.
func aheadTable(l []impl.Event) [][]bool {
	ahead := make([][]bool, len(l))
	for i, a := range l {
		ahead[i] = make([]bool, len(l))
		for j, b := range l {
			ahead[i][j] = a.Proc == b.Proc && i < j ||
				a.Kind == impl.EventSend && b.Kind == impl.EventTake && a.Msg == b.Msg
		}
	}
	for between := range l {
		for i := range l {
			for j := range l {
				if ahead[i][between] && ahead[between][j] {
					ahead[i][j] = true
				}
			}
		}
	}
	return ahead
}

// lessClock is the order of clocks, told a second time.
func lessClock(a, b impl.Clock) bool {
	one := false
	for i := range a.At {
		if a.At[i] > b.At[i] {
			return false
		}
		one = one || a.At[i] < b.At[i]
	}
	return one
}

func manyHistories() [][]impl.Event {
	return slices.Concat(goodHistories(), smallHistories(5, 2), smallHistories(4, 3), longHistories())
}

// twoCauses are takings: of some the event of their Proc is the greater cause, of some the sending, of some both are alike.
var twoCauses = []struct {
	events  []impl.Event
	lamport []int
	last    []int
}{
	{ // the event of its Proc is the greater one
		[]impl.Event{send(0, 1), local(1), local(1), local(1), take(1, 1)},
		[]int{1, 1, 2, 3, 4},
		[]int{1, 4, 0, 0, 0, 0},
	},
	{ // the sending is the greater one
		[]impl.Event{local(0), local(0), send(0, 1), local(1), take(1, 1)},
		[]int{1, 2, 3, 1, 4},
		[]int{3, 2, 0, 0, 0, 0},
	},
	{ // both are alike
		[]impl.Event{local(0), send(0, 1), local(1), local(1), take(1, 1)},
		[]int{1, 2, 1, 2, 3},
		[]int{2, 3, 0, 0, 0, 0},
	},
	{ // there is only the sending
		[]impl.Event{local(5), send(5, 1000), take(2, 1000)},
		[]int{1, 2, 3},
		[]int{0, 0, 1, 0, 0, 2},
	},
	{ // both are of one Proc
		[]impl.Event{send(3, 8), local(3), take(3, 8)},
		[]int{1, 2, 3},
		[]int{0, 0, 0, 3, 0, 0},
	},
	{ // each cause is the greater one at some place of the clocks
		[]impl.Event{send(2, 1), send(3, 2), local(0), take(0, 1), send(0, 3), take(1, 2), local(1), local(1), local(1), take(1, 3)},
		[]int{1, 1, 1, 2, 3, 2, 3, 4, 5, 6},
		[]int{3, 5, 1, 1, 0, 0},
	},
	{ // one greater in turn, then the other
		[]impl.Event{local(0), local(0), send(0, 1), take(1, 1), local(1), local(1), send(1, 2), local(0), take(0, 2), send(0, 3), local(1), local(1), local(1), local(1), take(1, 3)},
		[]int{1, 2, 3, 4, 5, 6, 7, 4, 8, 9, 8, 9, 10, 11, 12},
		[]int{6, 9, 0, 0, 0, 0},
	},
}

func TestTakingHasTwoCauses(t *testing.T) {
	for _, c := range twoCauses {
		end := len(c.events) - 1
		if x, ok := impl.LamportOf(c.events); !ok || !slices.Equal(x, c.lamport) {
			t.Errorf("LamportOf %+v: %v %v", c.events, x, ok)
		}
		v, ok := impl.VectorOf(c.events)
		if !ok || len(v) != end+1 || !slices.Equal(v[end].At, c.last) {
			t.Errorf("VectorOf %+v: %v %v", c.events, v, ok)
		}
		for i, e := range c.events[:end] {
			isCause := e.Proc == c.events[end].Proc || e.Msg == c.events[end].Msg
			if ahead, ok := impl.AheadOf(c.events, i, end); isCause && !ahead || !ok {
				t.Errorf("AheadOf %+v, %d, %d: %v %v", c.events, i, end, ahead, ok)
			}
		}
	}
}

func TestLamportOf(t *testing.T) {
	for _, l := range manyHistories() {
		times, ok := impl.LamportOf(l)
		if !ok || len(times) != len(l) {
			t.Fatalf("%+v: %v %v", l, times, ok)
		}
		ahead := aheadTable(l)
		for j := range l {
			greatest := 0
			for i := range l {
				if ahead[i][j] {
					greatest = max(greatest, times[i])
				}
			}
			if times[j] != greatest+1 {
				t.Errorf("%+v: event %d has %d", l, j, times[j])
			}
		}
	}
}

// Lamport's clock condition, by what the program itself says is ahead.
func TestWhatIsAheadHasALesserNumber(t *testing.T) {
	for _, l := range slices.Concat(smallHistories(4, 2), longHistories()[:8]) {
		times, _ := impl.LamportOf(l)
		for i := range l {
			for j := range l {
				if ahead, _ := impl.AheadOf(l, i, j); ahead && times[i] >= times[j] {
					t.Errorf("%+v: %d is ahead of %d: %v", l, i, j, times)
				}
			}
		}
	}
}

func TestVectorOf(t *testing.T) {
	for _, l := range manyHistories() {
		clocks, ok := impl.VectorOf(l)
		if !ok || len(clocks) != len(l) {
			t.Fatalf("%+v: %v %v", l, clocks, ok)
		}
		ahead := aheadTable(l)
		for j := range l {
			want := make([]int, impl.MaxProcs)
			for i, e := range l {
				if ahead[i][j] || i == j {
					want[e.Proc]++
				}
			}
			if !slices.Equal(clocks[j].At, want) {
				t.Errorf("%+v: event %d has %v", l, j, clocks[j].At)
			}
		}
	}
}

func TestAheadOf(t *testing.T) {
	for _, l := range slices.Concat(goodHistories(), smallHistories(4, 2), longHistories()[:8]) {
		table := aheadTable(l)
		for i := range l {
			for j := range l {
				if ahead, ok := impl.AheadOf(l, i, j); ahead != table[i][j] || !ok {
					t.Errorf("%+v, %d, %d: %v %v", l, i, j, ahead, ok)
				}
			}
		}
	}
}

// Fidge's and Mattern's: an event is ahead of another one just where its clock is less.
func TestClocksTellWhatIsAhead(t *testing.T) {
	for _, l := range manyHistories() {
		clocks, _ := impl.VectorOf(l)
		ahead := aheadTable(l)
		for i := range clocks {
			for j := range clocks {
				if lessClock(clocks[i], clocks[j]) != ahead[i][j] {
					t.Errorf("%+v: %d and %d: %v %v", l, i, j, clocks[i], clocks[j])
				}
				order, ok := impl.CompareClock(clocks[i], clocks[j])
				if !ok || (order == -1) != ahead[i][j] || (order == 1) != ahead[j][i] || (order == 0) != (i == j) {
					t.Errorf("%+v: %d and %d: %d %v", l, i, j, order, ok)
				}
			}
		}
	}
}

func TestAheadOfNumbersThatAreNone(t *testing.T) {
	l := []impl.Event{local(0), send(0, 1), take(1, 1)}
	for _, n := range []int{-1, 3, 4, math.MinInt, math.MaxInt} {
		for i := range l {
			if ahead, ok := impl.AheadOf(l, n, i); ahead || ok {
				t.Errorf("%d, %d: %v %v", n, i, ahead, ok)
			}
			if ahead, ok := impl.AheadOf(l, i, n); ahead || ok {
				t.Errorf("%d, %d: %v %v", i, n, ahead, ok)
			}
		}
		if ahead, ok := impl.AheadOf(l, n, n); ahead || ok {
			t.Errorf("%d, %d: %v %v", n, n, ahead, ok)
		}
	}
	for _, n := range []int{-1, 0, 1} {
		if ahead, ok := impl.AheadOf(nil, n, n); ahead || ok {
			t.Errorf("of none, %d: %v %v", n, ahead, ok)
		}
	}
}

func TestNoEventsHaveNoClocks(t *testing.T) {
	for _, l := range [][]impl.Event{nil, {}} {
		if x, ok := impl.LamportOf(l); len(x) != 0 || !ok {
			t.Error(x, ok)
		}
		if x, ok := impl.VectorOf(l); len(x) != 0 || !ok {
			t.Error(x, ok)
		}
		if good, ok := impl.GoodCut(l, make([]int, impl.MaxProcs)); !good || !ok {
			t.Error(good, ok)
		}
	}
}
