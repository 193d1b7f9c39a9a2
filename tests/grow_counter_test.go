package tests

import (
	"math"
	"slices"
	"testing"

	"loop.example/g00218/impl"
)

func counter(up, down [6]int) impl.Counter {
	return impl.Counter{Up: up[:], Down: down[:]}
}

func plainCounter() impl.Counter {
	return counter([6]int{5, 0, 1000000, 3, 0, 7}, [6]int{0, 2, 999999, 3, 1, 0})
}

func deepCounter(c impl.Counter) impl.Counter {
	return impl.Counter{Up: slices.Clone(c.Up), Down: slices.Clone(c.Down)}
}

func sameCounter(a, b impl.Counter) bool {
	return slices.Equal(a.Up, b.Up) && slices.Equal(a.Down, b.Down)
}

func isZeroCounter(c impl.Counter) bool {
	return c.Up == nil && c.Down == nil
}

// edgeNumbers are numbers at and around what a counter may have.
func edgeNumbers() []int {
	return []int{-1, 0, 1, 1000000, 1000001, math.MinInt, math.MaxInt, 1 << 32, 1<<32 + 1, -1 << 32}
}

// countersWith are the plain counter with a number put at each place of each list.
func countersWith(n int) []impl.Counter {
	var l []impl.Counter
	for at := range 6 {
		up, down := plainCounter(), plainCounter()
		up.Up[at], down.Down[at] = n, n
		l = append(l, up, down)
	}
	return l
}

// counterOfLengths is a fresh one with so many numbers Up and Down.
func counterOfLengths(up, down int) impl.Counter {
	return impl.Counter{Up: make([]int, up), Down: make([]int, down)}
}

func goodCounters() []impl.Counter {
	l := []impl.Counter{plainCounter(), counterOfLengths(6, 6)}
	for _, n := range edgeNumbers() {
		if 0 <= n && n <= 1000000 {
			l = append(l, countersWith(n)...)
		}
	}
	return l
}

func badCounters() []impl.Counter {
	l := []impl.Counter{{}, {Up: make([]int, 6)}, {Down: make([]int, 6)}}
	for _, n := range edgeNumbers() {
		if n < 0 || n > 1000000 {
			l = append(l, countersWith(n)...)
		}
	}
	for _, n := range []int{0, 1, 5, 7, 12} {
		l = append(l, counterOfLengths(n, 6), counterOfLengths(6, n), counterOfLengths(n, n))
	}
	// as many numbers in all as a good one
	return append(l, counterOfLengths(5, 7), counterOfLengths(7, 5), counterOfLengths(12, 0), counterOfLengths(0, 12))
}

// goodCounterAgain tells the document's words a second time.
func goodCounterAgain(c impl.Counter) bool {
	for _, n := range slices.Concat(c.Up, c.Down) {
		if n < 0 || n > 1000000 {
			return false
		}
	}
	return len(c.Up) == 6 && len(c.Down) == 6
}

func countByAgain(c impl.Counter, actor, by int) (impl.Counter, bool) {
	if !goodCounterAgain(c) || actor < 0 || actor > 5 || by < -1000 || by > 1000 {
		return impl.Counter{}, false
	}
	c = deepCounter(c)
	c.Up[actor] += max(by, 0)
	c.Down[actor] += max(-by, 0)
	if c.Up[actor] > 1000000 || c.Down[actor] > 1000000 {
		return impl.Counter{}, false
	}
	return c, true
}

func mergeCounterAgain(a, b impl.Counter) (impl.Counter, bool) {
	if !goodCounterAgain(a) || !goodCounterAgain(b) {
		return impl.Counter{}, false
	}
	both := deepCounter(a)
	for i := range 6 {
		if b.Up[i] > both.Up[i] {
			both.Up[i] = b.Up[i]
		}
		if b.Down[i] > both.Down[i] {
			both.Down[i] = b.Down[i]
		}
	}
	return both, true
}

func checkCountBy(t *testing.T, c impl.Counter, actor, by int) (impl.Counter, bool) {
	t.Helper()
	want, can := countByAgain(c, actor, by)
	got, ok := impl.CountBy(c, actor, by)
	if ok != can || !sameCounter(got, want) || !ok && !isZeroCounter(got) {
		t.Fatalf("%v by %d %d: %v %v, not %v %v", c, actor, by, got, ok, want, can)
	}
	return got, ok
}

func checkMergeCounter(t *testing.T, a, b impl.Counter) impl.Counter {
	t.Helper()
	want, can := mergeCounterAgain(a, b)
	got, ok := impl.MergeCounter(a, b)
	if ok != can || !sameCounter(got, want) || !ok && !isZeroCounter(got) {
		t.Fatalf("%v with %v: %v %v, not %v %v", a, b, got, ok, want, can)
	}
	return got
}

func TestLimitsOfWhatGrows(t *testing.T) {
	if impl.MaxActors != 6 || impl.MaxAdds != 40 {
		t.Error(impl.MaxActors, impl.MaxAdds)
	}
}

func TestGoodCounter(t *testing.T) {
	for _, c := range goodCounters() {
		if !impl.GoodCounter(c) || !goodCounterAgain(c) {
			t.Errorf("%v is good", c)
		}
	}
	for _, c := range badCounters() {
		if impl.GoodCounter(c) || goodCounterAgain(c) {
			t.Errorf("%v is not good", c)
		}
	}
	for up := range 14 {
		for down := range 14 {
			if c := counterOfLengths(up, down); impl.GoodCounter(c) != (up == 6 && down == 6) {
				t.Errorf("%d and %d: %v", up, down, impl.GoodCounter(c))
			}
		}
	}
}

func TestCountersThatAreNotGoodHaveTheZeroAnswer(t *testing.T) {
	for _, c := range badCounters() {
		for _, by := range []int{-1, 0, 1} {
			checkCountBy(t, c, 0, by)
		}
		if n, ok := impl.ValueOf(c); n != 0 || ok {
			t.Errorf("%v: %d %v", c, n, ok)
		}
		for _, other := range []impl.Counter{plainCounter(), counterOfLengths(6, 6), c, {}} {
			checkMergeCounter(t, c, other)
			checkMergeCounter(t, other, c)
		}
	}
}

func TestCountBy(t *testing.T) {
	for _, x := range []struct {
		actor, by int
		want      impl.Counter
	}{
		{0, 1, counter([6]int{6, 0, 1000000, 3, 0, 7}, [6]int{0, 2, 999999, 3, 1, 0})},
		{0, 0, plainCounter()},
		{0, -1, counter([6]int{5, 0, 1000000, 3, 0, 7}, [6]int{1, 2, 999999, 3, 1, 0})},
		{5, 1000, counter([6]int{5, 0, 1000000, 3, 0, 1007}, [6]int{0, 2, 999999, 3, 1, 0})},
		{5, -1000, counter([6]int{5, 0, 1000000, 3, 0, 7}, [6]int{0, 2, 999999, 3, 1, 1000})},
		{2, -1, counter([6]int{5, 0, 1000000, 3, 0, 7}, [6]int{0, 2, 1000000, 3, 1, 0})},
		{2, 0, plainCounter()},
	} {
		if got, ok := checkCountBy(t, plainCounter(), x.actor, x.by); !ok || !sameCounter(got, x.want) {
			t.Errorf("%d by %d: %v %v, not %v", x.actor, x.by, got, ok, x.want)
		}
	}
	for _, x := range [][2]int{{-1, 1}, {6, 1}, {-1, 0}, {6, 0}, {0, 1001}, {0, -1001}, {2, 1}, {2, -2}, {2, 1000}, {2, -1000}} {
		if got, ok := checkCountBy(t, plainCounter(), x[0], x[1]); ok {
			t.Errorf("%v: %v", x, got)
		}
	}
}

func TestCountByAtItsEdges(t *testing.T) {
	actors := []int{-1, 0, 1, 2, 3, 4, 5, 6, 7, math.MinInt, math.MaxInt, 1 << 32, -1 << 32}
	all := []int{-1001, -1000, -999, -1, 0, 1, 999, 1000, 1001, math.MinInt, math.MinInt + 1, math.MaxInt, 1 << 32, -1 << 32}
	counters := append(goodCounters(), badCounters()[:20]...)
	for _, n := range []int{998999, 999000, 999001, 999998, 999999, 1000000} {
		counters = append(counters, counter([6]int{n, n, n, n, n, n}, [6]int{}), counter([6]int{}, [6]int{n, n, n, n, n, n}))
		counters = append(counters, countersWith(n)...)
	}
	did, refused := 0, 0
	for _, c := range counters {
		for _, actor := range actors {
			for _, by := range all {
				if _, ok := checkCountBy(t, c, actor, by); ok {
					did++
				} else {
					refused++
				}
			}
		}
	}
	if did < 2000 || refused < 2000 {
		t.Error(did, refused)
	}
}

// A list may go to its limit just, and not past it; the other list does not matter.
func TestCountByUpToTheLimit(t *testing.T) {
	for actor := range 6 {
		for by := 1; by <= 1000; by += 111 {
			near := counterOfLengths(6, 6)
			near.Up[actor], near.Down[actor] = 1000000-by, 1000000-by
			up, ok1 := checkCountBy(t, near, actor, by)
			down, ok2 := checkCountBy(t, near, actor, -by)
			if !ok1 || !ok2 || up.Up[actor] != 1000000 || up.Down[actor] != 1000000-by || down.Down[actor] != 1000000 || down.Up[actor] != 1000000-by {
				t.Error(actor, by, up, ok1, down, ok2)
			}
			near.Up[actor]++
			near.Down[actor]++
			_, ok1 = checkCountBy(t, near, actor, by)
			_, ok2 = checkCountBy(t, near, actor, -by)
			if ok1 || ok2 {
				t.Error(actor, by, "goes past the limit")
			}
		}
	}
}

func TestMergeCounter(t *testing.T) {
	a := counter([6]int{1, 9, 0, 1000000, 5, 0}, [6]int{0, 3, 7, 2, 2, 1000000})
	b := counter([6]int{4, 2, 0, 999999, 5, 1}, [6]int{6, 3, 0, 8, 1, 0})
	want := counter([6]int{4, 9, 0, 1000000, 5, 1}, [6]int{6, 3, 7, 8, 2, 1000000})
	for _, x := range [][2]impl.Counter{{a, b}, {b, a}, {want, a}, {b, want}, {want, want}} {
		if got := checkMergeCounter(t, x[0], x[1]); !sameCounter(got, want) {
			t.Errorf("%v: %v", x, got)
		}
	}
	for _, x := range goodCounters() {
		for _, y := range goodCounters() {
			checkMergeCounter(t, x, y)
		}
	}
}

// Each place of each list is looked at by itself: the one counter is greater there, or the other one.
func TestMergeCounterTakesEachPlace(t *testing.T) {
	for which := range 1 << 12 {
		a, b := counterOfLengths(6, 6), counterOfLengths(6, 6)
		for i := range 6 {
			a.Up[i], b.Up[i] = 10+i, 10+i
			a.Down[i], b.Down[i] = 20+i, 20+i
			if which>>i&1 == 1 {
				a.Up[i] += 100
			} else {
				b.Up[i] += 100
			}
			if which>>(6+i)&1 == 1 {
				a.Down[i] += 100
			} else {
				b.Down[i] += 100
			}
		}
		got := checkMergeCounter(t, a, b)
		if !sameCounter(got, counter([6]int{110, 111, 112, 113, 114, 115}, [6]int{120, 121, 122, 123, 124, 125})) {
			t.Fatal(a, b, got)
		}
	}
}

func TestValueOf(t *testing.T) {
	most := [6]int{1000000, 1000000, 1000000, 1000000, 1000000, 1000000}
	for _, x := range []struct {
		c    impl.Counter
		want int
	}{
		{plainCounter(), 10},
		{counterOfLengths(6, 6), 0},
		{counter([6]int{1, 2, 3, 4, 5, 6}, [6]int{6, 5, 4, 3, 2, 1}), 0},
		{counter([6]int{}, [6]int{0, 0, 0, 0, 0, 1}), -1},
		{counter([6]int{1, 10, 100, 1000, 10000, 100000}, [6]int{}), 111111},
		{counter([6]int{}, [6]int{1, 10, 100, 1000, 10000, 100000}), -111111},
		{counter(most, [6]int{}), 6000000},
		{counter([6]int{}, most), -6000000},
		{counter(most, most), 0},
	} {
		if n, ok := impl.ValueOf(x.c); n != x.want || !ok {
			t.Errorf("%v: %d %v, not %d", x.c, n, ok, x.want)
		}
	}
}
