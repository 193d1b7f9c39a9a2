package tests

import (
	"fmt"
	"math"
	"slices"
	"testing"

	"loop.example/g00218/impl"
)

// plainLeases are granted to node 1, which has been told; node 2 held up to Now, node 3 long ago, node 0 never.
func plainLeases() impl.Leases {
	return impl.Leases{Skew: 5, Now: 100, Clocks: []int{95, 105, 100, 102}, Holder: 1, Until: 150, Known: []int{0, 150, 100, 40}}
}

func deepLeases(l impl.Leases) impl.Leases {
	l.Clocks, l.Known = slices.Clone(l.Clocks), slices.Clone(l.Known)
	return l
}

func sameLeases(a, b impl.Leases) bool {
	return a.Skew == b.Skew && a.Now == b.Now && a.Holder == b.Holder && a.Until == b.Until && slices.Equal(a.Clocks, b.Clocks) && slices.Equal(a.Known, b.Known)
}

func isZeroLeases(l impl.Leases) bool {
	return l.Skew == 0 && l.Now == 0 && l.Holder == 0 && l.Until == 0 && l.Clocks == nil && l.Known == nil
}

// stillLeases are of nodes whose clocks all tell Now, and nobody holds.
func stillLeases(nodes, skew, now int) impl.Leases {
	return impl.Leases{Skew: skew, Now: now, Clocks: slices.Repeat([]int{now}, nodes), Holder: -1, Known: make([]int, nodes)}
}

// A leaseChange is put to the leases of plainLeases, and has a name.
type leaseChange struct {
	name string
	put  func(l *impl.Leases)
}

func leaseChanges[T any](name string, put func(l *impl.Leases, x T), things ...T) []leaseChange {
	var changes []leaseChange
	for _, x := range things {
		changes = append(changes, leaseChange{fmt.Sprintf("%s %v", name, x), func(l *impl.Leases) { put(l, x) }})
	}
	return changes
}

func changedLeases(c leaseChange) impl.Leases {
	l := plainLeases()
	c.put(&l)
	return l
}

func putSkew(l *impl.Leases, n int)          { *l = stillLeases(3, n, 2000) }
func putNow(l *impl.Leases, n int)           { *l = stillLeases(3, 5, n) }
func putManyClocks(l *impl.Leases, n int)    { *l = stillLeases(n, 5, 100) }
func putFirstClock(l *impl.Leases, n int)    { l.Clocks[0] = n }
func putLastClock(l *impl.Leases, n int)     { l.Clocks[3] = n }
func putHolder(l *impl.Leases, n int)        { l.Holder, l.Known = n, []int{0, 0, 100, 40} }
func putUntil(l *impl.Leases, n int)         { l.Until, l.Known = n, make([]int, 4) }
func putUntilOfAll(l *impl.Leases, n int)    { l.Until, l.Known = n, slices.Repeat([]int{min(n, 100)}, 4) }
func putManyKnown(l *impl.Leases, n int)     { l.Known = make([]int, n) }
func putKnownOfHolder(l *impl.Leases, n int) { l.Known[1] = n }
func putKnownOfFirst(l *impl.Leases, n int)  { l.Known[0] = n }
func putKnownOfLast(l *impl.Leases, n int)   { l.Known[3] = n }

// Clocks near 0, where Now less the skew is below it.
func putEarlyClock(l *impl.Leases, n int) {
	*l = stillLeases(2, 5, 3)
	l.Clocks[1] = n
}

// Clocks at the end of time, where Now and the skew are together beyond it.
func putLateClock(l *impl.Leases, n int) {
	*l = stillLeases(2, 1000, 1000000)
	l.Clocks[0] = n
}

// A clock where no skew is allowed.
func putExactClock(l *impl.Leases, n int) {
	*l = stillLeases(2, 0, 100)
	l.Clocks[1] = n
}

// putKnownBehind puts a Known where Until lies behind Now, so that it is Until that counts.
func putKnownBehind(l *impl.Leases, nodeAndKnown [2]int) {
	l.Until, l.Known = 60, make([]int, 4)
	l.Known[nodeAndKnown[0]] = nodeAndKnown[1]
}

// putKnownOfNone puts a Known where nobody holds.
func putKnownOfNone(l *impl.Leases, n int) {
	l.Holder, l.Known = -1, []int{0, n, 0, 0}
}

func goodLeaseChanges() []leaseChange {
	return slices.Concat(
		leaseChanges("Skew", putSkew, 0, 1, 999, 1000),
		leaseChanges("Now", putNow, 0, 1, 999999, 1000000),
		leaseChanges("clocks", putManyClocks, 1, 2, 11, 12),
		leaseChanges("first clock", putFirstClock, 95, 96, 100, 104, 105),
		leaseChanges("last clock", putLastClock, 95, 96, 100, 104, 105),
		leaseChanges("early clock", putEarlyClock, 0, 1, 3, 7, 8),
		leaseChanges("late clock", putLateClock, 999000, 999001, 1000000, 1000999, 1001000),
		leaseChanges("exact clock", putExactClock, 100),
		leaseChanges("Holder", putHolder, -1, 0, 1, 2, 3),
		leaseChanges("Until", putUntil, 0, 1, 99, 100, 101, 1999999, 2000000),
		leaseChanges("Until of all", putUntilOfAll, 0, 1, 99, 100, 101, 2000000),
		leaseChanges("Known", putManyKnown, 4),
		leaseChanges("Known of the Holder", putKnownOfHolder, 0, 1, 100, 101, 149, 150),
		leaseChanges("Known of the first", putKnownOfFirst, 0, 1, 99, 100),
		leaseChanges("Known of the last", putKnownOfLast, 0, 1, 99, 100),
		leaseChanges("Known behind", putKnownBehind, [][2]int{{0, 0}, {0, 60}, {1, 59}, {1, 60}, {3, 60}}...),
		leaseChanges("Known of none", putKnownOfNone, 0, 99, 100),
	)
}

func badLeaseChanges() []leaseChange {
	const least, greatest = math.MinInt, math.MaxInt
	return slices.Concat(
		leaseChanges("Skew", putSkew, -1, 1001, least, greatest, 1<<32),
		leaseChanges("Now", putNow, -1, 1000001, least, greatest, 1<<32),
		leaseChanges("clocks", putManyClocks, 0, 13, 14, 1000),
		leaseChanges("first clock", putFirstClock, 94, 106, 0, -1, -100, least, greatest, 1<<32+100),
		leaseChanges("last clock", putLastClock, 94, 106, 0, -1, -102, least, greatest, 1<<32+100),
		leaseChanges("early clock", putEarlyClock, -1, -2, -3, 9, least, greatest),
		leaseChanges("late clock", putLateClock, 998999, 1001001, least, greatest),
		leaseChanges("exact clock", putExactClock, 99, 101, least, greatest),
		leaseChanges("Holder", putHolder, -2, 4, 5, 12, least, greatest, 1<<32),
		leaseChanges("Until", putUntil, -1, 2000001, least, greatest, 1<<32),
		leaseChanges("Known", putManyKnown, 0, 1, 3, 5, 12, 13),
		leaseChanges("Known of the Holder", putKnownOfHolder, -1, 151, least, greatest, 1<<32),
		leaseChanges("Known of the first", putKnownOfFirst, -1, 101, 150, 151, least, greatest, 1<<32),
		leaseChanges("Known of the last", putKnownOfLast, -1, 101, 150, 151, least, greatest, 1<<32),
		leaseChanges("Known behind", putKnownBehind, [][2]int{{0, -1}, {0, 61}, {0, 100}, {1, -1}, {1, 61}, {1, 100}, {3, 61}}...),
		leaseChanges("Known of none", putKnownOfNone, -1, 101, 150),
	)
}

// goodLeasesAgain tells the document's words a second time.
func goodLeasesAgain(l impl.Leases) bool {
	nodes := len(l.Clocks)
	if l.Skew < 0 || l.Skew > 1000 || l.Now < 0 || l.Now > 1000000 || nodes == 0 || nodes > 12 {
		return false
	}
	if l.Holder < -1 || l.Holder >= nodes || l.Until < 0 || l.Until > 2000000 || len(l.Known) != nodes {
		return false
	}
	for i, at := range l.Clocks {
		if at < 0 || at > 2000000 || at-l.Now > l.Skew || l.Now-at > l.Skew {
			return false
		}
		known := l.Known[i]
		if known < 0 || known > l.Until || i != l.Holder && known > l.Now {
			return false
		}
	}
	return true
}

func TestLimitsOfLeases(t *testing.T) {
	if impl.MaxTime != 1000000 || impl.MaxSkew != 1000 || impl.MaxLeaseSteps != 100 {
		t.Error(impl.MaxTime, impl.MaxSkew, impl.MaxLeaseSteps)
	}
	if impl.LeaseGrant != 1 || impl.LeaseTell != 2 || impl.LeaseTime != 3 || impl.LeaseTick != 4 {
		t.Error(impl.LeaseGrant, impl.LeaseTell, impl.LeaseTime, impl.LeaseTick)
	}
}

func TestGoodLeases(t *testing.T) {
	if l := plainLeases(); !impl.GoodLeases(l) || !goodLeasesAgain(l) {
		t.Error(l, "are good")
	}
	if impl.GoodLeases(impl.Leases{}) || impl.GoodLeases(impl.Leases{Clocks: make([]int, 1)}) || impl.GoodLeases(impl.Leases{Known: make([]int, 1)}) {
		t.Error("leases without nodes are not good")
	}
	for _, c := range goodLeaseChanges() {
		if l := changedLeases(c); !impl.GoodLeases(l) || !goodLeasesAgain(l) {
			t.Errorf("%s: %v are good", c.name, l)
		}
	}
	for _, c := range badLeaseChanges() {
		if l := changedLeases(c); impl.GoodLeases(l) || goodLeasesAgain(l) {
			t.Errorf("%s: %v are not good", c.name, l)
		}
	}
}

// Every one of twelve nodes is looked at: its clock, its Known, and whether it is the Holder.
func TestGoodLeasesLookAtEachNode(t *testing.T) {
	for node := range 12 {
		for _, c := range []struct {
			clock, known, holder int
			good                 bool
		}{
			{95, 0, -1, true}, {94, 0, -1, false}, {105, 0, -1, true}, {106, 0, -1, false},
			{100, 100, -1, true}, {100, 101, -1, false}, {100, -1, -1, false},
			{100, 101, node, true}, {100, 150, node, true}, {100, 151, node, false}, {100, -1, node, false},
			{100, 100, (node + 1) % 12, true}, {100, 101, (node + 1) % 12, false},
		} {
			l := stillLeases(12, 5, 100)
			l.Until, l.Holder, l.Clocks[node], l.Known[node] = 150, c.holder, c.clock, c.known
			if impl.GoodLeases(l) != c.good || goodLeasesAgain(l) != c.good {
				t.Errorf("%d: %v: not %v", node, l, c.good)
			}
		}
	}
}

// smallLeases goes through all leases of so many nodes whose numbers are in -1..greatest.
func smallLeases(nodes, greatest int, see func(l impl.Leases)) {
	numbers := make([]int, 4+2*nodes)
	for i := range numbers {
		numbers[i] = -1
	}
	for {
		clocks := slices.Clone(numbers[4 : 4+nodes])
		see(impl.Leases{Skew: numbers[0], Now: numbers[1], Clocks: clocks, Holder: numbers[2], Until: numbers[3], Known: slices.Clone(numbers[4+nodes:])})
		at := 0
		for at < len(numbers) && numbers[at] == greatest {
			numbers[at] = -1
			at++
		}
		if at == len(numbers) {
			return
		}
		numbers[at]++
	}
}

func TestGoodLeasesOfAllThatAreSmall(t *testing.T) {
	good := 0
	see := func(l impl.Leases) {
		want := goodLeasesAgain(l)
		if impl.GoodLeases(l) != want {
			t.Fatalf("%v: not %v", l, want)
		}
		if want {
			good++
		}
	}
	smallLeases(1, 4, see)
	smallLeases(2, 2, see)
	if good < 1000 {
		t.Error(good)
	}
}

// checkNoLeases asks whether all functions give leases that are not good the zero answer.
func checkNoLeases(t *testing.T, l impl.Leases) {
	t.Helper()
	if believers, ok := impl.BelieversOf(l); ok || believers != nil {
		t.Errorf("%v: %v %v", l, believers, ok)
	}
	for node := -1; node <= 4; node++ {
		if n, ok := impl.SafeUntil(l, node); ok || n != 0 {
			t.Errorf("%v: %d: %d %v", l, node, n, ok)
		}
	}
	for _, s := range manyLeaseSteps() {
		if left, ok := impl.StepLease(l, s); ok || !isZeroLeases(left) {
			t.Errorf("%v: %v: %v %v", l, s, left, ok)
		}
	}
}

func TestLeasesThatAreNotGoodHaveTheZeroAnswer(t *testing.T) {
	checkNoLeases(t, impl.Leases{})
	for _, c := range badLeaseChanges() {
		checkNoLeases(t, changedLeases(c))
	}
}
