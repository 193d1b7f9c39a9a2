package tests

import (
	"math"
	"slices"
	"testing"

	"loop.example/g00218/impl"
)

// locksAtOwn gives each lock back just behind its op.
func locksAtOwn(l []impl.Op) []int {
	locks := make([]int, len(l))
	for i, o := range l {
		if o.Kind != impl.OpCommit {
			locks[i] = i
		}
	}
	return locks
}

// locksAtEnd gives all locks back behind the last place.
func locksAtEnd(l []impl.Op) []int {
	locks := make([]int, len(l))
	for i, o := range l {
		if o.Kind != impl.OpCommit {
			locks[i] = len(l) - 1
		}
	}
	return locks
}

// allLocks are all numbers that the ops may have.
func allLocks(l []impl.Op) [][]int {
	all := [][]int{nil}
	for i, o := range l {
		var longer [][]int
		for _, locks := range all {
			if o.Kind == impl.OpCommit {
				longer = append(longer, append(slices.Clone(locks), 0))
				continue
			}
			for n := i; n < len(l); n++ {
				longer = append(longer, append(slices.Clone(locks), n))
			}
		}
		all = longer
	}
	return all
}

// heldAt are the Txns that hold the key at a place.
func heldAt(l []impl.Op, locks []int, key string, place int) []int {
	var holders []int
	for _, txn := range inOrder(l) {
		first, greatest := -1, -1
		for i, o := range l {
			if o.Txn == txn && o.Key == key {
				if first < 0 {
					first = i
				}
				greatest = max(greatest, locks[i])
			}
		}
		if first >= 0 && first <= place && place <= greatest {
			holders = append(holders, txn)
		}
	}
	return holders
}

func keysOf(l []impl.Op) []string {
	var keys []string
	for _, o := range l {
		if o.Kind != impl.OpCommit && !slices.Contains(keys, o.Key) {
			keys = append(keys, o.Key)
		}
	}
	return keys
}

// twoPhaseAgain goes from place to place, and looks at who holds what there.
func twoPhaseAgain(l []impl.Op, locks []int) bool {
	shrinks := map[int]bool{}
	for place := range l {
		for _, key := range keysOf(l) {
			holders := heldAt(l, locks, key, place)
			for _, txn := range holders {
				wrote := slices.Contains(l, impl.Op{Kind: impl.OpWrite, Txn: txn, Key: key})
				if wrote && len(holders) > 1 {
					return false
				}
				if taken := !slices.Contains(heldAt(l, locks, key, place-1), txn); taken && shrinks[txn] {
					return false
				}
			}
		}
		for _, key := range keysOf(l) {
			behind := heldAt(l, locks, key, place+1)
			for _, txn := range heldAt(l, locks, key, place) {
				if !slices.Contains(behind, txn) {
					shrinks[txn] = true
				}
			}
		}
	}
	return true
}

func TestIsTwoPhase(t *testing.T) {
	for _, c := range []struct {
		ops   string
		locks []int
		want  bool
	}{
		{"", nil, true},
		{"", []int{}, true},
		{"c1", []int{0}, true},
		{"c2 c1", []int{0, 0}, true},
		{"r1a c1", []int{0, 0}, true},
		{"r1a c1", []int{1, 0}, true},
		// a lock taken at the place at which another one is given back, and behind it
		{"r1a w1b c1", []int{1, 1, 0}, true},
		{"r1a w1b c1", []int{0, 1, 0}, false},
		{"r1a r1b c1", []int{0, 1, 0}, false},
		{"r1a c2 w1b c1", []int{2, 0, 2, 0}, true},
		{"r1a c2 w1b c1", []int{1, 0, 2, 0}, false},
		{"r1a w1b w1c c1", []int{2, 1, 3, 0}, false},
		{"r1a w1b w1c c1", []int{2, 2, 2, 0}, true},
		// of another Txn it does not matter
		{"r1a r2b c1 c2", []int{0, 1, 0, 0}, true},
		{"w1a w2a c1 c2", []int{0, 1, 0, 0}, true},
		{"w1a w2a c1 c2", []int{1, 1, 0, 0}, false},
		{"w1a c1 w2a c2", []int{1, 0, 2, 0}, true},
		{"w1a c1 w2a c2", []int{2, 0, 2, 0}, false},
		{"w1a c1 w2a c2", []int{3, 0, 2, 0}, false},
		{"r1a w2a c1 c2", []int{1, 1, 0, 0}, false},
		{"w1a r2a c1 c2", []int{1, 1, 0, 0}, false},
		{"w1a r2b c1 c2", []int{3, 3, 0, 0}, true},
		// two readers of one key at one place, and one of them that writes it behind that
		{"r1a r2a c1 c2", []int{3, 3, 0, 0}, true},
		{"r1a r2a r3a c1 c2 c3", []int{5, 5, 5, 0, 0, 0}, true},
		{"r1a r2a w1a c1 c2", []int{0, 1, 2, 0, 0}, false},
		{"r2a r1a c2 w1a c1", []int{0, 1, 0, 3, 0}, true},
		{"r2a r1a c2 w1a c1", []int{1, 1, 0, 3, 0}, false},
		{"w1a r1a r2a c1 c2", []int{0, 1, 2, 0, 0}, true},
		{"w1a r1a r2a c1 c2", []int{0, 2, 2, 0, 0}, false},
		// several ops of one Txn on one key: the greatest number counts, from the first op on
		{"r1a r1a c1", []int{0, 1, 0}, true},
		{"w1a r1b w1a c1", []int{0, 1, 2, 0}, true},
		{"w1a w2a w1a c1 c2", []int{0, 1, 2, 0, 0}, false},
		{"w1a w1a w2a c1 c2", []int{2, 1, 2, 0, 0}, false},
		{"w1a w1a w2a c1 c2", []int{1, 1, 2, 0, 0}, true},
		{"w1a w1a w1b c1", []int{2, 1, 2, 0}, true},
		{"w1a w1a w1b c1", []int{0, 1, 2, 0}, false},
		{"w1a w1a w1b c1", []int{1, 1, 2, 0}, false},
		// at the last place
		{"w1a w1b c1", []int{2, 2, 0}, true},
		{"w8a w1b w8b c8 c1", []int{4, 1, 4, 0, 0}, true},
		{"w8a w1b w8b c8 c1", []int{4, 2, 4, 0, 0}, false},
	} {
		if two, ok := impl.IsTwoPhase(ops(c.ops), c.locks); two != c.want || !ok {
			t.Errorf("%s %v: %v %v", c.ops, c.locks, two, ok)
		}
	}
}

// All numbers of all small schedules: what is locked in two phases is like one after the other.
func TestWhatIsTwoPhaseHasAnOrder(t *testing.T) {
	two, other := 0, 0
	for _, l := range slices.Concat(smallSchedules(5, 2), smallSchedules(4, 3)) {
		for _, locks := range allLocks(l) {
			is, ok := impl.IsTwoPhase(l, locks)
			if is != twoPhaseAgain(l, locks) || !ok {
				t.Fatalf("%+v %v: %v %v", l, locks, is, ok)
			}
			if !is {
				other++
				continue
			}
			two++
			checkLikeSerial(t, l)
		}
	}
	if two < 1000 || other < 1000 {
		t.Error(two, other)
	}
}

func checkLikeSerial(t *testing.T, l []impl.Op) {
	order, ok := impl.SerialOrder(l)
	if !ok {
		t.Fatalf("%+v: two-phase, without an order", l)
	}
	serial, _ := impl.SerialOps(l, order)
	checkSame(t, l, serial)
}

// lockedSchedule mixes programs so that each op waits until its lock is free, and locks last up to the commits; nil where all wait for ever.
func lockedSchedule(seed uint64) ([]impl.Op, []int) {
	m := mixer(seed)
	left := programs(&m, m.below(7)+2, m.below(20)+3, m.below(46)+15)
	whole := slices.Concat(left...)
	var l []impl.Op
	for tries := 0; len(left) > 0; tries++ {
		if tries > 5000 {
			return nil, nil
		}
		t := m.below(len(left))
		if !isFree(whole, l, left[t][0]) {
			continue
		}
		l = append(l, left[t][0])
		if left[t] = left[t][1:]; len(left[t]) == 0 {
			left = slices.Delete(left, t, t+1)
		}
	}
	locks := make([]int, len(l))
	for i, o := range l {
		if o.Kind != impl.OpCommit {
			locks[i] = commitAt(l, o.Txn)
		}
	}
	return l, locks
}

// isFree tells whether nobody who has not committed holds the op's key, unless both just read it in all that they do.
func isFree(whole, l []impl.Op, next impl.Op) bool {
	writes := func(txn int) bool {
		return slices.Contains(whole, impl.Op{Kind: impl.OpWrite, Txn: txn, Key: next.Key})
	}
	for _, o := range l {
		if next.Kind == impl.OpCommit || o.Txn == next.Txn || o.Key != next.Key || commitAt(l, o.Txn) >= 0 {
			continue
		}
		if writes(o.Txn) || writes(next.Txn) {
			return false
		}
	}
	return true
}

func TestLongSchedulesThatAreLockedToTheirCommits(t *testing.T) {
	done := 0
	for seed := range 500 {
		l, locks := lockedSchedule(uint64(seed))
		if l == nil {
			continue
		}
		done++
		if two, ok := impl.IsTwoPhase(l, locks); !two || !ok || !twoPhaseAgain(l, locks) {
			t.Fatalf("%+v %v: %v %v", l, locks, two, ok)
		}
		checkLikeSerial(t, l)
		if r, a, s, ok := impl.RecoverableOf(l); !r || !a || !s || !ok {
			t.Fatalf("%+v: %v %v %v %v", l, r, a, s, ok)
		}
	}
	if done < 100 {
		t.Error(done)
	}
}

func TestIsTwoPhaseOfLongSchedules(t *testing.T) {
	for seed, l := range longSchedules() {
		m := mixer(seed)
		mixed := locksAtOwn(l)
		for i, n := range mixed {
			if l[i].Kind != impl.OpCommit {
				mixed[i] = n + m.below(len(l)-n)
			}
		}
		for _, locks := range [][]int{locksAtOwn(l), locksAtEnd(l), mixed} {
			two, ok := impl.IsTwoPhase(l, locks)
			if two != twoPhaseAgain(l, locks) || !ok {
				t.Fatalf("%+v %v: %v %v", l, locks, two, ok)
			}
			if two {
				checkLikeSerial(t, l)
			}
		}
	}
}

func TestLocksThatAreNone(t *testing.T) {
	l := ops("r1a w2b c2 r1a c1")
	good := []int{3, 2, 0, 4, 0}
	if two, ok := impl.IsTwoPhase(l, good); !two || !ok {
		t.Error(two, ok)
	}
	wrong := [][]int{nil, {}, good[:1], good[:4], append(slices.Clone(good), 0), append(slices.Clone(good), 4), make([]int, 5000)}
	for i, o := range l {
		numbers := []int{-1, len(l), len(l) + 1, math.MinInt, math.MaxInt}
		if o.Kind == impl.OpCommit {
			numbers = append(numbers, 1, i, len(l)-1)
		} else if i > 0 {
			numbers = append(numbers, i-1, 0)
		}
		for _, n := range numbers {
			locks := slices.Clone(good)
			locks[i] = n
			wrong = append(wrong, locks)
		}
	}
	for _, locks := range wrong {
		if two, ok := impl.IsTwoPhase(l, locks); two || ok {
			t.Errorf("%v: %v %v", locks, two, ok)
		}
	}
	for _, locks := range [][]int{{0}, {1}, {0, 0}} {
		if two, ok := impl.IsTwoPhase(nil, locks); two || ok {
			t.Errorf("no ops, %v: %v %v", locks, two, ok)
		}
	}
}

// Wrong numbers are told ahead of locks that are not two-phase.
func TestWrongNumbersOfWhatIsNotTwoPhase(t *testing.T) {
	l := ops("r1a w1b w2b c2 c1")
	if two, ok := impl.IsTwoPhase(l, []int{0, 4, 4, 0, 0}); two || !ok {
		t.Error(two, ok)
	}
	for _, locks := range [][]int{{0, 4, 4, 0, 1}, {0, 4, 4, 3, 0}, {0, 4, 5, 0, 0}, {0, 4, 1, 0, 0}, {-1, 4, 4, 0, 0}} {
		if two, ok := impl.IsTwoPhase(l, locks); two || ok {
			t.Errorf("%v: %v %v", locks, two, ok)
		}
	}
}
