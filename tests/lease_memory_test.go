package tests

import (
	"fmt"
	"math"
	"slices"
	"testing"

	"loop.example/g00218/impl"
)

// leaseAnswers asks all functions of leases, and tells what they answered as one text.
func leaseAnswers(l impl.Leases, s impl.LeaseStep) string {
	left, ok1 := impl.StepLease(l, s)
	believers, ok2 := impl.BelieversOf(l)
	until, ok3 := impl.SafeUntil(l, s.Node)
	return fmt.Sprint(impl.GoodLeases(l), left, ok1, believers, ok2, until, ok3)
}

// someLeases are good ones, at the edges and played ones, and some that are not.
func someLeases() []impl.Leases {
	l := []impl.Leases{{}, plainLeases(), grantedTo(-1, 0), grantedTo(0, 100)}
	for _, c := range append(goodLeaseChanges(), badLeaseChanges()...) {
		l = append(l, changedLeases(c))
	}
	for seed := range 60 {
		nodes, skew, steps := somePlayOfLeases(uint64(seed))
		x, _, _ := impl.PlayLeases(nodes, skew, steps)
		half, _, _ := impl.PlayLeases(nodes, skew, steps[:len(steps)/4])
		l = append(l, x, half)
	}
	return l
}

// wholeLeases are the leases with all that lies behind the lengths of their lists.
func wholeLeases(l impl.Leases) impl.Leases {
	l.Clocks, l.Known = slices.Clone(l.Clocks[:cap(l.Clocks)]), slices.Clone(l.Known[:cap(l.Known)])
	return l
}

// roomyLeases are the leases with room behind each list, where something lies that must not matter.
func roomyLeases(l impl.Leases, n int) impl.Leases {
	l = deepLeases(l)
	l.Clocks = append(l.Clocks, n, n, n)[:len(l.Clocks)]
	l.Known = append(l.Known, n, n, n)[:len(l.Known)]
	return l
}

func leaseSpans(l impl.Leases, what string) []span {
	return []span{spanOf(l.Clocks, what+"'s clocks"), spanOf(l.Known, what+"'s known")}
}

func TestNoLeasesAreWrittenInto(t *testing.T) {
	for _, l := range someLeases() {
		old := deepLeases(l)
		for _, s := range manyLeaseSteps() {
			leaseAnswers(l, s)
		}
		if !sameLeases(l, old) {
			t.Errorf("%v became %v", old, l)
		}
	}
}

func TestNoStepOfLeasesIsWrittenInto(t *testing.T) {
	for seed := range 100 {
		nodes, skew, l := somePlayOfLeases(uint64(seed))
		old := slices.Clone(l)
		impl.PlayLeases(nodes, skew, l)
		if !slices.Equal(l, old) {
			t.Errorf("%v became %v", old, l)
		}
	}
}

// Whatever lies behind the lengths, good or bad, is neither read nor written nor handed out.
func TestLeasesKeepToTheirLengths(t *testing.T) {
	for _, l := range someLeases() {
		for _, n := range []int{-1, 0, 100, 2000000} {
			long := roomyLeases(l, n)
			old := wholeLeases(long)
			for _, s := range manyLeaseSteps() {
				if got, want := leaseAnswers(long, s), leaseAnswers(l, s); got != want {
					t.Fatalf("%v: %s, not %s", l, got, want)
				}
			}
			if !sameLeases(wholeLeases(long), old) {
				t.Fatalf("%v became %v", old, wholeLeases(long))
			}
		}
	}
	// fewer Known than clocks are too few, also with room behind them
	l := plainLeases()
	l.Known = l.Known[:3]
	if impl.GoodLeases(l) {
		t.Error(l, "are not good")
	}
	steps := leaseSteps("g0:5 t0 n1")
	if x, many, ok := impl.PlayLeases(1, 2, steps[:2]); !ok || !slices.Equal(many, []int{0, 1}) || x.Now != 0 {
		t.Error(x, many, ok)
	}
	if _, many, ok := impl.PlayLeases(1, 2, slices.Repeat(steps, 40)[:100]); len(many) != 100 || !ok {
		t.Error(many, ok)
	}
}

func TestLeasesAreNewMemory(t *testing.T) {
	for _, l := range someLeases() {
		given := roomyLeases(l, 100)
		spans := leaseSpans(given, "given")
		believers, _ := impl.BelieversOf(given)
		checkNew(t, []span{spanOf(believers, "believers")}, spans)
		for _, s := range manyLeaseSteps() {
			left, ok := impl.StepLease(given, s)
			if !ok {
				continue
			}
			checkNew(t, leaseSpans(left, "left"), spans)
			// and what follows from an answer lies apart from it
			if next, ok := impl.StepLease(left, tickBy(0, 0)); ok {
				checkNew(t, leaseSpans(next, "next"), leaseSpans(left, "left"))
			}
		}
	}
}

func TestWhatPlayLeasesTellsIsNewMemory(t *testing.T) {
	for seed := range 100 {
		nodes, skew, l := somePlayOfLeases(uint64(seed))
		x, many, _ := impl.PlayLeases(nodes, skew, l)
		other, otherMany, _ := impl.PlayLeases(nodes, skew, l)
		given := append(leaseSpans(other, "other"), spanOf(l, "steps"), spanOf(otherMany, "other many"))
		checkNew(t, append(leaseSpans(x, "leases"), spanOf(many, "many")), given)
		a, _ := impl.NewLeases(nodes, skew)
		b, _ := impl.NewLeases(nodes, skew)
		checkNew(t, leaseSpans(a, "new"), leaseSpans(b, "another"))
		one, _ := impl.BelieversOf(x)
		again, _ := impl.BelieversOf(x)
		checkNew(t, []span{spanOf(one, "believers")}, append(leaseSpans(x, "leases"), spanOf(again, "believers again")))
	}
}

// Lists of the argument that lie in one memory do not bring those of the answer together.
func TestLeasesThatShareMemoryAreParted(t *testing.T) {
	shared := []int{100, 100, 100, 100, 100, 100}
	l := impl.Leases{Skew: 5, Now: 100, Clocks: shared[:4], Holder: 1, Until: 150, Known: shared[1:5]}
	old := deepLeases(l)
	for _, s := range leaseSteps("g1:60 t1 n3 c0:4 c3:-4") {
		left, ok := checkLeaseStep(t, l, s)
		if checkNew(t, leaseSpans(left, "left"), append(leaseSpans(l, "given"), spanOf(shared, "shared"))); !ok {
			t.Error(s, ok)
		}
	}
	if !sameLeases(l, old) || !slices.Equal(shared, slices.Repeat([]int{100}, 6)) {
		t.Error(l, shared)
	}
}

// Two answers to one question lie apart: one may be written into.
func TestTwoAnswersOfLeasesShareNoMemory(t *testing.T) {
	for range 2 {
		fresh, _ := impl.NewLeases(3, 7)
		left, _ := impl.StepLease(plainLeases(), tickBy(0, 10))
		believers, _ := impl.BelieversOf(plainLeases())
		played, many, _ := impl.PlayLeases(2, 1, leaseSteps("g1:5 t1"))
		if !sameLeases(fresh, stillLeases(3, 7, 0)) || !slices.Equal(left.Clocks, []int{105, 105, 100, 102}) || !slices.Equal(left.Known, []int{0, 150, 100, 40}) {
			t.Error(fresh, left)
		}
		if !slices.Equal(believers, []int{1}) || !slices.Equal(played.Known, []int{0, 5}) || !slices.Equal(many, []int{0, 1}) {
			t.Error(believers, played, many)
		}
		for _, l := range [][]int{fresh.Clocks, fresh.Known, left.Clocks, left.Known, believers, played.Clocks, played.Known, many} {
			l = l[:cap(l)]
			for i := range l {
				l[i] = -7
			}
		}
	}
}

// What was asked before does not matter: nothing is kept from call to call.
func TestLeasesAreAnsweredAlikeAgain(t *testing.T) {
	var first []string
	all := someLeases()
	for _, l := range all {
		first = append(first, leaseAnswers(l, tickBy(1, -1)))
	}
	for i, l := range slices.Backward(all) {
		if got := leaseAnswers(l, tickBy(1, -1)); got != first[i] {
			t.Errorf("%v: %s, and %s at first", l, got, first[i])
		}
	}
}

// Leases of anything at all are answered, and those that are not good by the zero answer.
func TestLeasesOfAnything(t *testing.T) {
	numbers := []int{math.MinInt, math.MinInt + 1, -1001, -2, -1, 0, 1, 2, 12, 13, 1000, 1001, 1000000, 1000001, 2000000, 2000001, 1 << 32, math.MaxInt - 1, math.MaxInt}
	good, did := 0, 0
	for seed := range 60000 {
		m := mixer(seed)
		number := func() int { return numbers[m.below(len(numbers))] }
		l := drawnLeases(&m)
		s := nextLeaseStep(&m, l)
		for range m.below(3) {
			spoilLeases(&m, &l, number())
		}
		if m.below(4) == 0 {
			s = impl.LeaseStep{Kind: number(), Node: number(), N: number()}
		}
		want := goodLeasesAgain(l)
		if impl.GoodLeases(l) != want {
			t.Fatalf("%v: not %v", l, want)
		}
		if want {
			good++
			checkBelievers(t, l)
		} else if believers, ok := impl.BelieversOf(l); ok || believers != nil {
			t.Fatalf("%v: %v %v", l, believers, ok)
		}
		if until, ok := impl.SafeUntil(l, s.Node); ok != (want && s.Node >= 0 && s.Node < len(l.Clocks)) || !ok && until != 0 {
			t.Fatalf("%v: %d: %d %v", l, s.Node, until, ok)
		}
		if _, ok := checkLeaseStep(t, l, s); ok {
			did++
		}
		impl.PlayLeases(number(), number(), slices.Repeat([]impl.LeaseStep{s}, m.below(110)))
	}
	if good < 10000 || did < 5000 {
		t.Error(good, did)
	}
}

// spoilLeases puts a number, or another length, at one place.
func spoilLeases(m *mixer, l *impl.Leases, n int) {
	switch m.below(8) {
	case 0:
		l.Skew = n
	case 1:
		l.Now = n
	case 2:
		l.Holder = n
	case 3:
		l.Until = n
	case 4:
		l.Clocks[m.below(len(l.Clocks))] = n
	case 5:
		l.Known[m.below(len(l.Known))] = n
	case 6:
		l.Clocks = append(l.Clocks, l.Now)
	case 7:
		l.Known = append(l.Known, 0)
	}
}
