package tests

import (
	"fmt"
	"math"
	"slices"
	"testing"

	"loop.example/g00218/impl"
)

// believersAgain tells the document's words a second time.
func believersAgain(l impl.Leases) []int {
	var believers []int
	for i, known := range l.Known {
		if l.Clocks[i]+l.Skew < known {
			believers = append(believers, i)
		}
	}
	return believers
}

// checkBelievers asks of good leases whether at most one node believes, just the Holder, and just while its clock is below what is safe.
func checkBelievers(t *testing.T, l impl.Leases) []int {
	t.Helper()
	believers, ok := impl.BelieversOf(l)
	if !ok || !slices.Equal(believers, believersAgain(l)) {
		t.Fatalf("%v: %v %v, not %v", l, believers, ok, believersAgain(l))
	}
	if len(believers) > 1 || len(believers) == 1 && believers[0] != l.Holder {
		t.Fatalf("%v: %v believe", l, believers)
	}
	for node, at := range l.Clocks {
		until, ok := impl.SafeUntil(l, node)
		if !ok || until < 0 || until != max(l.Known[node]-l.Skew, 0) || (at < until) != slices.Contains(believers, node) {
			t.Fatalf("%v: %d: safe until %d %v, and %v believe", l, node, until, ok, believers)
		}
	}
	return believers
}

// A clock and the skew are together below Known: one below it, just it, and one above it.
func TestANodeBelievesJustBelowItsKnown(t *testing.T) {
	for _, skew := range []int{0, 1, 7, 999, 1000} {
		for _, now := range []int{0, 1, 1000, 5000, 1000000} {
			for _, at := range []int{max(now-skew, 0), now, now + skew} {
				for _, c := range []struct {
					known    int
					believes bool
				}{
					{at + skew + 1, true}, {at + skew, false}, {at + skew - 1, false}, {0, false}, {2000000, true},
				} {
					l := stillLeases(3, skew, now)
					l.Holder, l.Until, l.Clocks[1], l.Known[1] = 1, 2000000, at, max(c.known, 0)
					believers := checkBelievers(t, l)
					if slices.Contains(believers, 1) != c.believes || c.believes != (len(believers) == 1) {
						t.Errorf("%v: %v", l, believers)
					}
				}
			}
		}
	}
}

// One that holds no more has been told up to Now at most, and does not believe, however slow its clock is.
func TestOneThatDoesNotHoldDoesNotBelieve(t *testing.T) {
	for _, skew := range []int{0, 1, 7, 999, 1000} {
		for _, now := range []int{0, 1, 1000, 5000, 1000000} {
			for _, known := range []int{0, max(now-1, 0), now} {
				for _, holder := range []int{-1, 0, 2} {
					l := stillLeases(3, skew, now)
					l.Holder, l.Until, l.Clocks[1], l.Known[1] = holder, now+10, max(now-skew, 0), known
					if !impl.GoodLeases(l) {
						t.Fatal(l)
					}
					if believers := checkBelievers(t, l); len(believers) > 0 {
						t.Errorf("%v: %v", l, believers)
					}
					l.Known[1] = now + 1
					if believers, ok := impl.BelieversOf(l); ok || believers != nil {
						t.Errorf("%v: %v %v", l, believers, ok)
					}
				}
			}
		}
	}
}

func TestBelieversOfEachNode(t *testing.T) {
	for nodes := 1; nodes <= 12; nodes++ {
		for node := range nodes {
			l := stillLeases(nodes, 5, 100)
			l.Holder, l.Until, l.Known[node] = node, 200, 106
			if believers := checkBelievers(t, l); !slices.Equal(believers, []int{node}) {
				t.Errorf("%v: %v", l, believers)
			}
			l.Known[node] = 105
			if believers := checkBelievers(t, l); len(believers) > 0 {
				t.Errorf("%v: %v", l, believers)
			}
		}
	}
}

func TestSafeUntil(t *testing.T) {
	for _, c := range []struct {
		node, until int
		ok          bool
	}{
		{math.MinInt, 0, false}, {-1, 0, false}, {0, 0, true}, {1, 145, true}, {2, 95, true}, {3, 35, true}, {4, 0, false}, {12, 0, false}, {math.MaxInt, 0, false},
	} {
		if until, ok := impl.SafeUntil(plainLeases(), c.node); until != c.until || ok != c.ok {
			t.Errorf("%d: %d %v", c.node, until, ok)
		}
	}
	for _, skew := range []int{0, 1, 7, 1000} {
		for _, known := range []int{0, skew - 1, skew, skew + 1, 2000000} {
			if known < 0 {
				continue
			}
			l := stillLeases(2, skew, 0)
			l.Holder, l.Until, l.Known[1] = 1, 2000000, known
			want := 0
			if known > skew {
				want = known - skew
			}
			if until, ok := impl.SafeUntil(l, 1); until != want || !ok {
				t.Errorf("%v: %d %v, not %d", l, until, ok, want)
			}
			if until, ok := impl.SafeUntil(l, 2); until != 0 || ok {
				t.Errorf("%v: %d %v", l, until, ok)
			}
		}
	}
}

// As its clock goes on a node believes up to what is safe, and not from then on.
func TestANodeBelievesWhileItIsSafe(t *testing.T) {
	for _, skew := range []int{0, 1, 4, 10} {
		for _, n := range []int{1, 3, 10, 25} {
			l, _ := impl.NewLeases(2, skew)
			for _, s := range []impl.LeaseStep{grantFor(1, n), tellNode(1)} {
				l, _ = checkLeaseStep(t, l, s)
			}
			until, _ := impl.SafeUntil(l, 1)
			if until != max(n-skew, 0) {
				t.Fatalf("%v: %d", l, until)
			}
			ticked := 0
			for at := range 40 {
				believers := checkBelievers(t, l)
				if l.Clocks[1] != ticked || (len(believers) == 1) != (ticked < until) {
					t.Fatalf("%v: %d: %v", l, at, believers)
				}
				if left, ok := checkLeaseStep(t, l, tickBy(1, 1)); ok {
					l = left
					ticked++
					continue
				}
				// the other clock and Now follow, where that is allowed
				for _, s := range []impl.LeaseStep{tickBy(0, 1), passBy(1)} {
					if left, ok := checkLeaseStep(t, l, s); ok {
						l = left
					}
				}
			}
			if skew > 0 && ticked < 10 {
				t.Error(skew, n, ticked)
			}
		}
	}
}

// Promise 11, for all good leases that are small.
func TestInAllSmallLeasesABelieverIsTheHolder(t *testing.T) {
	believing, good := 0, 0
	see := func(l impl.Leases) {
		if goodLeasesAgain(l) {
			good++
			believing += len(checkBelievers(t, l))
		}
	}
	smallLeases(1, 5, see)
	smallLeases(2, 3, see)
	if good < 10000 || believing < 200 {
		t.Error(good, believing)
	}
}

// drawnLeases are good, and need not come of any play.
func drawnLeases(m *mixer) impl.Leases {
	l := stillLeases(1+m.below(12), []int{0, 1, 5, 50, 1000}[m.below(5)], []int{0, 1, 60, 3000, 1000000}[m.below(5)])
	l.Holder = m.below(len(l.Clocks)+1) - 1
	l.Until = []int{0, l.Now, l.Now + m.below(2*l.Skew+3), l.Now + m.below(5000), 2000000}[m.below(5)]
	for i := range l.Clocks {
		l.Clocks[i] = max(l.Now-l.Skew+m.below(2*l.Skew+1), 0)
		if m.below(3) == 0 {
			l.Clocks[i] = max(l.Now-l.Skew, 0)
		}
		told := l.Until
		if i != l.Holder {
			told = min(told, l.Now)
		}
		l.Known[i] = told - m.below(2)*m.below(told+1)
	}
	return l
}

// Promise 11, for good leases that no play made.
func TestInGoodLeasesABelieverIsTheHolder(t *testing.T) {
	believing, none, alone := 0, 0, 0
	for seed := range 40000 {
		m := mixer(seed)
		l := drawnLeases(&m)
		if !impl.GoodLeases(l) || !goodLeasesAgain(l) {
			t.Fatal(l, "are good")
		}
		switch believers := checkBelievers(t, l); {
		case len(believers) > 0:
			believing++
		case l.Holder >= 0:
			none++
		default:
			alone++
		}
	}
	if believing < 5000 || none < 5000 || alone < 2000 {
		t.Error(believing, none, alone)
	}
}

// Promise 11, for many drawn plays, behind each step.
func TestAtMostOneBelieves(t *testing.T) {
	believing, passed, slow, unaware := 0, 0, 0, 0
	for seed := range 6000 {
		nodes, skew, l := somePlayOfLeases(uint64(seed) + 5000)
		x, _ := impl.NewLeases(nodes, skew)
		var want []int
		for _, s := range l {
			left, ok := checkLeaseStep(t, x, s)
			if ok {
				if x.Holder >= 0 && left.Holder != x.Holder {
					passed++
				}
				x = left
			}
			believers := checkBelievers(t, x)
			want = append(want, len(believers))
			believing += len(believers)
			if len(believers) == 0 && x.Holder >= 0 && x.Now < x.Until {
				unaware++
			}
			for node, known := range x.Known {
				if len(believers) > 0 && node != x.Holder && x.Clocks[node] < known {
					slow++
				}
			}
		}
		played, many, ok := impl.PlayLeases(nodes, skew, l)
		if !ok || !sameLeases(played, x) || !slices.Equal(many, want) {
			t.Fatalf("%v: %v %v, not %v %v", l, played, many, x, want)
		}
	}
	// the plays are no plays if nobody believes, leases never pass to another one, or no one but for the skew would believe beside the Holder
	if believing < 50000 || passed < 2000 || slow < 1000 || unaware < 5000 {
		t.Error(believing, passed, slow, unaware)
	}
}

// Once one is told, all steps there are, drawn without a thought for what they do, leave at most one that believes.
func TestAtMostOneBelievesWhateverFollows(t *testing.T) {
	many := 0
	for seed := range 2000 {
		m := mixer(seed)
		nodes, skew := 1+m.below(4), m.below(4)
		x, _ := impl.NewLeases(nodes, skew)
		for range 200 {
			s := impl.LeaseStep{Kind: m.below(6), Node: m.below(nodes+2) - 1, N: m.below(12) - 3}
			if left, ok := checkLeaseStep(t, x, s); ok {
				x = left
			}
			many += len(checkBelievers(t, x))
		}
	}
	if many < 20000 {
		t.Error(many)
	}
}

// allLeases goes through all that may come of so many nodes up to a time, by steps of small numbers.
func allLeases(t *testing.T, nodes, skew, last int, see func(l impl.Leases)) int {
	start, ok := impl.NewLeases(nodes, skew)
	if !ok {
		t.Fatal(nodes, skew)
	}
	seen := map[string]int{fmt.Sprint(start): 1}
	work := []impl.Leases{start}
	for len(work) > 0 {
		l := work[len(work)-1]
		work = work[:len(work)-1]
		see(l)
		steps := []impl.LeaseStep{passBy(1)}
		for node := range nodes {
			steps = append(steps, grantFor(node, 1), grantFor(node, 3), tellNode(node), tickBy(node, 1), tickBy(node, -1))
		}
		for _, s := range steps {
			left, ok := impl.StepLease(l, s)
			if !ok || left.Now > last {
				continue
			}
			if text := fmt.Sprint(left); seen[text] == 0 {
				seen[text] = 1
				work = append(work, left)
			}
		}
	}
	return len(seen)
}

// Promise 11, for all that may come of a few nodes and a little time.
func TestOfAllSmallPlaysAtMostOneBelieves(t *testing.T) {
	for _, c := range []struct {
		nodes, skew, last int
	}{
		{1, 0, 0}, {1, 3, 9}, {2, 0, 0}, {2, 1, 6}, {2, 2, 6}, {3, 1, 4},
	} {
		believing := map[int]int{}
		many := allLeases(t, c.nodes, c.skew, c.last, func(l impl.Leases) {
			for _, node := range checkBelievers(t, l) {
				believing[node]++
			}
		})
		if len(believing) != c.nodes || many < 6 {
			t.Error(c, many, believing)
		}
	}
}
