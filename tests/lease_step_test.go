package tests

import (
	"fmt"
	"math"
	"strings"
	"testing"

	"loop.example/g00218/impl"
)

func grantFor(node, n int) impl.LeaseStep {
	return impl.LeaseStep{Kind: impl.LeaseGrant, Node: node, N: n}
}

func tellNode(node int) impl.LeaseStep {
	return impl.LeaseStep{Kind: impl.LeaseTell, Node: node}
}

func passBy(n int) impl.LeaseStep {
	return impl.LeaseStep{Kind: impl.LeaseTime, N: n}
}

func tickBy(node, n int) impl.LeaseStep {
	return impl.LeaseStep{Kind: impl.LeaseTick, Node: node, N: n}
}

// leaseSteps are steps as a text: g0:5 grants node 0 for 5, t0 tells it, n5 lets Now be 5 more, c0:5 the clock of node 0.
func leaseSteps(text string) []impl.LeaseStep {
	var l []impl.LeaseStep
	for _, word := range strings.Fields(text) {
		s := impl.LeaseStep{Kind: 1 + strings.IndexByte("gtnc", word[0])}
		var err error
		switch s.Kind {
		case impl.LeaseTell:
			_, err = fmt.Sscanf(word[1:], "%d", &s.Node)
		case impl.LeaseTime:
			_, err = fmt.Sscanf(word[1:], "%d", &s.N)
		default:
			_, err = fmt.Sscanf(word[1:], "%d:%d", &s.Node, &s.N)
		}
		if err != nil || s.Kind == 0 {
			panic(word)
		}
		l = append(l, s)
	}
	return l
}

// manyLeaseSteps are steps of all kinds at any node by any number, good ones and others.
func manyLeaseSteps() []impl.LeaseStep {
	var l []impl.LeaseStep
	for _, kind := range []int{math.MinInt, -1, 0, 1, 2, 3, 4, 5, math.MaxInt} {
		for _, node := range []int{math.MinInt, -1, 0, 1, 3, 4, math.MaxInt} {
			for _, n := range []int{math.MinInt, -1001, -1000, -5, -1, 0, 1, 5, 60, 1000000, 1000001, math.MaxInt} {
				l = append(l, impl.LeaseStep{Kind: kind, Node: node, N: n})
			}
		}
	}
	return l
}

// leaseStepAgain tells the document's words a second time.
func leaseStepAgain(l impl.Leases, s impl.LeaseStep) (impl.Leases, bool) {
	if !goodLeasesAgain(l) {
		return impl.Leases{}, false
	}
	l = deepLeases(l)
	isNode, isMore := s.Node >= 0 && s.Node < len(l.Clocks), s.N > 0 && s.N <= 1000000
	switch {
	case s.Kind == 1 && isNode && isMore && s.Node == l.Holder:
		if l.Now+s.N > l.Until {
			l.Until = l.Now + s.N
		}
	case s.Kind == 1 && isNode && isMore && l.Now >= l.Until:
		l.Holder, l.Until = s.Node, l.Now+s.N
	case s.Kind == 2 && isNode && s.Node == l.Holder:
		l.Known[s.Node] = l.Until
	case s.Kind == 3 && isMore && l.Now+s.N <= 1000000:
		l.Now += s.N
	case s.Kind == 4 && isNode && s.N >= -1000 && s.N <= 1000000:
		l.Clocks[s.Node] += s.N
	default:
		return impl.Leases{}, false
	}
	for _, at := range l.Clocks {
		if at < 0 || at > l.Now+l.Skew || at < l.Now-l.Skew {
			return impl.Leases{}, false
		}
	}
	return l, true
}

// checkLeaseStep holds a step against the document's words, and against what they say of all steps: what is left is good, and neither Now nor Until goes back.
func checkLeaseStep(t *testing.T, l impl.Leases, s impl.LeaseStep) (impl.Leases, bool) {
	t.Helper()
	left, ok := impl.StepLease(l, s)
	want, wantOk := leaseStepAgain(l, s)
	if ok != wantOk || !sameLeases(left, want) {
		t.Fatalf("%v: %v: %v %v, not %v %v", l, s, left, ok, want, wantOk)
	}
	if ok && (!impl.GoodLeases(left) || left.Now < l.Now || left.Until < l.Until || left.Skew != l.Skew || len(left.Clocks) != len(l.Clocks)) {
		t.Fatalf("%v: %v: %v", l, s, left)
	}
	if !ok && !isZeroLeases(left) {
		t.Fatalf("%v: %v: %v", l, s, left)
	}
	return left, ok
}

// A leaseCase is a step, and what it does to leases: nothing where put is nil.
type leaseCase struct {
	why   string
	given impl.Leases
	step  impl.LeaseStep
	put   func(l *impl.Leases)
}

// same is what a step that can be done may leave as it is.
func same(*impl.Leases) {}

func checkLeaseCases(t *testing.T, cases []leaseCase) {
	t.Helper()
	for _, c := range cases {
		left, ok := checkLeaseStep(t, c.given, c.step)
		want := impl.Leases{}
		if c.put != nil {
			want = deepLeases(c.given)
			c.put(&want)
		}
		if ok != (c.put != nil) || !sameLeases(left, want) {
			t.Errorf("%s: %v: %v: %v %v, not %v", c.why, c.given, c.step, left, ok, want)
		}
	}
}

func TestStepLeaseOfNoKind(t *testing.T) {
	for _, kind := range []int{math.MinInt, -1, 0, 5, 6, math.MaxInt} {
		for _, n := range []int{-1, 0, 1, 2, 5} {
			for node := range 4 {
				if left, ok := checkLeaseStep(t, plainLeases(), impl.LeaseStep{Kind: kind, Node: node, N: n}); ok {
					t.Error(kind, node, n, left)
				}
			}
		}
	}
}

// grantedTo are leases at Now 100 with a Holder and an Until, of four nodes.
func grantedTo(holder, until int) impl.Leases {
	l := plainLeases()
	l.Holder, l.Until, l.Known = holder, until, make([]int, 4)
	return l
}

func TestStepLeaseGrants(t *testing.T) {
	to := func(holder, until int) func(l *impl.Leases) {
		return func(l *impl.Leases) { l.Holder, l.Until = holder, until }
	}
	late := stillLeases(1, 0, 1000000)
	lateHeld := impl.Leases{Now: 1000000, Clocks: []int{1000000}, Until: 2000000, Known: []int{1500000}}
	checkLeaseCases(t, []leaseCase{
		{"no node", grantedTo(-1, 0), grantFor(-1, 5), nil},
		{"no node", grantedTo(-1, 0), grantFor(math.MinInt, 5), nil},
		{"one past the last node", grantedTo(-1, 0), grantFor(4, 5), nil},
		{"a node past the last", grantedTo(-1, 0), grantFor(math.MaxInt, 5), nil},
		{"the first node", grantedTo(-1, 0), grantFor(0, 5), to(0, 105)},
		{"the last node", grantedTo(-1, 0), grantFor(3, 5), to(3, 105)},
		{"N below 0", grantedTo(-1, 0), grantFor(0, -1), nil},
		{"N below 0", grantedTo(-1, 0), grantFor(0, math.MinInt), nil},
		{"N 0", grantedTo(-1, 0), grantFor(0, 0), nil},
		{"N 1", grantedTo(-1, 0), grantFor(0, 1), to(0, 101)},
		{"N 1000000", grantedTo(-1, 0), grantFor(0, 1000000), to(0, 1000100)},
		{"N 1000001", grantedTo(-1, 0), grantFor(0, 1000001), nil},
		{"N far beyond", grantedTo(-1, 0), grantFor(0, math.MaxInt), nil},
		{"N 0 for the Holder", grantedTo(0, 90), grantFor(0, 0), nil},
		{"N 1 for the Holder", grantedTo(0, 90), grantFor(0, 1), to(0, 101)},
		{"N 1000000 for the Holder", grantedTo(0, 90), grantFor(0, 1000000), to(0, 1000100)},
		{"N 1000001 for the Holder", grantedTo(0, 90), grantFor(0, 1000001), nil},
		{"another Holder, Now below Until", grantedTo(1, 101), grantFor(0, 5), nil},
		{"another Holder, Now far below Until", grantedTo(1, 150), grantFor(0, 60), nil},
		{"another Holder, Now at Until", grantedTo(1, 100), grantFor(0, 5), to(0, 105)},
		{"another Holder, Now above Until", grantedTo(1, 99), grantFor(0, 5), to(0, 105)},
		{"another Holder, Until 0", grantedTo(1, 0), grantFor(2, 5), to(2, 105)},
		{"nobody holds, Now below Until", grantedTo(-1, 101), grantFor(0, 5), nil},
		{"nobody holds, Now at Until", grantedTo(-1, 100), grantFor(0, 5), to(0, 105)},
		{"the Holder, Now below Until, which is less", grantedTo(1, 104), grantFor(1, 5), to(1, 105)},
		{"the Holder, Until just so", grantedTo(1, 105), grantFor(1, 5), same},
		{"the Holder, the greater Until stays", grantedTo(1, 106), grantFor(1, 5), same},
		{"the Holder, the greatest Until stays", grantedTo(1, 2000000), grantFor(1, 1000000), same},
		{"the Holder, Now at Until", grantedTo(1, 100), grantFor(1, 5), to(1, 105)},
		{"the Holder, Now above Until", grantedTo(1, 20), grantFor(1, 5), to(1, 105)},
		{"the last time and the greatest N", late, grantFor(0, 1000000), to(0, 2000000)},
		{"the last time and N beyond", late, grantFor(0, 1000001), nil},
		{"the last time, held up to the last Until", lateHeld, grantFor(0, 1), same},
		{"what nodes know stays", plainLeases(), grantFor(1, 51), to(1, 151)},
		{"what nodes know stays", plainLeases(), grantFor(1, 50), same},
		{"held by another one", plainLeases(), grantFor(2, 51), nil},
	})
}

func TestStepLeaseTells(t *testing.T) {
	known := func(node, until int) func(l *impl.Leases) {
		return func(l *impl.Leases) { l.Known[node] = until }
	}
	over := grantedTo(3, 100)
	over.Known = []int{100, 7, 100, 100}
	renewed := plainLeases()
	renewed.Until = 170
	checkLeaseCases(t, []leaseCase{
		{"of the Holder", grantedTo(1, 150), tellNode(1), known(1, 150)},
		{"of the first one", grantedTo(0, 101), tellNode(0), known(0, 101)},
		{"of the last one", grantedTo(3, 2000000), tellNode(3), known(3, 2000000)},
		{"of the Holder again, as more was granted", renewed, tellNode(1), known(1, 170)},
		{"of the Holder, told already", plainLeases(), tellNode(1), same},
		{"of the Holder, told already", over, tellNode(3), same},
		{"of the Holder, when it is over", grantedTo(1, 30), tellNode(1), known(1, 30)},
		{"of the Holder, Until 0", grantedTo(1, 0), tellNode(1), same},
		{"N does not matter", grantedTo(1, 150), impl.LeaseStep{Kind: impl.LeaseTell, Node: 1, N: math.MinInt}, known(1, 150)},
		{"of one that is not Holder", grantedTo(1, 150), tellNode(0), nil},
		{"of one that is not Holder", grantedTo(1, 150), tellNode(2), nil},
		{"of one that is not Holder, with Until not above Now", grantedTo(1, 100), tellNode(2), nil},
		{"of one that is not Holder any more", plainLeases(), tellNode(2), nil},
		{"no node", grantedTo(1, 150), tellNode(-1), nil},
		{"one past the last node", grantedTo(3, 150), tellNode(4), nil},
		{"no node", grantedTo(0, 150), tellNode(math.MinInt), nil},
		{"a node past the last", grantedTo(0, 150), tellNode(math.MaxInt), nil},
		{"nobody holds", grantedTo(-1, 150), tellNode(0), nil},
		{"nobody holds, and no node is told", grantedTo(-1, 150), tellNode(-1), nil},
	})
}

func TestStepLeasePassesTime(t *testing.T) {
	by := func(n int) func(l *impl.Leases) { return func(l *impl.Leases) { l.Now += n } }
	near := plainLeases()
	near.Clocks = []int{98, 105, 100, 102}
	lastNear := plainLeases()
	lastNear.Clocks = []int{105, 105, 105, 98}
	fast := stillLeases(2, 1000, 5000)
	fast.Clocks = []int{6000, 6000}
	exact := stillLeases(2, 0, 7)
	late := stillLeases(2, 10, 999995)
	checkLeaseCases(t, []leaseCase{
		{"N 0", near, passBy(0), nil},
		{"N below 0", near, passBy(-1), nil},
		{"N below 0", near, passBy(math.MinInt), nil},
		{"N 1", near, passBy(1), by(1)},
		{"the first clock just not too far", near, passBy(3), by(3)},
		{"the first clock too far by one", near, passBy(4), nil},
		{"the last clock just not too far", lastNear, passBy(3), by(3)},
		{"the last clock too far by one", lastNear, passBy(4), nil},
		{"a clock that is at its end already", plainLeases(), passBy(1), nil},
		{"no skew", exact, passBy(1), nil},
		{"the greatest one", fast, passBy(2000), by(2000)},
		{"one more than that", fast, passBy(2001), nil},
		{"1000000", fast, passBy(1000000), nil},
		{"1000001", fast, passBy(1000001), nil},
		{"far beyond", fast, passBy(math.MaxInt), nil},
		{"to the last time", late, passBy(5), by(5)},
		{"past the last time", late, passBy(6), nil},
		{"past the last time", stillLeases(2, 10, 1000000), passBy(1), nil},
		{"to the last time by one", stillLeases(2, 10, 999999), passBy(1), by(1)},
		{"the node does not matter", near, impl.LeaseStep{Kind: impl.LeaseTime, Node: 3, N: 1}, by(1)},
		{"nor whether it is one", near, impl.LeaseStep{Kind: impl.LeaseTime, Node: -1, N: 1}, by(1)},
		{"nor whether it is one", near, impl.LeaseStep{Kind: impl.LeaseTime, Node: 4, N: 1}, by(1)},
	})
}

func TestStepLeaseTicks(t *testing.T) {
	by := func(node, n int) func(l *impl.Leases) {
		return func(l *impl.Leases) { l.Clocks[node] += n }
	}
	wide := stillLeases(2, 1000, 2000)
	wide.Clocks = []int{1000, 3000}
	early := stillLeases(2, 1000, 500)
	early.Clocks = []int{3, 1500}
	late := stillLeases(1, 1000, 1000000)
	checkLeaseCases(t, []leaseCase{
		{"N 0", plainLeases(), tickBy(2, 0), same},
		{"N 1", plainLeases(), tickBy(2, 1), by(2, 1)},
		{"N -1", plainLeases(), tickBy(2, -1), by(2, -1)},
		{"just not too far ahead", plainLeases(), tickBy(2, 5), by(2, 5)},
		{"too far ahead by one", plainLeases(), tickBy(2, 6), nil},
		{"just not too far behind", plainLeases(), tickBy(2, -5), by(2, -5)},
		{"too far behind by one", plainLeases(), tickBy(2, -6), nil},
		{"the first one", plainLeases(), tickBy(0, 10), by(0, 10)},
		{"the first one, too far ahead by one", plainLeases(), tickBy(0, 11), nil},
		{"the first one, too far behind by one", plainLeases(), tickBy(0, -1), nil},
		{"the last one", plainLeases(), tickBy(3, 3), by(3, 3)},
		{"the last one, too far ahead by one", plainLeases(), tickBy(3, 4), nil},
		{"the Holder may go back too", plainLeases(), tickBy(1, -10), by(1, -10)},
		{"no skew", stillLeases(2, 0, 7), tickBy(0, 1), nil},
		{"no skew", stillLeases(2, 0, 7), tickBy(0, -1), nil},
		{"no skew, N 0", stillLeases(2, 0, 7), tickBy(0, 0), same},
		{"N -1000", wide, tickBy(1, -1000), by(1, -1000)},
		{"N -1001", wide, tickBy(1, -1001), nil},
		{"N far below", wide, tickBy(1, math.MinInt), nil},
		{"N 1001", wide, tickBy(0, 1001), by(0, 1001)},
		{"N 2000", wide, tickBy(0, 2000), by(0, 2000)},
		{"N 2001", wide, tickBy(0, 2001), nil},
		{"N 1000000", wide, tickBy(0, 1000000), nil},
		{"N 1000001", wide, tickBy(0, 1000001), nil},
		{"N far beyond", wide, tickBy(0, math.MaxInt), nil},
		{"to 0", early, tickBy(0, -3), by(0, -3)},
		{"below 0", early, tickBy(0, -4), nil},
		{"below 0 at the outset", stillLeases(1, 5, 0), tickBy(0, -1), nil},
		{"beyond the last time", late, tickBy(0, 1000), by(0, 1000)},
		{"beyond the last time, too far by one", late, tickBy(0, 1001), nil},
		{"no node", plainLeases(), tickBy(-1, 0), nil},
		{"no node", plainLeases(), tickBy(math.MinInt, 1), nil},
		{"one past the last node", plainLeases(), tickBy(4, 0), nil},
		{"a node past the last", plainLeases(), tickBy(math.MaxInt, 1), nil},
	})
}

// All that steps may do to all good leases that are small.
func TestStepLeaseOfAllThatAreSmall(t *testing.T) {
	did := map[int]int{}
	see := func(l impl.Leases) {
		if !goodLeasesAgain(l) {
			return
		}
		for kind := 0; kind <= 5; kind++ {
			for node := -1; node <= len(l.Clocks); node++ {
				for n := -2; n <= 3; n++ {
					if _, ok := checkLeaseStep(t, l, impl.LeaseStep{Kind: kind, Node: node, N: n}); ok {
						did[kind]++
					}
				}
			}
		}
	}
	smallLeases(1, 4, see)
	smallLeases(2, 2, see)
	if did[0] > 0 || did[5] > 0 || did[1] < 1000 || did[2] < 1000 || did[3] < 1000 || did[4] < 1000 {
		t.Error(did)
	}
}

func TestStepLeaseOfManySteps(t *testing.T) {
	did := 0
	for _, c := range append(goodLeaseChanges(), leaseChange{"", same}) {
		for _, s := range manyLeaseSteps() {
			if _, ok := checkLeaseStep(t, changedLeases(c), s); ok {
				did++
			}
		}
	}
	if did < 1000 {
		t.Error(did)
	}
}
