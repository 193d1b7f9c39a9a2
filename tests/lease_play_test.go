package tests

import (
	"math"
	"slices"
	"testing"

	"loop.example/g00218/impl"
)

// somePlayOfLeases is a play of several nodes whose clocks go their own ways: most steps are done, and leases go from one to another.
func somePlayOfLeases(seed uint64) (int, int, []impl.LeaseStep) {
	m := mixer(seed)
	nodes, skew := 2+m.below(4), m.below(8)
	if m.below(8) == 0 {
		nodes = 1 + m.below(12)
	}
	if m.below(4) == 0 {
		skew = []int{0, 1, 100, 999, 1000}[m.below(5)]
	}
	x, _ := impl.NewLeases(nodes, skew)
	var l []impl.LeaseStep
	for range 20 + m.below(81) {
		s := nextLeaseStep(&m, x)
		l = append(l, s)
		if left, ok := impl.StepLease(x, s); ok {
			x = left
		}
	}
	return nodes, skew, l
}

// nextLeaseStep goes as far as it may, or beyond by one, about as often as it stays within.
func nextLeaseStep(m *mixer, l impl.Leases) impl.LeaseStep {
	node := m.below(len(l.Clocks))
	at := l.Clocks[node]
	switch m.below(14) {
	case 0:
		return manyLeaseSteps()[m.below(len(manyLeaseSteps()))]
	case 1, 2, 3:
		return grantFor(node, 1+m.below(l.Skew+3+m.below(2)*2*l.Skew))
	case 4, 5:
		return tellNode(max(l.Holder, 0))
	case 6, 7, 8:
		room := slices.Min(l.Clocks) + l.Skew - l.Now
		return passBy(max(1, room-m.below(2)*m.below(room+1)+m.below(10)/9))
	case 9:
		return tickBy(node, l.Now-l.Skew-at-m.below(8)/7)
	case 10:
		return tickBy(node, m.below(2*l.Skew+1)-l.Skew)
	case 11, 12:
		// the slowest one goes on, as Now waits for it
		node = slices.Index(l.Clocks, slices.Min(l.Clocks))
		at = l.Clocks[node]
	}
	return tickBy(node, l.Now+l.Skew-at+m.below(8)/7)
}

func TestNewLeases(t *testing.T) {
	for _, nodes := range []int{math.MinInt, -12, -1, 0, 13, 14, 1 << 32, math.MaxInt} {
		for _, skew := range []int{-1, 0, 5, 1000, 1001} {
			if l, ok := impl.NewLeases(nodes, skew); ok || !isZeroLeases(l) {
				t.Error(nodes, skew, l, ok)
			}
		}
	}
	for _, skew := range []int{math.MinInt, -1000, -1, 1001, 1002, 1 << 32, math.MaxInt} {
		for _, nodes := range []int{0, 1, 5, 12, 13} {
			if l, ok := impl.NewLeases(nodes, skew); ok || !isZeroLeases(l) {
				t.Error(nodes, skew, l, ok)
			}
		}
	}
	for nodes := 1; nodes <= 12; nodes++ {
		for _, skew := range []int{0, 1, 5, 999, 1000} {
			l, ok := impl.NewLeases(nodes, skew)
			want := impl.Leases{Skew: skew, Clocks: make([]int, nodes), Holder: -1, Known: make([]int, nodes)}
			believers, good := impl.BelieversOf(l)
			if !ok || !sameLeases(l, want) || !impl.GoodLeases(l) || !good || len(believers) > 0 {
				t.Error(nodes, skew, l, ok, believers)
			}
		}
	}
}

func TestPlayLeases(t *testing.T) {
	for _, c := range []struct {
		nodes, skew int
		steps       string
		many        []int
		left        impl.Leases
	}{
		{1, 0, "", nil, stillLeases(1, 0, 0)},
		// who is granted something does not know it
		{1, 0, "g0:5", []int{0}, impl.Leases{Clocks: []int{0}, Until: 5, Known: []int{0}}},
		{1, 0, "g0:5 t0", []int{0, 1}, impl.Leases{Clocks: []int{0}, Until: 5, Known: []int{5}}},
		// with a skew it stops by as much sooner
		{1, 4, "g0:5 t0", []int{0, 1}, impl.Leases{Skew: 4, Clocks: []int{0}, Until: 5, Known: []int{5}}},
		{1, 5, "g0:5 t0", []int{0, 0}, impl.Leases{Skew: 5, Clocks: []int{0}, Until: 5, Known: []int{5}}},
		{1, 2, "g0:5 t0 c0:2 c0:1 n1 c0:1", []int{0, 1, 1, 1, 1, 0}, impl.Leases{Skew: 2, Now: 1, Clocks: []int{3}, Until: 5, Known: []int{5}}},
		// it is granted more, and believes when it is told
		{1, 2, "g0:3 t0 c0:1 g0:6 t0 g0:4 t0", []int{0, 1, 0, 0, 1, 1, 1}, impl.Leases{Skew: 2, Clocks: []int{1}, Until: 6, Known: []int{6}}},
		// a clock that goes back lets its node believe again, while it holds
		{2, 2, "g1:3 t1 c1:1 c1:-1", []int{0, 1, 0, 1}, impl.Leases{Skew: 2, Clocks: []int{0, 0}, Holder: 1, Until: 3, Known: []int{0, 3}}},
		// another one holds when it is over, and the first one does not believe any more, however slow its clock is
		{2, 3, "g0:4 t0 n3 c1:6 n1 g1:9 c0:1 n1 g1:9 t1 g1:9", []int{0, 1, 1, 1, 1, 1, 0, 0, 0, 1, 1}, impl.Leases{Skew: 3, Now: 4, Clocks: []int{1, 6}, Holder: 1, Until: 13, Known: []int{4, 13}}},
		// steps that cannot be done, after which all goes on as it was
		{2, 1, "t0 g0:0 g2:1 g0:5 t1 g1:5 t0 n2 c0:2 n1 c1:-1 c1:1 t0 n1 c0:2 n9 g1:1", []int{0, 0, 0, 0, 0, 0, 1, 1, 1, 1, 1, 1, 1, 1, 1, 1, 1}, impl.Leases{Skew: 1, Now: 1, Clocks: []int{2, 1}, Until: 5, Known: []int{5, 0}}},
	} {
		l, many, ok := impl.PlayLeases(c.nodes, c.skew, leaseSteps(c.steps))
		if !ok || !slices.Equal(many, c.many) || !sameLeases(l, c.left) {
			t.Errorf("%s: %v %v, %+v is left", c.steps, many, ok, l)
		}
	}
}

func TestPlayLeasesOfWhatNewLeasesRefuses(t *testing.T) {
	for _, nodes := range []int{math.MinInt, -1, 0, 1, 3, 12, 13, math.MaxInt} {
		for _, skew := range []int{math.MinInt, -1, 0, 7, 1000, 1001, math.MaxInt} {
			for _, l := range [][]impl.LeaseStep{nil, leaseSteps("g0:5"), leaseSteps("g13:5 t0 g0:2000 t0")} {
				x, many, ok := impl.PlayLeases(nodes, skew, l)
				start, can := impl.NewLeases(nodes, skew)
				if ok != can || !can && (many != nil || !isZeroLeases(x)) {
					t.Error(nodes, skew, x, many, ok)
				}
				if can && (len(many) != len(l) || len(l) == 0 && !sameLeases(x, start) || len(l) == 4 && !slices.Equal(many, []int{0, 0, 0, 1})) {
					t.Error(nodes, skew, x, many, ok)
				}
			}
		}
	}
}

func TestPlayLeasesHasALimit(t *testing.T) {
	for _, text := range []string{"g0:5", "t0", "g0:5 t0 c0:2 c1:2 n1 g1:9 t1", "n5"} {
		l := slices.Repeat(leaseSteps(text), 110)
		for _, many := range []int{0, 1, 99, 100} {
			if x, told, ok := impl.PlayLeases(2, 2, l[:many]); !ok || len(told) != many || len(x.Clocks) != 2 {
				t.Error(many, x, told, ok)
			}
		}
		for _, many := range []int{101, 102, 110} {
			if x, told, ok := impl.PlayLeases(2, 2, l[:many]); ok || told != nil || !isZeroLeases(x) {
				t.Error(many, x, told, ok)
			}
		}
	}
	// the last step that there is room for counts
	l := append(slices.Repeat(leaseSteps("g0:9"), 99), tellNode(0))
	if x, many, ok := impl.PlayLeases(1, 0, l); !ok || many[99] != 1 || many[98] != 0 || x.Known[0] != 9 {
		t.Error(x, many, ok)
	}
}

// A play is its steps one by one, each that can be done.
func TestPlayLeasesIsItsSteps(t *testing.T) {
	for seed := range 1000 {
		nodes, skew, l := somePlayOfLeases(uint64(seed))
		x, _ := impl.NewLeases(nodes, skew)
		var want []int
		for i, s := range l {
			if left, ok := checkLeaseStep(t, x, s); ok {
				x = left
			}
			want = append(want, len(believersAgain(x)))
			if i%40 == 7 || i == len(l)-1 {
				played, many, ok := impl.PlayLeases(nodes, skew, l[:i+1])
				if !ok || !sameLeases(played, x) || !slices.Equal(many, want) {
					t.Fatalf("%v: %v %v, not %v %v", l[:i+1], played, many, x, want)
				}
			}
		}
	}
}
