package tests

import (
	"math"
	"slices"
	"testing"

	"loop.example/g00218/impl"
)

// inOrder are the Txns that have an op, rising.
func inOrder(l []impl.Op) []int {
	var txns []int
	for t := 1; t <= impl.MaxTxns; t++ {
		if slices.ContainsFunc(l, func(o impl.Op) bool { return o.Txn == t }) {
			txns = append(txns, t)
		}
	}
	return txns
}

// conflictPairs goes, for each two Txns, through all of their ops.
func conflictPairs(l []impl.Op) []impl.Pair {
	var pairs []impl.Pair
	for _, from := range inOrder(l) {
		for _, to := range inOrder(l) {
			if from != to && isConflict(l, from, to) {
				pairs = append(pairs, impl.Pair{From: from, To: to})
			}
		}
	}
	return pairs
}

func isConflict(l []impl.Op, from, to int) bool {
	for i, a := range l {
		for j, b := range l {
			switch {
			case i >= j, a.Txn != from, b.Txn != to, a.Key != b.Key:
			case a.Kind == impl.OpWrite && b.Kind == impl.OpWrite,
				a.Kind == impl.OpWrite && b.Kind == impl.OpRead,
				a.Kind == impl.OpRead && b.Kind == impl.OpWrite:
				return true
			}
		}
	}
	return false
}

// hasCycle follows the pairs through one between, until nothing is new.
func hasCycle(pairs []impl.Pair) bool {
	var reach [impl.MaxTxns + 1][impl.MaxTxns + 1]bool
	for _, p := range pairs {
		reach[p.From][p.To] = true
	}
	for between := range reach {
		for i := range reach {
			for j := range reach {
				reach[i][j] = reach[i][j] || reach[i][between] && reach[between][j]
			}
		}
	}
	for i := range reach {
		if reach[i][i] {
			return true
		}
	}
	return false
}

// mayBeNext tells whether all from which a conflict goes to the Txn have been placed.
func mayBeNext(pairs []impl.Pair, placed []int, txn int) bool {
	for _, p := range pairs {
		if p.To == txn && !slices.Contains(placed, p.From) {
			return false
		}
	}
	return true
}

// isLeastOrder tells by the document's words whether this is the order of the Txns.
func isLeastOrder(l []impl.Op, order []int) bool {
	pairs := conflictPairs(l)
	for i, txn := range order {
		placed := order[:i]
		for _, other := range inOrder(l) {
			if slices.Contains(placed, other) || !mayBeNext(pairs, placed, other) {
				continue
			}
			if other != txn {
				return false
			}
			break
		}
	}
	return slices.Equal(slices.Sorted(slices.Values(order)), inOrder(l))
}

func manySchedules() [][]impl.Op {
	return slices.Concat(goodSchedules(), smallSchedules(6, 2), smallSchedules(5, 3), longSchedules())
}

func TestConflictsOf(t *testing.T) {
	for _, c := range []struct {
		ops  string
		want []impl.Pair
	}{
		{"", nil},
		{"c1 c2", nil},
		{"r1a r2a c1 c2", nil},
		{"r1a r2a r1a c1 c2", nil},
		{"w1a w2b c1 c2", nil},
		{"w1a r1a w1a c1", nil},
		{"r1a w2a c1 c2", []impl.Pair{{From: 1, To: 2}}},
		{"w1a r2a c1 c2", []impl.Pair{{From: 1, To: 2}}},
		{"w1a w2a c1 c2", []impl.Pair{{From: 1, To: 2}}},
		{"w2a w1a c1 c2", []impl.Pair{{From: 2, To: 1}}},
		{"w1a c1 r2a c2", []impl.Pair{{From: 1, To: 2}}},
		{"w1a r1a w2a r2a w2a c1 c2", []impl.Pair{{From: 1, To: 2}}},
		{"w1a r2b w2a w1b c1 c2", []impl.Pair{{From: 1, To: 2}, {From: 2, To: 1}}},
		{"w8a r1a w5a c8 c1 c5", []impl.Pair{{From: 1, To: 5}, {From: 8, To: 1}, {From: 8, To: 5}}},
		{"w3b w2b w3a w1a c1 c2 c3", []impl.Pair{{From: 3, To: 1}, {From: 3, To: 2}}},
		{"w1a w2ab w2b c1 c2", nil},
	} {
		if x, ok := impl.ConflictsOf(ops(c.ops)); !slices.Equal(x, c.want) || !ok {
			t.Errorf("%s: %v %v", c.ops, x, ok)
		}
	}
}

func TestConflictsOfManySchedules(t *testing.T) {
	for _, l := range manySchedules() {
		if x, ok := impl.ConflictsOf(l); !slices.Equal(x, conflictPairs(l)) || !ok {
			t.Fatalf("%+v: %v %v", l, x, ok)
		}
	}
}

func TestSerialOrder(t *testing.T) {
	for _, c := range []struct {
		ops  string
		want []int
		ok   bool
	}{
		{"", nil, true},
		{"c5", []int{5}, true},
		{"c8 c3 c1", []int{1, 3, 8}, true},
		{"r1a r2a c2 c1", []int{1, 2}, true},
		{"w2a w1a c1 c2", []int{2, 1}, true},
		{"w8a w7a w6a w5a w4a w3a w2a w1a c1 c2 c3 c4 c5 c6 c7 c8", []int{8, 7, 6, 5, 4, 3, 2, 1}, true},
		// 2 may be next when 3 has been placed, and is less than 4 and 5, which might have been placed all along.
		{"w3a r2a r4b r5b c2 c3 c4 c5", []int{3, 2, 4, 5}, true},
		// 1 waits for 5, which is the last but one of those that wait for nobody.
		{"w5a r1a c1 c5 c2 c3 c6", []int{2, 3, 5, 1, 6}, true},
		{"w1a w2a w1a c1 c2", nil, false},
		{"r1a w2a w1a c1 c2", nil, false},
		{"w1a w2b r1b r2a c1 c2", nil, false},
		{"w1a r2a w2b r3b w3c r1c c1 c2 c3", nil, false},
		// 1 and 4 stand in no cycle, those between them do.
		{"w1a w2a w3a w2a w4a c1 c2 c3 c4", nil, false},
	} {
		if x, ok := impl.SerialOrder(ops(c.ops)); !slices.Equal(x, c.want) || ok != c.ok {
			t.Errorf("%s: %v %v", c.ops, x, ok)
		}
	}
}

func TestSerialOrderOfManySchedules(t *testing.T) {
	orders, cycles := 0, 0
	for _, l := range manySchedules() {
		order, ok := impl.SerialOrder(l)
		if hasCycle(conflictPairs(l)) {
			cycles++
			if len(order) != 0 || ok {
				t.Fatalf("%+v: %v %v", l, order, ok)
			}
			continue
		}
		orders++
		if !ok || !isLeastOrder(l, order) {
			t.Fatalf("%+v: %v %v", l, order, ok)
		}
	}
	if orders < 1000 || cycles < 1000 {
		t.Error(orders, cycles)
	}
}

// checkSame tells whether both schedules tell and leave the same.
func checkSame(t *testing.T, l, other []impl.Op) {
	reads, cells, ok := impl.RunOps(l)
	againReads, againCells, againOk := impl.RunOps(other)
	if !ok || !againOk || !slices.Equal(reads, againReads) || !slices.Equal(cells, againCells) {
		t.Fatalf("%+v: %v %v %v; as %+v: %v %v %v", l, reads, cells, ok, other, againReads, againCells, againOk)
	}
}

// The theorem of serialization: without a cycle all reads and writes the same one after the other.
func TestOpsWithoutACycleAreLikeSerialOnes(t *testing.T) {
	mixed := 0
	for _, l := range manySchedules() {
		order, ok := impl.SerialOrder(l)
		if !ok {
			continue
		}
		serial, ok := impl.SerialOps(l, order)
		if !ok || len(serial) != len(l) {
			t.Fatalf("%+v: %v %v", l, serial, ok)
		}
		if !slices.Equal(serial, l) {
			mixed++
		}
		checkSame(t, l, serial)
	}
	if mixed < 1000 {
		t.Error(mixed)
	}
}

// Neighbours that are in no conflict may change places: what was serial is so mixed, and still has an order.
func TestSerialOpsThatWereMixed(t *testing.T) {
	for seed := range 200 {
		m := mixer(seed)
		serial := slices.Concat(programs(&m, m.below(impl.MaxTxns)+1, m.below(8)+1, impl.MaxOps)...)
		l := slices.Clone(serial)
		for range 3000 {
			i := m.below(len(l) - 1)
			if l[i].Txn != l[i+1].Txn && len(conflictPairs(l[i:i+2])) == 0 {
				l[i], l[i+1] = l[i+1], l[i]
			}
		}
		order, ok := impl.SerialOrder(l)
		if !ok || !isLeastOrder(l, order) {
			t.Fatalf("%+v: %v %v", l, order, ok)
		}
		checkSame(t, l, serial)
	}
}

// Where there is a cycle some order of the Txns may still tell the same, but here none does.
func TestACycleIsLikeNoOrder(t *testing.T) {
	for _, text := range []string{"r1a r2a w1a w2a c1 c2", "r1a w2a w2b r1b c1 c2", "r1a r2b w2a w1b c1 c2"} {
		l := ops(text)
		if order, ok := impl.SerialOrder(l); len(order) != 0 || ok {
			t.Errorf("%s: %v %v", text, order, ok)
		}
		reads, cells, _ := impl.RunOps(l)
		for _, order := range [][]int{{1, 2}, {2, 1}} {
			serial, ok := impl.SerialOps(l, order)
			againReads, againCells, _ := impl.RunOps(serial)
			if !ok || slices.Equal(reads, againReads) && slices.Equal(cells, againCells) {
				t.Errorf("%s is like %v", text, order)
			}
		}
	}
}

func TestSerialOps(t *testing.T) {
	for _, c := range []struct {
		ops   string
		order []int
		want  string
	}{
		{"", nil, ""},
		{"", []int{}, ""},
		{"r3a w3b c3", []int{3}, "r3a w3b c3"},
		{"r1a w2b r1c c2 w1d c1", []int{1, 2}, "r1a r1c w1d c1 w2b c2"},
		{"r1a w2b r1c c2 w1d c1", []int{2, 1}, "w2b c2 r1a r1c w1d c1"},
		{"r8a r1a r4a c4 c1 c8", []int{4, 8, 1}, "r4a c4 r8a c8 r1a c1"},
		{"r1a w2a w1a c1 c2", []int{2, 1}, "w2a c2 r1a w1a c1"},
		{"c7 c2", []int{2, 7}, "c2 c7"},
	} {
		if x, ok := impl.SerialOps(ops(c.ops), c.order); !slices.Equal(x, ops(c.want)) || !ok {
			t.Errorf("%s %v: %v %v", c.ops, c.order, x, ok)
		}
	}
}

func TestSerialOpsOfManySchedules(t *testing.T) {
	for _, l := range longSchedules() {
		order := inOrder(l)
		slices.Reverse(order)
		var want []impl.Op
		for _, txn := range order {
			mine := slices.Clone(l)
			want = append(want, slices.DeleteFunc(mine, func(o impl.Op) bool { return o.Txn != txn })...)
		}
		if x, ok := impl.SerialOps(l, order); !slices.Equal(x, want) || !ok {
			t.Fatalf("%+v %v: %v %v", l, order, x, ok)
		}
	}
}

func TestOrdersThatAreNone(t *testing.T) {
	for _, c := range []struct {
		ops    string
		orders [][]int
	}{
		{"", [][]int{{0}, {1}, {8}, {9}, {1, 2}}},
		{"r2a c2", [][]int{nil, {}, {0}, {1}, {3}, {2, 2}, {2, 1}, {2, 0}, {-2}, {math.MinInt}, {math.MaxInt}}},
		{"r1a r3a w2b c1 c2 c3", [][]int{
			nil, {1, 2}, {1, 3}, {2, 3}, {1}, // one is left out
			{1, 2, 2}, {1, 1, 1}, {3, 1, 3}, {1, 2, 3, 3}, {1, 2, 3, 1}, {1, 2, 3, 1, 2, 3}, // one stands twice
			{1, 2, 4}, {1, 2, 8}, {1, 2, 9}, {1, 2, 0}, {1, 2, -3}, {1, 2, 3, 4}, {0, 1, 2, 3}, {9, 1, 2, 3}, // one has no op
			make([]int, 5000),
		}},
	} {
		for _, order := range c.orders {
			if x, ok := impl.SerialOps(ops(c.ops), order); len(x) != 0 || ok {
				t.Errorf("%s %v: %v %v", c.ops, order, x, ok)
			}
		}
	}
}
