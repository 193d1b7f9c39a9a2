package tests

import (
	"slices"
	"testing"

	"loop.example/g00218/impl"
)

// writerAt is the Txn that wrote the key of op i last ahead of it, or 0.
func writerAt(l []impl.Op, i int) int {
	writer := 0
	for _, o := range l[:i] {
		if o.Kind == impl.OpWrite && o.Key == l[i].Key {
			writer = o.Txn
		}
	}
	return writer
}

func commitAt(l []impl.Op, txn int) int {
	return slices.Index(l, impl.Op{Kind: impl.OpCommit, Txn: txn})
}

// recoverAgain tells the three answers by the document's words.
func recoverAgain(l []impl.Op) [3]bool {
	is := [3]bool{true, true, true}
	for i, o := range l {
		writer := writerAt(l, i)
		if o.Kind == impl.OpCommit || writer == 0 || writer == o.Txn {
			continue
		}
		if o.Kind == impl.OpRead && commitAt(l, o.Txn) < commitAt(l, writer) {
			is[0] = false
		}
		if o.Kind == impl.OpRead && !slices.Contains(l[:i], impl.Op{Kind: impl.OpCommit, Txn: writer}) {
			is[1] = false
		}
		if !slices.Contains(l[:i], impl.Op{Kind: impl.OpCommit, Txn: writer}) {
			is[2] = false
		}
	}
	return is
}

func TestRecoverableOf(t *testing.T) {
	for _, c := range []struct {
		ops  string
		want [3]bool
	}{
		{"", [3]bool{true, true, true}},
		{"c1 c2", [3]bool{true, true, true}},
		// nobody reads from another one
		{"r1a r2a c1 c2", [3]bool{true, true, true}},
		{"w1a w2b c2 c1", [3]bool{true, true, true}},
		{"r1a w2a c2 c1", [3]bool{true, true, true}},
		// the reader commits first
		{"w1a r2a c2 c1", [3]bool{false, false, false}},
		// the reader commits behind, but read too early
		{"w1a r2a c1 c2", [3]bool{true, false, false}},
		// it reads behind the commit
		{"w1a c1 r2a c2", [3]bool{true, true, true}},
		// written over ahead of the commit
		{"w1a w2a c1 c2", [3]bool{true, true, false}},
		{"w1a w2a c2 c1", [3]bool{true, true, false}},
		{"w1a c1 w2a c2", [3]bool{true, true, true}},
		// what it wrote itself may be read and written over ahead of its commit
		{"w1a r1a c1", [3]bool{true, true, true}},
		{"w1a w1a c1", [3]bool{true, true, true}},
		{"w1a r1a w1a r1a c2 c1", [3]bool{true, true, true}},
		// written over by 2, and then read by 2: from itself
		{"w1a w2a r2a c2 c1", [3]bool{true, true, false}},
		// the one that wrote last counts, not the one ahead of it
		{"w1a w2a c2 r3a c3 c1", [3]bool{true, true, false}},
		{"w1a w2a c1 r3a c2 c3", [3]bool{true, false, false}},
		{"w1a w2a c1 r3a c3 c2", [3]bool{false, false, false}},
		// it is read by one in time, by another one too early
		{"w1a c1 r2a w2b r3b c2 c3", [3]bool{true, false, false}},
		{"w1a c1 r2a w2b r3b c3 c2", [3]bool{false, false, false}},
		// its own write lies between
		{"w1a w2a w1a r1a c1 c2", [3]bool{true, true, false}},
		{"w1a c1 w2a r2a c2", [3]bool{true, true, true}},
		// a commit of a third one does not help
		{"w1a c3 r2a c1 c2", [3]bool{true, false, false}},
		// another key
		{"w1a r2b w2b c2 c1", [3]bool{true, true, true}},
	} {
		r, a, s, ok := impl.RecoverableOf(ops(c.ops))
		if [3]bool{r, a, s} != c.want || !ok {
			t.Errorf("%s: %v %v %v %v", c.ops, r, a, s, ok)
		}
	}
}

func TestRecoverableOfManySchedules(t *testing.T) {
	for _, l := range manySchedules() {
		r, a, s, ok := impl.RecoverableOf(l)
		if [3]bool{r, a, s} != recoverAgain(l) || !ok {
			t.Fatalf("%+v: %v %v %v %v", l, r, a, s, ok)
		}
	}
}

// What is strict avoids cascades, what avoids them is recoverable; neither the other way round.
func TestStrictAvoidsCascadesAndIsRecoverable(t *testing.T) {
	count := map[[3]bool]int{}
	for _, l := range manySchedules() {
		r, a, s, _ := impl.RecoverableOf(l)
		count[[3]bool{r, a, s}]++
		if s && !a || a && !r {
			t.Fatalf("%+v: %v %v %v", l, r, a, s)
		}
	}
	for _, is := range [][3]bool{{}, {true}, {true, true}, {true, true, true}} {
		if count[is] < 100 {
			t.Error(count)
		}
	}
}
