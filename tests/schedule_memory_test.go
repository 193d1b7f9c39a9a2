package tests

import (
	"fmt"
	"slices"
	"strings"
	"testing"
	"unsafe"

	"loop.example/g00218/impl"
)

// answersOf asks all functions of schedules, and tells what they answered as one text.
func answersOf(l []impl.Op, order, locks []int) string {
	conflicts, ok1 := impl.ConflictsOf(l)
	serial, ok2 := impl.SerialOrder(l)
	reads, cells, ok3 := impl.RunOps(l)
	again, ok4 := impl.SerialOps(l, order)
	two, ok5 := impl.IsTwoPhase(l, locks)
	from, ok6 := impl.ReadsFrom(l)
	r, a, s, ok7 := impl.RecoverableOf(l)
	return fmt.Sprint(impl.GoodOps(l), conflicts, ok1, serial, ok2, reads, cells, ok3, again, ok4, two, ok5, from, ok6, r, a, s, ok7)
}

func TestNoOpIsWrittenInto(t *testing.T) {
	for _, l := range slices.Concat(goodSchedules(), badSchedules()[:60], longSchedules()[:40]) {
		for _, order := range [][]int{inOrder(l), {8, 3, 1}, {2, 2}} {
			for _, locks := range [][]int{locksAtOwn(l), locksAtEnd(l), {3, -1, 7}} {
				oldOps, oldOrder, oldLocks := slices.Clone(l), slices.Clone(order), slices.Clone(locks)
				answersOf(l, order, locks)
				if !slices.Equal(l, oldOps) || !slices.Equal(order, oldOrder) || !slices.Equal(locks, oldLocks) {
					t.Errorf("%+v %v %v became %+v %v %v", oldOps, oldOrder, oldLocks, l, order, locks)
				}
			}
		}
	}
}

// The order that is handed in is not sorted, also where it falls.
func TestAnOrderStaysAsItIs(t *testing.T) {
	l := ops("r1a r2a r3a c1 c2 c3")
	order := []int{3, 2, 1, 7, 5}
	if _, ok := impl.SerialOps(l, order[:3]); !ok {
		t.Error("an order")
	}
	if !slices.Equal(order, []int{3, 2, 1, 7, 5}) {
		t.Error(order)
	}
}

// Whatever lies behind the length, good or bad, is neither read nor written.
func TestSchedulesKeepToTheirOps(t *testing.T) {
	for _, text := range []string{"", "c1", "r1a w2a c2 w1b c1", "w1a w2a w1a c1 c2", "w1a r1a r2a c1 c2"} {
		n := len(ops(text))
		l := ops(text)
		locks := locksAtOwn(l)
		want := answersOf(ops(text), inOrder(l), locks)
		for _, behind := range []impl.Op{{Kind: impl.OpWrite, Txn: 1, Key: "a"}, {Kind: impl.OpCommit, Txn: 2}, {Kind: -1, Txn: 99, Key: "?"}} {
			longOps := append(slices.Clone(l), behind, behind)
			longOrder := append(inOrder(l), 1, -1)
			longLocks := append(slices.Clone(locks), 99, -1)
			oldOps, oldOrder, oldLocks := slices.Clone(longOps), slices.Clone(longOrder), slices.Clone(longLocks)
			got := answersOf(longOps[:n], longOrder[:len(longOrder)-2], longLocks[:n])
			if got != want {
				t.Errorf("%s: %s, not %s", text, got, want)
			}
			if !slices.Equal(longOps, oldOps) || !slices.Equal(longOrder, oldOrder) || !slices.Equal(longLocks, oldLocks) {
				t.Errorf("%s: %+v %v %v became %+v %v %v", text, oldOps, oldOrder, oldLocks, longOps, longOrder, longLocks)
			}
		}
	}
}

func TestSerialOpsAreNewMemory(t *testing.T) {
	for _, l := range slices.Concat(goodSchedules(), longSchedules()[:40]) {
		serial, ok := impl.SerialOps(l, inOrder(l))
		if !ok || sharesList(serial, l) {
			t.Fatalf("%+v: %v", l, ok)
		}
		for _, o := range serial {
			for _, given := range l {
				if sharesText(o.Key, given.Key) {
					t.Fatalf("%+v: the key %s lies in what was given", l, o.Key)
				}
			}
		}
	}
}

func TestSerialOrderIsNewMemory(t *testing.T) {
	l := ops("c1 c2 c3")
	order, _ := impl.SerialOrder(l)
	again, _ := impl.SerialOrder(l)
	if sharesList(order, again) || !slices.Equal(order, []int{1, 2, 3}) {
		t.Error(order, again)
	}
}

func textsOf(cells []impl.Cell) []string {
	var texts []string
	for _, c := range cells {
		texts = append(texts, c.Key, c.Value)
	}
	return texts
}

func TestWhatRunOpsTellsIsNewMemory(t *testing.T) {
	for _, l := range slices.Concat(goodSchedules(), longSchedules()[:40]) {
		reads, cells, _ := impl.RunOps(l)
		for _, text := range slices.Concat(reads, textsOf(cells)) {
			for _, o := range l {
				if sharesText(text, o.Key) {
					t.Fatalf("%+v: %s lies in what was given", l, text)
				}
			}
		}
		for _, text := range textsOf(cells) {
			for _, read := range reads {
				if sharesText(text, read) {
					t.Fatalf("%+v: %s and %s share memory", l, text, read)
				}
			}
		}
	}
}

// Keys laid over bytes that change later show whether an answer still hangs on them.
func TestSchedulesDoNotHangOnWhatWasGiven(t *testing.T) {
	b := []byte("abcdefgh")
	key := unsafe.String(&b[0], len(b))
	l := []impl.Op{{Kind: impl.OpWrite, Txn: 1, Key: key}, {Kind: impl.OpRead, Txn: 2, Key: key}, {Kind: impl.OpCommit, Txn: 1}, {Kind: impl.OpCommit, Txn: 2}}
	reads, cells, _ := impl.RunOps(l)
	serial, _ := impl.SerialOps(l, []int{2, 1})
	copy(b, strings.Repeat("z", len(b)))
	if !slices.Equal(reads, []string{"r2abcdefgh=1:0.0"}) || !slices.Equal(cells, []impl.Cell{{Key: "abcdefgh", Value: "1:0.0"}}) {
		t.Error(reads, cells)
	}
	if !slices.Equal(serial, ops("r2abcdefgh c2 w1abcdefgh c1")) {
		t.Error(serial)
	}
}

func TestTwoAnswersOfSchedulesShareNoMemory(t *testing.T) {
	for _, l := range longSchedules()[:40] {
		conflicts, _ := impl.ConflictsOf(l)
		otherConflicts, _ := impl.ConflictsOf(l)
		from, _ := impl.ReadsFrom(l)
		otherFrom, _ := impl.ReadsFrom(l)
		reads, cells, _ := impl.RunOps(l)
		otherReads, otherCells, _ := impl.RunOps(l)
		serial, _ := impl.SerialOps(l, inOrder(l))
		otherSerial, _ := impl.SerialOps(l, inOrder(l))
		if sharesList(conflicts, otherConflicts) || sharesList(from, otherFrom) || sharesList(conflicts, from) {
			t.Fatalf("%+v: pairs share memory", l)
		}
		if sharesList(reads, otherReads) || sharesList(cells, otherCells) || sharesList(serial, otherSerial) {
			t.Fatalf("%+v: answers share memory", l)
		}
	}
}
