package tests

import (
	"math"
	"slices"
	"strings"
	"testing"

	"loop.example/g00218/impl"
)

// ops reads words such as r1a, w2b and c1: the kind, the Txn, and the key if there is one.
func ops(text string) []impl.Op {
	var l []impl.Op
	for _, word := range strings.Fields(text) {
		kind := strings.IndexByte(" rwc", word[0])
		l = append(l, impl.Op{Kind: kind, Txn: int(word[1] - '0'), Key: word[2:]})
	}
	return l
}

// readsOf are n ops of one Txn, its commit too.
func readsOf(txn, n int) []impl.Op {
	var l []impl.Op
	for range n - 1 {
		l = append(l, impl.Op{Kind: impl.OpRead, Txn: txn, Key: "a"})
	}
	return append(l, impl.Op{Kind: impl.OpCommit, Txn: txn})
}

// mixedReads are n ops: reads of all Txns in turn, and then their commits.
func mixedReads(n int) []impl.Op {
	var l []impl.Op
	for i := range n - impl.MaxTxns {
		l = append(l, impl.Op{Kind: impl.OpRead, Txn: i%impl.MaxTxns + 1, Key: "k"})
	}
	for i := range impl.MaxTxns {
		l = append(l, impl.Op{Kind: impl.OpCommit, Txn: i + 1})
	}
	return l
}

// nextOps are all ops that Txns up to a number may do on two keys.
func nextOps(txns int) []impl.Op {
	var l []impl.Op
	for i := range txns {
		l = append(l, impl.Op{Kind: impl.OpCommit, Txn: i + 1})
		for _, key := range []string{"a", "b"} {
			l = append(l,
				impl.Op{Kind: impl.OpRead, Txn: i + 1, Key: key},
				impl.Op{Kind: impl.OpWrite, Txn: i + 1, Key: key})
		}
	}
	return l
}

// openIn counts the Txns that have an op but no commit yet.
func openIn(l []impl.Op) int {
	open := map[int]int{}
	for _, o := range l {
		open[o.Txn] = 1
		if o.Kind == impl.OpCommit {
			open[o.Txn] = 0
		}
	}
	n := 0
	for _, one := range open {
		n += one
	}
	return n
}

// smallSchedules are all good ops, at most n, of some Txns on two keys.
func smallSchedules(n, txns int) [][]impl.Op {
	var all [][]impl.Op
	begun := [][]impl.Op{nil}
	for size := 0; size <= n; size++ {
		var longer [][]impl.Op
		for _, l := range begun {
			open := openIn(l)
			if open == 0 {
				all = append(all, l)
			}
			for _, o := range nextOps(txns) {
				behind := slices.Contains(l, impl.Op{Kind: impl.OpCommit, Txn: o.Txn})
				if next := append(slices.Clone(l), o); !behind && openIn(next) < n-size {
					longer = append(longer, next)
				}
			}
		}
		begun = longer
	}
	return all
}

// A mixer tells numbers by a fixed rule that its seed sets going.
type mixer uint64

func (m *mixer) below(n int) int {
	*m = *m*6364136223846793005 + 1442695040888963407
	return int(*m>>33) % n
}

// programs are the ops of some Txns, each ending with its commit, so many in all.
func programs(m *mixer, txns, keys, size int) [][]impl.Op {
	all := make([][]impl.Op, txns)
	for range size - txns {
		t := m.below(txns)
		key := string([]byte{'a' + byte(m.below(keys))})
		all[t] = append(all[t], impl.Op{Kind: m.below(2) + 1, Txn: t + 1, Key: key})
	}
	for t := range all {
		all[t] = append(all[t], impl.Op{Kind: impl.OpCommit, Txn: t + 1})
	}
	return all
}

// longSchedule mixes programs freely.
func longSchedule(seed uint64) []impl.Op {
	m := mixer(seed)
	txns, keys := m.below(impl.MaxTxns)+1, m.below(26)+1
	left := programs(&m, txns, keys, txns+m.below(impl.MaxOps-txns+1))
	var l []impl.Op
	for len(left) > 0 {
		t := m.below(len(left))
		l = append(l, left[t][0])
		if left[t] = left[t][1:]; len(left[t]) == 0 {
			left = slices.Delete(left, t, t+1)
		}
	}
	return l
}

func longSchedules() [][]impl.Op {
	var all [][]impl.Op
	for seed := range 400 {
		all = append(all, longSchedule(uint64(seed)))
	}
	return all
}

// goodSchedules stand at the edges that the document names.
func goodSchedules() [][]impl.Op {
	all := [][]impl.Op{
		nil,
		{},
		ops("c1"),
		ops("c8"),
		ops("c2 c1"),
		ops("r1a c1"),
		ops("w8abcdefgh c8"),
		ops("r1a r1a w1a w1a c1"),
		ops("r1a w2a c1 c2"),
		ops("r1a c1 w2a c2"),
		readsOf(3, impl.MaxOps-1),
		readsOf(3, impl.MaxOps),
		mixedReads(impl.MaxOps),
	}
	for _, key := range goodKeys() {
		all = append(all, ops("r1"+key+" w2"+key+" c2 c1"))
	}
	for t := range impl.MaxTxns {
		all = append(all, readsOf(t+1, 2))
	}
	return all
}

// badSchedules break one rule each.
func badSchedules() [][]impl.Op {
	commit := impl.Op{Kind: impl.OpCommit, Txn: 1}
	all := [][]impl.Op{
		readsOf(3, impl.MaxOps+1),
		mixedReads(impl.MaxOps + 1),
		readsOf(3, 5000),
		{{}},
		{{}, commit},
		ops("r1a"),
		ops("w1a"),
		ops("r1a r2a c1"),
		ops("r1a r2a c2"),
		ops("r1a c1 r2a"),
		ops("c1 c1"),
		ops("r1a c1 c1"),
		ops("r1a c1 r2a c1 c2"),
		ops("r1a c1 r1a"),
		ops("r1a c1 w1a"),
		ops("c1 w1a"),
		ops("c1 r1a c1"),
		ops("r2b r1a c1 w1a c1 c2"),
		ops("r1a c1a"),
		ops("r1a c1 r2b c2b"),
		ops("c1abcdefgh"),
	}
	for _, n := range []int{-1, 0, 9, 10, 64, math.MinInt, math.MaxInt} {
		all = append(all,
			[]impl.Op{{Kind: impl.OpCommit, Txn: n}},
			[]impl.Op{{Kind: impl.OpRead, Txn: n, Key: "a"}, {Kind: impl.OpCommit, Txn: n}},
			[]impl.Op{{Kind: impl.OpWrite, Txn: n, Key: "a"}, commit},
			[]impl.Op{commit, {Kind: impl.OpCommit, Txn: n}})
	}
	for _, n := range []int{-1, 0, 4, 5, 64, math.MinInt, math.MaxInt} {
		all = append(all,
			[]impl.Op{{Kind: n, Txn: 1, Key: "a"}, commit},
			[]impl.Op{{Kind: n, Txn: 1}, commit},
			[]impl.Op{commit, {Kind: n, Txn: 2}},
			[]impl.Op{{Kind: n, Txn: 1}})
	}
	for _, key := range badKeys() {
		for _, kind := range []int{impl.OpRead, impl.OpWrite, impl.OpCommit} {
			if kind == impl.OpCommit && key == "" {
				continue
			}
			all = append(all, []impl.Op{{Kind: kind, Txn: 1, Key: key}, {Kind: impl.OpCommit, Txn: 2}, commit})
		}
		if key != "" {
			all = append(all, []impl.Op{{Kind: impl.OpCommit, Txn: 1, Key: key}})
		}
	}
	return all
}

func TestLimitsOfOps(t *testing.T) {
	if impl.MaxOps != 60 || impl.MaxTxns != 8 {
		t.Error(impl.MaxOps, impl.MaxTxns)
	}
	if impl.OpRead != 1 || impl.OpWrite != 2 || impl.OpCommit != 3 {
		t.Error(impl.OpRead, impl.OpWrite, impl.OpCommit)
	}
}

func TestGoodOps(t *testing.T) {
	for _, l := range slices.Concat(goodSchedules(), smallSchedules(4, 2), longSchedules()) {
		if !impl.GoodOps(l) {
			t.Errorf("%+v is good", l)
		}
	}
	for _, l := range badSchedules() {
		if impl.GoodOps(l) {
			t.Errorf("%+v is not good", l)
		}
	}
}

// endsInCommits tells by the document's words whether each Txn has one commit, as its last op.
func endsInCommits(l []impl.Op) bool {
	for _, o := range l {
		commits, last := 0, impl.Op{}
		for _, x := range l {
			if x.Txn == o.Txn {
				last = x
				if x.Kind == impl.OpCommit {
					commits++
				}
			}
		}
		if commits != 1 || last.Kind != impl.OpCommit {
			return false
		}
	}
	return true
}

// All ops that three places may have, whether they are good together or not.
func TestGoodOpsOfAllThatIsShort(t *testing.T) {
	next := nextOps(2)
	for _, a := range next {
		for _, b := range next {
			for _, c := range next {
				l := []impl.Op{a, b, c}
				for n := range 4 {
					if good := impl.GoodOps(l[:n]); good != endsInCommits(l[:n]) {
						t.Errorf("%+v: %v", l[:n], good)
					}
				}
			}
		}
	}
}

func TestBadOpsHaveTheZeroAnswer(t *testing.T) {
	for _, l := range badSchedules() {
		if x, ok := impl.ConflictsOf(l); len(x) != 0 || ok {
			t.Errorf("ConflictsOf %+v: %v %v", l, x, ok)
		}
		if x, ok := impl.SerialOrder(l); len(x) != 0 || ok {
			t.Errorf("SerialOrder %+v: %v %v", l, x, ok)
		}
		if reads, cells, ok := impl.RunOps(l); len(reads) != 0 || len(cells) != 0 || ok {
			t.Errorf("RunOps %+v: %v %v %v", l, reads, cells, ok)
		}
		if x, ok := impl.ReadsFrom(l); len(x) != 0 || ok {
			t.Errorf("ReadsFrom %+v: %v %v", l, x, ok)
		}
		if r, a, s, ok := impl.RecoverableOf(l); r || a || s || ok {
			t.Errorf("RecoverableOf %+v: %v %v %v %v", l, r, a, s, ok)
		}
		for _, order := range [][]int{nil, {0}, {1}, {1, 2}, {2, 1}, {3}, {9}, {1, 2, 3, 4, 5, 6, 7, 8}} {
			if x, ok := impl.SerialOps(l, order); len(x) != 0 || ok {
				t.Errorf("SerialOps %+v, %v: %v %v", l, order, x, ok)
			}
		}
		for _, locks := range [][]int{nil, locksAtOwn(l), locksAtEnd(l), make([]int, len(l))} {
			if two, ok := impl.IsTwoPhase(l, locks); two || ok {
				t.Errorf("IsTwoPhase %+v, %v: %v %v", l, locks, two, ok)
			}
		}
	}
}
