package tests

import (
	"slices"
	"strconv"
	"strings"
	"testing"

	"loop.example/g00218/impl"
)

// ofKeys are steps of one kind and one Txn, one for each key.
func ofKeys(kind, txn int, keys []string) []impl.Step {
	var l []impl.Step
	for _, key := range keys {
		l = append(l, impl.Step{Kind: kind, Txn: txn, Key: key})
	}
	return l
}

// mustPlay is what steps leave, each with code OccOk but for the last one, and the code of that.
func mustPlay(t *testing.T, s impl.Store, l ...impl.Step) (impl.Store, string, int) {
	t.Helper()
	text, code := "", impl.OccOk
	for i, x := range l {
		if s, text, code = checkStep(t, s, x); code != impl.OccOk && i < len(l)-1 {
			t.Fatalf("step %d, %+v: %d", i, x, code)
		}
	}
	return s, text, code
}

func TestDoBeginHasALimit(t *testing.T) {
	s := impl.Store{Epoch: 1}
	for i := range 20 {
		left, text, code := checkStep(t, s, impl.Step{Kind: impl.DoBegin})
		if text != strconv.Itoa(i+1) || code != impl.OccOk || len(left.Txns) != i+1 {
			t.Fatal(i, text, code, told(left))
		}
		s = left
	}
	// a Txn that is told is wrong ahead of that, and those that have ended count too
	for _, c := range []struct{ txn, code int }{{0, impl.OccFull}, {1, impl.OccBad}, {21, impl.OccBad}, {-1, impl.OccBad}} {
		if left, text, code := checkStep(t, s, impl.Step{Kind: impl.DoBegin, Txn: c.txn}); !sameStore(left, s) || text != "" || code != c.code {
			t.Error(c, text, code, told(left))
		}
	}
	s, _, _ = mustPlay(t, s, steps("g1 l2 c2 i2")...)
	if left, _, code := checkStep(t, s, impl.Step{Kind: impl.DoBegin}); !sameStore(left, s) || code != impl.OccFull {
		t.Error(code, told(left))
	}
}

func TestDoReadHasALimit(t *testing.T) {
	keys := numbered(42)
	s, _, _ := mustPlay(t, impl.Store{Epoch: 1}, steps("b b w1own=mine w2other=2 l2")...)
	s, _, code := mustPlay(t, s, ofKeys(impl.DoRead, 1, keys[:40])...)
	if code != impl.OccOk || len(s.Txns[0].Looks) != 40 {
		t.Fatal(code, told(s))
	}
	for _, c := range []struct {
		key, text string
		code      int
	}{{keys[40], "", impl.OccFull}, {keys[0], "", impl.OccOk}, {keys[39], "", impl.OccOk}, {"own", "mine", impl.OccOk}, {"other", "", impl.OccLocked}, {"?", "", impl.OccBad}} {
		if left, text, code := checkStep(t, s, impl.Step{Kind: impl.DoRead, Txn: 1, Key: c.key}); !sameStore(left, s) || text != c.text || code != c.code {
			t.Error(c, text, code, told(left))
		}
	}
	// it may still write, and end
	if _, _, code := mustPlay(t, s, steps("w1more=1 l1 c1 i1")...); code != impl.OccOk {
		t.Error(code)
	}
}

// A Txn may write more keys than a store holds; it then cannot lock them.
func TestDoLockHasALimit(t *testing.T) {
	for _, c := range []struct{ old, more, code int }{{0, 40, impl.OccOk}, {0, 41, impl.OccFull}, {0, 90, impl.OccFull}, {39, 1, impl.OccOk}, {39, 2, impl.OccFull}, {40, 0, impl.OccOk}, {40, 1, impl.OccFull}, {17, 23, impl.OccOk}, {17, 24, impl.OccFull}} {
		keys := numbered(c.old + c.more)
		// the even ones are there, so that new ones come between them
		slices.SortStableFunc(keys, func(a, b string) int { return int(b[3]&1) - int(a[3]&1) })
		s, _, _ := mustPlay(t, impl.Store{Epoch: 1}, slices.Concat(steps("b"), ofKeys(impl.DoWrite, 1, keys[:c.old]), steps("l1 c1 i1 b"))...)
		for _, from := range []int{0, c.old} {
			left, _, code := mustPlay(t, s, slices.Concat(ofKeys(impl.DoWrite, 2, keys[from:]), steps("l2"))...)
			if code != c.code || code == impl.OccOk && len(left.Records) != c.old+c.more || code != impl.OccOk && len(left.Records) != c.old {
				t.Error(c, from, code, told(left))
			}
		}
	}
}

// What another one owns is told ahead of what lacks, wherever it stands.
func TestDoLockTellsLockedAheadOfFull(t *testing.T) {
	for _, mine := range []string{"a", "k020", "z"} {
		s, _, _ := mustPlay(t, impl.Store{Epoch: 1}, append(steps("b b l2 c2 i2 b"), impl.Step{Kind: impl.DoWrite, Txn: 1, Key: mine}, impl.Step{Kind: impl.DoLock, Txn: 1})...)
		s, _, _ = mustPlay(t, s, append(ofKeys(impl.DoWrite, 3, numbered(40)), impl.Step{Kind: impl.DoWrite, Txn: 3, Key: mine})...)
		for _, x := range []struct {
			steps string
			code  int
		}{{"l3", impl.OccLocked}, {"g1 l3", impl.OccFull}, {"c1 l3", impl.OccLocked}, {"c1 i1 l3", impl.OccFull}} {
			if mine == "k020" && x.code == impl.OccFull {
				x.code = impl.OccOk
			}
			if _, _, code := mustPlay(t, s, steps(x.steps)...); code != x.code {
				t.Error(mine, x, code)
			}
		}
	}
}

// storeAt has one record, of a tid, and a Txn that has looked at it or writes it, or both, and is locked.
func storeAt(epoch int, tid impl.Tid, looks, writes bool) impl.Store {
	r := impl.Record{Key: "a", Value: "old", Tid: tid}
	x := impl.Running{Id: 1, State: impl.TxnLocked}
	if looks {
		x.Looks = []impl.Look{{Key: "a", Value: "old", Tid: tid}}
	}
	if writes {
		x.Writes = []impl.Cell{{Key: "a", Value: "new"}}
		r.Tid.Locked, r.Owner = true, 1
	}
	return impl.Store{Epoch: epoch, Records: []impl.Record{r}, Txns: []impl.Running{x}}
}

func TestDoCheckAtTheLastSeq(t *testing.T) {
	for _, c := range []struct {
		epoch     int
		tid, next impl.Tid
		code      int
	}{
		{5, tidOf(5, 0), tidOf(5, 1), impl.OccOk},
		{5, tidOf(4, impl.MaxSeq), tidOf(5, 0), impl.OccOk},
		{5, tidOf(5, impl.MaxSeq-1), tidOf(5, impl.MaxSeq), impl.OccOk},
		{5, tidOf(5, impl.MaxSeq), impl.Tid{}, impl.OccFull},
		{6, tidOf(5, impl.MaxSeq), tidOf(6, 0), impl.OccOk},
		{1000, tidOf(1000, impl.MaxSeq), impl.Tid{}, impl.OccFull},
		{1000, tidOf(0, 0), tidOf(1000, 0), impl.OccOk},
	} {
		for _, how := range [][2]bool{{true, false}, {false, true}, {true, true}} {
			s := storeAt(c.epoch, c.tid, how[0], how[1])
			left, _, code := checkStep(t, s, impl.Step{Kind: impl.DoCheck, Txn: 1})
			if code != c.code || left.Txns[0].Tid != c.next || code == impl.OccFull && left.Txns[0].State != impl.TxnLocked {
				t.Errorf("%+v %v: %d, %s is left", c, how, code, told(left))
			}
		}
	}
}

// What is full in one epoch is not in the next one.
func TestDoCheckInALaterEpoch(t *testing.T) {
	s := storeAt(5, tidOf(5, impl.MaxSeq), true, true)
	s, ok := impl.AdvanceEpoch(s)
	s, _, code := mustPlay(t, s, steps("c1 i1")...)
	if !ok || code != impl.OccOk || told(s) != "a=new@6.0 1D[a=old@5.16777215]{a=new}@6.0 1" {
		t.Error(ok, code, told(s))
	}
}

// NextTid takes 60 tids: with more looks and records together it tells none.
func TestDoCheckOfManyTids(t *testing.T) {
	keys := numbered(100)
	for _, c := range []struct{ looks, writes, same, code int }{
		{40, 20, 0, impl.OccOk}, {40, 21, 0, impl.OccFull}, {20, 40, 0, impl.OccOk}, {21, 40, 0, impl.OccFull}, {40, 40, 0, impl.OccFull},
		// a key that is looked at and written has two
		{30, 30, 30, impl.OccOk}, {31, 30, 30, impl.OccFull}, {40, 20, 20, impl.OccOk}, {40, 40, 40, impl.OccFull},
	} {
		l := slices.Concat(steps("b"), ofKeys(impl.DoRead, 1, keys[:c.looks]), ofKeys(impl.DoWrite, 1, keys[c.looks-c.same:][:c.writes]), steps("l1 c1"))
		if len(l) > impl.MaxOccSteps {
			t.Fatal(len(l))
		}
		s, codes, ok := impl.PlayStore(3, l)
		if want := append(make([]int, len(l)-1), c.code); !ok || !slices.Equal(codes, want) {
			t.Error(c, codes, ok)
		}
		if _, _, code := mustPlay(t, impl.Store{Epoch: 3}, l...); code != c.code {
			t.Error(c, code)
		}
		if c.code == impl.OccFull {
			if left, _, code := mustPlay(t, s, steps("g1")...); code != impl.OccOk || left.Txns[0].State != impl.TxnGone {
				t.Error(c, code)
			}
		}
	}
}

// What has changed is told ahead of what is full.
func TestDoCheckTellsChangedAheadOfFull(t *testing.T) {
	s := storeAt(5, tidOf(5, impl.MaxSeq), true, true)
	s.Txns[0].Looks = append(s.Txns[0].Looks, impl.Look{Key: "z", Tid: tidOf(1, 1)})
	left, _, code := checkStep(t, s, impl.Step{Kind: impl.DoCheck, Txn: 1})
	if code != impl.OccChanged || told(left) != "a=old@5.16777215 1G[a=old@5.16777215,z=@1.1]{a=new}" {
		t.Error(code, told(left))
	}
}

// A look is held against the record's tid, but for Locked, and against its owner; its value does not matter.
func TestDoCheckHoldsTidsAgainstEachOther(t *testing.T) {
	for _, record := range []impl.Tid{tidOf(0, 0), tidOf(0, 1), tidOf(1, 0), tidOf(1, 1), tidOf(2, 1), tidOf(5, 0)} {
		for _, seen := range []impl.Tid{tidOf(0, 0), tidOf(0, 1), tidOf(1, 0), tidOf(1, 1), tidOf(2, 1), tidOf(5, 0), tidOf(6, 0), tidOf(impl.MaxEpoch, 3)} {
			for _, owns := range []bool{false, true} {
				s := storeAt(5, record, true, owns)
				s.Txns[0].Looks[0].Tid, s.Txns[0].Looks[0].Value = seen, "else"
				want := impl.OccOk
				if record != seen {
					want = impl.OccChanged
				}
				if left, _, code := checkStep(t, s, impl.Step{Kind: impl.DoCheck, Txn: 1}); code != want {
					t.Errorf("%v %v: %d, %s is left", record, seen, code, told(left))
				}
			}
		}
	}
	// a record that is not there has tid 0, 0
	for _, c := range []struct {
		seen impl.Tid
		code int
	}{{tidOf(0, 0), impl.OccOk}, {tidOf(0, 1), impl.OccChanged}, {tidOf(1, 0), impl.OccChanged}} {
		s := storeAt(5, tidOf(1, 1), true, false)
		s.Records = nil
		s.Txns[0].Looks[0].Tid = c.seen
		if _, _, code := checkStep(t, s, impl.Step{Kind: impl.DoCheck, Txn: 1}); code != c.code {
			t.Error(c, code)
		}
	}
}

// Texts of the greatest lengths are kept whole, and a Txn that runs may write more keys than a store has records.
func TestStepsOfLongThings(t *testing.T) {
	key, value := "zzzzzzzz", strings.Repeat("~", 20)
	s, _, _ := mustPlay(t, impl.Store{Epoch: 1000}, impl.Step{Kind: impl.DoBegin}, impl.Step{Kind: impl.DoWrite, Txn: 1, Key: key, Value: value})
	s, _, _ = mustPlay(t, s, steps("l1 c1 i1 b")...)
	if left, text, code := checkStep(t, s, impl.Step{Kind: impl.DoRead, Txn: 2, Key: key}); text != value || code != impl.OccOk || left.Txns[1].Looks[0] != (impl.Look{Key: key, Value: value, Tid: tidOf(1000, 0)}) {
		t.Error(text, code, told(left))
	}
	s, _, code := mustPlay(t, s, ofKeys(impl.DoWrite, 2, numbered(200))...)
	if code != impl.OccOk || len(s.Txns[1].Writes) != 200 {
		t.Error(code, told(s))
	}
}

// The document asks of the Tid of one that has checked that it is good and not Locked, and names no epoch there.
func TestATxnMayHaveATidOfALaterEpoch(t *testing.T) {
	for _, tid := range []impl.Tid{tidOf(8, 0), tidOf(1001, 0), tidOf(impl.MaxEpoch, impl.MaxSeq)} {
		s := mixedStore()
		s.Txns[0].Tid, s.Txns[1].Tid = tid, tid
		if !impl.GoodStore(s) {
			t.Errorf("%v: not good", tid)
		}
	}
}
