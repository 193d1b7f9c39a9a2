package tests

import (
	"fmt"
	"math"
	"slices"
	"strings"
	"testing"

	"loop.example/g00218/impl"
)

func tidOf(epoch, seq int) impl.Tid {
	return impl.Tid{Epoch: epoch, Seq: seq}
}

func lockedTid(epoch, seq int) impl.Tid {
	return impl.Tid{Epoch: epoch, Seq: seq, Locked: true}
}

// mixedStore has one Txn of each state: 1 is done, 2 has checked, 3 is locked, 4 runs, 5 is gone.
func mixedStore() impl.Store {
	return impl.Store{
		Epoch: 7,
		Records: []impl.Record{
			{Key: "a", Value: "1", Tid: tidOf(6, 2)},
			{Key: "b", Tid: lockedTid(0, 0), Owner: 2},
			{Key: "c", Value: "old", Tid: lockedTid(7, 3), Owner: 3},
			{Key: "d", Tid: tidOf(0, 0)},
			{Key: "e", Value: "x", Tid: lockedTid(5, 1), Owner: 2},
		},
		Txns: []impl.Running{
			{Id: 1, State: impl.TxnDone, Looks: []impl.Look{{Key: "d"}}, Writes: []impl.Cell{{Key: "a", Value: "1"}}, Tid: tidOf(6, 2)},
			{Id: 2, State: impl.TxnChecked, Looks: []impl.Look{{Key: "a", Value: "1", Tid: tidOf(6, 2)}}, Writes: []impl.Cell{{Key: "b", Value: "2"}, {Key: "e", Value: "y"}}, Tid: tidOf(7, 0)},
			{Id: 3, State: impl.TxnLocked, Looks: []impl.Look{{Key: "d"}, {Key: "a", Value: "1", Tid: tidOf(6, 2)}}, Writes: []impl.Cell{{Key: "c", Value: "new"}}},
			{Id: 4, State: impl.TxnRuns, Looks: []impl.Look{{Key: "z"}, {Key: "a", Value: "1", Tid: tidOf(6, 2)}}, Writes: []impl.Cell{{Key: "a", Value: "4"}, {Key: "f"}}},
			{Id: 5, State: impl.TxnGone, Looks: []impl.Look{{Key: "b"}}, Writes: []impl.Cell{{Key: "a", Value: "5"}}},
		},
		Order: []int{1, 2},
	}
}

// deepStore is a store of the same content in memory of its own.
func deepStore(s impl.Store) impl.Store {
	s.Records, s.Txns, s.Order = slices.Clone(s.Records), slices.Clone(s.Txns), slices.Clone(s.Order)
	for i, x := range s.Txns {
		s.Txns[i].Looks, s.Txns[i].Writes = slices.Clone(x.Looks), slices.Clone(x.Writes)
	}
	return s
}

func sameStore(a, b impl.Store) bool {
	return a.Epoch == b.Epoch && slices.Equal(a.Records, b.Records) && slices.Equal(a.Order, b.Order) &&
		slices.EqualFunc(a.Txns, b.Txns, func(x, y impl.Running) bool {
			return x.Id == y.Id && x.State == y.State && x.Tid == y.Tid && slices.Equal(x.Looks, y.Looks) && slices.Equal(x.Writes, y.Writes)
		})
}

// numbered are n keys, rising.
func numbered(n int) []string {
	var l []string
	for i := range n {
		l = append(l, fmt.Sprintf("k%03d", i))
	}
	return l
}

func manyRecords(n int) []impl.Record {
	var l []impl.Record
	for _, key := range numbered(n) {
		l = append(l, impl.Record{Key: key, Value: key, Tid: tidOf(1, 3)})
	}
	return l
}

func manyLooks(n int) []impl.Look {
	var l []impl.Look
	for _, key := range numbered(n) {
		l = append(l, impl.Look{Key: key, Value: key, Tid: tidOf(1, 3)})
	}
	return l
}

func manyWrites(n int) []impl.Cell {
	var l []impl.Cell
	for _, key := range numbered(n) {
		l = append(l, impl.Cell{Key: key, Value: "w"})
	}
	return l
}

func manyTxns(n, state int) []impl.Running {
	var l []impl.Running
	for i := range n {
		l = append(l, impl.Running{Id: i + 1, State: state})
	}
	return l
}

// A change is put to the store of mixedStore, and has a name.
type change struct {
	name string
	put  func(s *impl.Store)
}

// changesOf are the same change with unlike things to put.
func changesOf[T any](name string, put func(s *impl.Store, x T), things ...T) []change {
	var l []change
	for _, x := range things {
		l = append(l, change{fmt.Sprintf("%s %v", name, x), func(s *impl.Store) { put(s, x) }})
	}
	return l
}

func changed(c change) impl.Store {
	s := mixedStore()
	c.put(&s)
	return s
}

func putEpoch(s *impl.Store, n int)          { s.Epoch = n }
func putOrder(s *impl.Store, l []int)        { s.Order = l }
func putRecords(s *impl.Store, n int)        { s.Records = append(s.Records, manyRecords(n-5)...) }
func putRecordTid(s *impl.Store, x impl.Tid) { s.Records[0].Tid = x }
func putRecordValue(s *impl.Store, v string) { s.Records[2].Value = v }
func putLooks(s *impl.Store, n int)          { s.Txns[3].Looks = manyLooks(n) }
func putLookTid(s *impl.Store, x impl.Tid)   { s.Txns[3].Looks[1].Tid = x }
func putLookKey(s *impl.Store, key string)   { s.Txns[3].Looks[0].Key = key }
func putLookValue(s *impl.Store, v string)   { s.Txns[0].Looks[0].Value = v }
func putWrites(s *impl.Store, n int)         { s.Txns[3].Writes = manyWrites(n) }
func putWriteKey(s *impl.Store, key string)  { s.Txns[4].Writes[0].Key = key }
func putWriteValue(s *impl.Store, v string)  { s.Txns[1].Writes[1].Value = v }
func putDoneTid(s *impl.Store, x impl.Tid)   { s.Txns[0].Tid = x }
func putCheckTid(s *impl.Store, x impl.Tid)  { s.Txns[1].Tid = x }
func putLockTid(s *impl.Store, x impl.Tid)   { s.Txns[2].Tid = x }
func putRunTid(s *impl.Store, x impl.Tid)    { s.Txns[3].Tid = x }
func putGoneTid(s *impl.Store, x impl.Tid)   { s.Txns[4].Tid = x }
func putId(s *impl.Store, n int)             { s.Txns[3].Id = n }
func putState(s *impl.Store, n int)          { s.Txns[3].State = n }
func putMoreTxns(s *impl.Store, n int) {
	s.Txns = append(s.Txns, manyTxns(n, impl.TxnGone)[len(s.Txns):]...)
}
func putRecordKey(s *impl.Store, key string) { s.Records[0].Key = key }
func putOwner(s *impl.Store, n int) {
	s.Records[0].Owner, s.Records[0].Tid.Locked = n, true
}

// onlyKey leaves a store with one record and no Txns.
func onlyKey(s *impl.Store, key string) {
	*s = impl.Store{Epoch: 1, Records: []impl.Record{{Key: key}}, Txns: []impl.Running{{Id: 1, State: impl.TxnRuns, Looks: []impl.Look{{Key: key}}, Writes: []impl.Cell{{Key: key}}}}}
}

// goodChanges stand at the edges that the document names.
func goodChanges() []change {
	return slices.Concat(
		[]change{
			{"nothing", func(s *impl.Store) {}},
			{"looks are in any order", func(s *impl.Store) { slices.Reverse(s.Txns[3].Looks) }},
			{"a look at what it writes", func(s *impl.Store) { s.Txns[2].Looks = []impl.Look{{Key: "c"}} }},
			{"no writes, locked", func(s *impl.Store) { s.Txns = append(s.Txns, impl.Running{Id: 6, State: impl.TxnLocked}) }},
			{"no writes, checked", func(s *impl.Store) {
				s.Txns = append(s.Txns, impl.Running{Id: 6, State: impl.TxnChecked, Tid: tidOf(7, 1)})
				s.Order = []int{6, 1, 2}
			}},
			{"done, and its key is not there", func(s *impl.Store) { s.Records = slices.Delete(s.Records, 0, 1) }},
			{"done, and its key is another one's", func(s *impl.Store) { s.Txns[0].Writes[0].Key = "c" }},
			{"empty lists", func(s *impl.Store) {
				*s = impl.Store{Epoch: 1, Records: []impl.Record{}, Txns: []impl.Running{{Id: 1, State: impl.TxnRuns, Looks: []impl.Look{}, Writes: []impl.Cell{}}}, Order: []int{}}
			}},
			{"20 that are done", func(s *impl.Store) {
				*s = impl.Store{Epoch: 1, Txns: manyTxns(20, impl.TxnDone), Order: []int{20, 1, 19, 2, 18, 3, 17, 4, 16, 5, 15, 6, 14, 7, 13, 8, 12, 9, 11, 10}}
			}},
		},
		changesOf("epoch", putEpoch, 7, 8, 999, 1000),
		changesOf("nothing of epoch", func(s *impl.Store, n int) { *s = impl.Store{Epoch: n} }, 1, 2, 999, 1000),
		changesOf("records", putRecords, 38, 39, 40),
		changesOf("key", onlyKey, goodKeys()...),
		changesOf("record's value", putRecordValue, goodValues()...),
		changesOf("record's tid", putRecordTid, tidOf(0, 0), tidOf(0, impl.MaxSeq), tidOf(7, 0), tidOf(7, impl.MaxSeq)),
		changesOf("Txns", putMoreTxns, 6, 19, 20),
		changesOf("state", putState, impl.TxnRuns, impl.TxnGone),
		changesOf("looks", putLooks, 0, 1, 39, 40),
		changesOf("look's tid", putLookTid, tidOf(0, 0), tidOf(7, 4), tidOf(8, 0), tidOf(impl.MaxEpoch, impl.MaxSeq)),
		changesOf("look's value", putLookValue, goodValues()...),
		changesOf("writes", putWrites, 0, 1, 40, 41, 300),
		changesOf("write's value", putWriteValue, goodValues()...),
		changesOf("done tid", putDoneTid, tidOf(0, 0), tidOf(7, 9), tidOf(impl.MaxEpoch, impl.MaxSeq)),
		changesOf("checked tid", putCheckTid, tidOf(0, 0), tidOf(7, 9)),
		changesOf("order", putOrder, []int{1, 2}, []int{2, 1}),
	)
}

// badChanges break one rule each.
func badChanges() []change {
	numbers := []int{-1, math.MinInt, math.MaxInt}
	return slices.Concat(
		[]change{{"the zero store", func(s *impl.Store) { *s = impl.Store{} }}},
		changesOf("epoch", putEpoch, append(numbers, 0, 6, 1001, impl.MaxEpoch)...),
		changesOf("nothing of epoch", func(s *impl.Store, n int) { *s = impl.Store{Epoch: n} }, append(numbers, 0, 1001)...),
		badRecordChanges(),
		changesOf("Txns", putMoreTxns, 21, 22, 500),
		changesOf("id", putId, append(numbers, 0, 3, 5, 20)...),
		changesOf("state", putState, append(numbers, 0, 6, impl.TxnLocked, impl.TxnChecked, impl.TxnDone)...),
		badTxnChanges(),
		changesOf("order", putOrder, nil, []int{1}, []int{2}, []int{1, 1}, []int{1, 2, 2}, []int{1, 2, 1}, []int{1, 3}, []int{1, 4}, []int{1, 5}, []int{1, 2, 3}, []int{1, 2, 4}, []int{1, 2, 5},
			[]int{0, 1, 2}, []int{1, 2, 0}, []int{1, 2, 6}, []int{1, 6}, []int{0, 1}, []int{-1, 2}, []int{math.MaxInt, math.MinInt}, make([]int, 5000)),
	)
}

func badRecordChanges() []change {
	return slices.Concat(
		[]change{
			{"keys that fall", func(s *impl.Store) { s.Records[3].Key = "ab" }},
			{"a key twice", func(s *impl.Store) { s.Records[3].Key = "c" }},
			{"a key twice at the front", func(s *impl.Store) { s.Records = slices.Insert(s.Records, 0, s.Records[0]) }},
			{"locked without an owner", func(s *impl.Store) { s.Records[0].Tid.Locked = true }},
			{"locked without an owner, at the end", func(s *impl.Store) { s.Records = append(s.Records, impl.Record{Key: "z", Tid: lockedTid(0, 0)}) }},
			{"an owner without a lock", func(s *impl.Store) { s.Records[2].Tid.Locked = false }},
			{"an owner without a lock that runs", func(s *impl.Store) { s.Records[0].Owner = 4 }},
			{"an owner that does not write it", func(s *impl.Store) {
				s.Records = append(s.Records, impl.Record{Key: "f", Tid: lockedTid(1, 1), Owner: 3})
			}},
			{"a checked owner that does not write it", func(s *impl.Store) {
				s.Records = append(s.Records, impl.Record{Key: "f", Tid: lockedTid(1, 1), Owner: 2})
			}},
		},
		// 1 is done, 4 runs, 5 is gone, and they all write a
		changesOf("owner", putOwner, -1, 0, 1, 2, 3, 4, 5, 6, 20, 21, math.MinInt, math.MaxInt),
		changesOf("records", putRecords, 41, 42, 500),
		changesOf("key", onlyKey, badKeys()...),
		changesOf("record's key", putRecordKey, "", "A", "abcdefghi", "b"),
		changesOf("record's value", putRecordValue, badValues()...),
		changesOf("record's tid", putRecordTid, append(badTids(), tidOf(8, 0), tidOf(1000, 0), tidOf(impl.MaxEpoch, impl.MaxSeq))...),
		changesOf("owned record's tid", func(s *impl.Store, x impl.Tid) { x.Locked = true; s.Records[2].Tid = x }, append(badTids(), tidOf(8, 0), tidOf(impl.MaxEpoch, 0))...),
	)
}

func badTxnChanges() []change {
	none := []impl.Tid{tidOf(0, 1), tidOf(1, 0), lockedTid(0, 0), tidOf(-1, 0), tidOf(6, 2)}
	wrong := append(badTids(), lockedTid(0, 0), lockedTid(6, 2))
	return slices.Concat(
		[]change{
			{"two looks at one key", func(s *impl.Store) { s.Txns[3].Looks[0] = s.Txns[3].Looks[1] }},
			{"two unlike looks at one key", func(s *impl.Store) { s.Txns[2].Looks = append(s.Txns[2].Looks, impl.Look{Key: "d", Value: "2"}) }},
			{"writes that fall", func(s *impl.Store) { slices.Reverse(s.Txns[3].Writes) }},
			{"writes that fall, of one that has locked them", func(s *impl.Store) { slices.Reverse(s.Txns[1].Writes) }},
			{"two writes of one key", func(s *impl.Store) { s.Txns[3].Writes[0].Key = "f" }},
			{"Ids that change places", func(s *impl.Store) { s.Txns[3].Id, s.Txns[4].Id = 5, 4 }},
			{"Ids from 0", func(s *impl.Store) { *s = impl.Store{Epoch: 1, Txns: []impl.Running{{State: impl.TxnRuns}}} }},
			{"a locked one that does not own", func(s *impl.Store) { s.Records[2].Owner, s.Records[2].Tid.Locked = 0, false }},
			{"a checked one that does not own", func(s *impl.Store) { s.Records[4].Owner, s.Records[4].Tid.Locked = 0, false }},
			{"a locked one whose record is not there", func(s *impl.Store) { s.Records = slices.Delete(s.Records, 2, 3) }},
			{"a checked one whose record is not there", func(s *impl.Store) { s.Records = slices.Delete(s.Records, 1, 2) }},
			{"a locked one that writes another one's", func(s *impl.Store) {
				s.Txns[2].Writes = append([]impl.Cell{{Key: "b"}}, s.Txns[2].Writes...)
			}},
			{"a locked one that writes what nobody owns", func(s *impl.Store) { s.Txns[2].Writes = append(s.Txns[2].Writes, impl.Cell{Key: "d"}) }},
			{"a locked one that writes what is not there", func(s *impl.Store) { s.Txns[2].Writes = append(s.Txns[2].Writes, impl.Cell{Key: "z"}) }},
		},
		changesOf("looks", putLooks, 41, 42, 500),
		changesOf("look's tid", putLookTid, append(badTids(), lockedTid(0, 0), lockedTid(6, 2))...),
		changesOf("look's key", putLookKey, badKeys()...),
		changesOf("look's value", putLookValue, badValues()...),
		changesOf("write's key", putWriteKey, badKeys()...),
		changesOf("write's value", putWriteValue, badValues()...),
		changesOf("done tid", putDoneTid, wrong...),
		changesOf("checked tid", putCheckTid, wrong...),
		changesOf("locked tid", putLockTid, none...),
		changesOf("running tid", putRunTid, none...),
		changesOf("gone tid", putGoneTid, none...),
	)
}

func TestLimitsOfStores(t *testing.T) {
	if impl.MaxRecords != 40 || impl.MaxRunning != 20 || impl.MaxOccSteps != 120 {
		t.Error(impl.MaxRecords, impl.MaxRunning, impl.MaxOccSteps)
	}
	if kinds := [7]int{impl.DoBegin, impl.DoRead, impl.DoWrite, impl.DoLock, impl.DoCheck, impl.DoInstall, impl.DoGiveUp}; kinds != [7]int{1, 2, 3, 4, 5, 6, 7} {
		t.Error(kinds)
	}
	if states := [5]int{impl.TxnRuns, impl.TxnLocked, impl.TxnChecked, impl.TxnDone, impl.TxnGone}; states != [5]int{1, 2, 3, 4, 5} {
		t.Error(states)
	}
	if codes := [5]int{impl.OccOk, impl.OccBad, impl.OccLocked, impl.OccChanged, impl.OccFull}; codes != [5]int{0, 1, 2, 3, 4} {
		t.Error(codes)
	}
}

func TestGoodStore(t *testing.T) {
	for _, c := range goodChanges() {
		if s := changed(c); !impl.GoodStore(s) || !goodStoreAgain(s) {
			t.Errorf("%s: %+v is good", c.name, s)
		}
	}
	for _, c := range badChanges() {
		if s := changed(c); impl.GoodStore(s) || goodStoreAgain(s) {
			t.Errorf("%.80q: not good", c.name)
		}
	}
}

// goodStoreAgain tells by the document's words, sentence by sentence, whether a store is good.
func goodStoreAgain(s impl.Store) bool {
	if s.Epoch < 1 || s.Epoch > 1000 || len(s.Records) > 40 || len(s.Txns) > 20 {
		return false
	}
	for i, r := range s.Records {
		if !keyAgain(r.Key) || !valueAgain(r.Value) || i > 0 && !(s.Records[i-1].Key < r.Key) {
			return false
		}
		if !impl.GoodTid(r.Tid) || r.Tid.Epoch > s.Epoch || r.Tid.Locked != (r.Owner != 0) {
			return false
		}
		if r.Owner != 0 && !slices.ContainsFunc(s.Txns, func(x impl.Running) bool {
			writes := slices.ContainsFunc(x.Writes, func(w impl.Cell) bool { return w.Key == r.Key })
			return x.Id == r.Owner && (x.State == impl.TxnLocked || x.State == impl.TxnChecked) && writes
		}) {
			return false
		}
	}
	ended := map[int]int{}
	for i, x := range s.Txns {
		if x.Id != i+1 || !goodRunningAgain(x) || !ownsAgain(s, x) {
			return false
		}
		if x.State == impl.TxnChecked || x.State == impl.TxnDone {
			ended[x.Id]++
		}
	}
	for _, id := range s.Order {
		ended[id]--
	}
	for _, n := range ended {
		if n != 0 {
			return false
		}
	}
	return true
}

func goodRunningAgain(x impl.Running) bool {
	if x.State < 1 || x.State > 5 || len(x.Looks) > 40 {
		return false
	}
	seen := map[string]int{}
	for _, k := range x.Looks {
		if seen[k.Key]++; seen[k.Key] > 1 || !keyAgain(k.Key) || !valueAgain(k.Value) || !impl.GoodTid(k.Tid) || k.Tid.Locked {
			return false
		}
	}
	for i, w := range x.Writes {
		if !keyAgain(w.Key) || !valueAgain(w.Value) || i > 0 && !(x.Writes[i-1].Key < w.Key) {
			return false
		}
	}
	switch x.State {
	case impl.TxnChecked, impl.TxnDone:
		return impl.GoodTid(x.Tid) && !x.Tid.Locked
	}
	return x.Tid == impl.Tid{}
}

func ownsAgain(s impl.Store, x impl.Running) bool {
	if x.State != impl.TxnLocked && x.State != impl.TxnChecked {
		return true
	}
	for _, w := range x.Writes {
		if !slices.ContainsFunc(s.Records, func(r impl.Record) bool { return r.Key == w.Key && r.Owner == x.Id }) {
			return false
		}
	}
	return true
}

func keyAgain(s string) bool {
	return len(s) >= 1 && len(s) <= 8 && strings.Trim(s, "abcdefghijklmnopqrstuvwxyz0123456789") == ""
}

func valueAgain(s string) bool {
	return len(s) <= 20 && !strings.ContainsFunc(s, func(r rune) bool { return r < 32 || r > 126 || r == ';' })
}

// Stores that were played, with one thing in them put as it may not be, or as it may.
func TestGoodStoreOfPlaysThatAreChanged(t *testing.T) {
	good, bad := 0, 0
	for seed := range 4000 {
		m := mixer(seed)
		s, _, _ := impl.PlayStore(m.below(3)+1, someSteps(uint64(seed)))
		for range m.below(3) {
			spoil(&m, &s)
		}
		want := goodStoreAgain(s)
		if want {
			good++
		} else {
			bad++
		}
		if impl.GoodStore(s) != want {
			t.Fatalf("%+v: not %v", s, want)
		}
	}
	if good < 500 || bad < 500 {
		t.Error(good, bad)
	}
}

// spoil changes one thing of a store, by chance into something that is good.
func spoil(m *mixer, s *impl.Store) {
	keys := []string{"a", "b", "c", "d", "z", "?", ""}
	tids := []impl.Tid{tidOf(0, 0), tidOf(1, 0), tidOf(2, 1), tidOf(9, 1), lockedTid(1, 0), tidOf(1, impl.MaxSeq+1)}
	switch m.below(5) {
	case 0:
		s.Epoch = m.below(5)
	case 1:
		if m.below(2) == 0 || len(s.Order) == 0 {
			s.Order = append(s.Order, m.below(6))
		} else {
			s.Order[m.below(len(s.Order))] = m.below(6)
		}
	case 2:
		if len(s.Records) > 0 {
			r := &s.Records[m.below(len(s.Records))]
			switch m.below(4) {
			case 0:
				r.Key = keys[m.below(len(keys))]
			case 1:
				r.Tid = tids[m.below(len(tids))]
			case 2:
				r.Owner = m.below(6)
			case 3:
				r.Owner = m.below(6)
				r.Tid.Locked = r.Owner != 0
			}
		}
	default:
		if len(s.Txns) > 0 {
			spoilTxn(m, &s.Txns[m.below(len(s.Txns))], keys, tids)
		}
	}
}

func spoilTxn(m *mixer, x *impl.Running, keys []string, tids []impl.Tid) {
	key, tid := keys[m.below(len(keys))], tids[m.below(len(tids))]
	switch m.below(6) {
	case 0:
		x.Id = m.below(5)
	case 1:
		x.State = m.below(7)
	case 2:
		x.Tid = tid
	case 3:
		x.Looks = append(x.Looks, impl.Look{Key: key, Tid: tid})
	case 4:
		x.Writes = append(x.Writes, impl.Cell{Key: key})
	case 5:
		x.Writes = slices.DeleteFunc(x.Writes, func(w impl.Cell) bool { return w.Key == key })
	}
}

func TestBadStoresHaveTheZeroAnswer(t *testing.T) {
	for _, c := range badChanges() {
		s := changed(c)
		for kind := range 9 {
			for _, txn := range []int{0, 2, 3, 4} {
				if left, told, code := impl.DoStep(s, impl.Step{Kind: kind, Txn: txn, Key: "a"}); !sameStore(left, impl.Store{}) || told != "" || code != impl.OccBad {
					t.Fatalf("DoStep %.80q: %+v %q %d", c.name, left, told, code)
				}
			}
		}
		for _, key := range []string{"a", "c", "", "?"} {
			if r, ok := impl.LookUp(s, key); r != (impl.Record{}) || ok {
				t.Fatalf("LookUp %.80q: %+v %v", c.name, r, ok)
			}
		}
		if l, ok := impl.MapOf(s); len(l) != 0 || ok {
			t.Fatalf("MapOf %.80q: %v %v", c.name, l, ok)
		}
		for many := range 3 {
			if l, ok := impl.ReplayOrder(s, many); len(l) != 0 || ok {
				t.Fatalf("ReplayOrder %.80q: %v %v", c.name, l, ok)
			}
		}
		if left, ok := impl.AdvanceEpoch(s); !sameStore(left, impl.Store{}) || ok {
			t.Fatalf("AdvanceEpoch %.80q: %+v %v", c.name, left, ok)
		}
	}
}
