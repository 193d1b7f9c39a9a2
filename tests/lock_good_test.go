package tests

import (
	"fmt"
	"math"
	"slices"
	"strconv"
	"strings"
	"testing"

	"loop.example/g00218/impl"
)

// holds reads 5o,3s and the like: Txns, and whether each has the key as its own or shared (x is no mode).
func holds(text string) []impl.Hold {
	var l []impl.Hold
	for _, word := range strings.FieldsFunc(text, func(r rune) bool { return r == ',' }) {
		last := len(word) - 1
		txn, _ := strconv.Atoi(word[:last])
		l = append(l, impl.Hold{Txn: txn, Mode: strings.IndexByte("xso", word[last])})
	}
	return l
}

// locked reads words such as a:5o<3s,2s: the key, who holds it, and behind < who waits for it.
func locked(text string) []impl.Lock {
	var l []impl.Lock
	for _, word := range strings.Fields(text) {
		key, rest, _ := strings.Cut(word, ":")
		hold, wait, _ := strings.Cut(rest, "<")
		l = append(l, impl.Lock{Key: key, Holds: holds(hold), Waits: holds(wait)})
	}
	return l
}

func sameLocks(a, b []impl.Lock) bool {
	return slices.EqualFunc(a, b, func(x, y impl.Lock) bool {
		return x.Key == y.Key && slices.Equal(x.Holds, y.Holds) && slices.Equal(x.Waits, y.Waits)
	})
}

// deepLocks are locks of the same content in memory of their own.
func deepLocks(l []impl.Lock) []impl.Lock {
	l = slices.Clone(l)
	for i := range l {
		l[i].Holds, l[i].Waits = slices.Clone(l[i].Holds), slices.Clone(l[i].Waits)
	}
	return l
}

// brief is enough of the locks to see which ones they are.
func brief(l []impl.Lock) string {
	text := fmt.Sprint(l)
	return text[:min(len(text), 200)]
}

// manyKeys are n locks, each held by one that owns it, with keys k00, k01 and so on.
func manyKeys(n int) []impl.Lock {
	var l []impl.Lock
	for i := range n {
		l = append(l, impl.Lock{Key: fmt.Sprintf("k%02d", i), Holds: []impl.Hold{{Txn: i + 1, Mode: impl.LockOwn}}})
	}
	return l
}

// inQueue is a key that 500 owns, with n that wait for it, each elder than the one ahead.
func inQueue(key string, n int) impl.Lock {
	k := impl.Lock{Key: key, Holds: holds("500o")}
	for i := range n {
		k.Waits = append(k.Waits, impl.Hold{Txn: 499 - i, Mode: i%2 + 1})
	}
	return k
}

// allShare is a key that Txns 1..n share.
func allShare(n int) impl.Lock {
	k := impl.Lock{Key: "all"}
	for i := range n {
		k.Holds = append(k.Holds, impl.Hold{Txn: i + 1, Mode: impl.LockShared})
	}
	return k
}

// goodLockings stand at the edges that the document names.
func goodLockings() [][]impl.Lock {
	all := [][]impl.Lock{nil, {}, manyKeys(19), manyKeys(20), {inQueue("a", 7)}, {inQueue("a", 8)}, {allShare(1000)}}
	for _, text := range []string{
		"a:1o", "a:1000o", "a:1s", "a:1000s", "a:1s,2s", "a:1s,1000s", "a:1s,2s,3s,4s,5s,6s,7s,8s,9s,10s",
		"0:1o 9:1o a:1o aa:1o ab:1o b:1o z:1o zzzzzzzz:1o",
		"a:1o b:1s c:1o",
		// who waits, and cannot be granted what it wants
		"a:2o<1s", "a:2o<1o", "a:2s<1o", "a:1000o<999s", "a:1000o<1s",
		"a:5o<4s,3s,2s,1s", "a:5o<4o,3s,2o,1s", "a:5s,7s<4o,3s,2s",
		// what is behind the first one may be such that it could be granted, were it the first
		"a:5s<4o,3s", "a:5s,6s<4o,3s,2s,1o",
		// holds as shared, waits for its own beside other holders, with elder ones behind it
		"a:5s,7s<5o", "a:5s,7s,9s<5o", "a:5s,7s<5o,4s", "a:5s,7s<5o,3o,1s", "a:1s,2s<1o",
		// one that waits holds other keys, one that holds waits for other keys
		"a:2o<1s b:1o", "a:1o b:2s<1o c:1s", "a:5o<4s b:5s<3o", "a:5o<4s b:4o<3s c:3o<2s", "a:9o<1s b:9o<2s c:9o<3s",
	} {
		all = append(all, locked(text))
	}
	for _, key := range goodKeys() {
		all = append(all, []impl.Lock{{Key: key, Holds: holds("2s"), Waits: holds("1o")}})
	}
	return all
}

// badLockings break one rule each.
func badLockings() [][]impl.Lock {
	all := [][]impl.Lock{manyKeys(21), manyKeys(90), {{}}, {{Key: "a"}}, {{Key: "a", Waits: holds("1o")}},
		{inQueue("a", 9)}, {inQueue("a", 10)}, {inQueue("a", 300)}, {allShare(1001)}, {allShare(5000)}, make([]impl.Lock, 5000)}
	for _, text := range []string{
		// keys that do not rise, or stand twice
		"b:1o a:1o", "a:1o a:1o", "a:1s a:2s", "a:1o c:1o b:1o", "aa:1o a:1o", "a:1o 0:1o", "a:1o b:1o b:2o",
		// nobody holds one of them
		"a: b:1o", "a:1o b:", "a:<1o", "a:2o b:<1o",
		// Holds that do not rise, or stand twice
		"a:2s,1s", "a:1s,1s", "a:1s,3s,2s", "a:1s,2s,2s", "a:5s,4s<3o",
		// two, one of which owns it
		"a:1o,2o", "a:1s,2o", "a:1o,2s", "a:1s,2s,3o", "a:2s,3o<1s",
		// Txns that are none
		"a:0o", "a:0s", "a:-1s", "a:1001o", "a:1001s", "a:0s,1s", "a:1s,1001s", "a:2o<0s", "a:2o<0o", "a:2s<-1o", "a:1000o<1001s", "a:500o<4s,0s", "a:1001o<4s",
		// Modes that are none
		"a:1x", "a:1s,2x", "a:1x,2s", "a:1x,2x", "a:2o<1x", "a:2s<1x", "a:3o<2s,1x", "a:3o<2x,1s", "a:2x<1o",
		// who waits twice, on one key and on unlike keys
		"a:9o<3s,3s", "a:9o<3s,3o", "a:9o<4s,3s,3s", "a:9o<3s b:9o<3s", "a:9o<3s b:8s<3o", "a:9o<4s,3s b:9o<3s,2s", "a:9o<3s b:9o c:9o<3s",
		// behind an elder one
		"a:9o<3s,4s", "a:9o<1s,2o", "a:9o<5s,3s,4s", "a:9o<5s,3s,8s",
		// not elder than another holder
		"a:3o<4s", "a:3o<4o", "a:3s<4o", "a:3s,9s<4o", "a:9o<4s,10s", "a:3s,9s<5o", "a:3s,9s<9o", "a:5s,7s<7o", "a:7o<5s,8o",
		// the first one could be granted now
		"a:2s<1s", "a:2s,3s<1s", "a:2s<1s,1o", "a:5s<4s,3o", "a:5s<5o", "a:5s<5o,4s", "a:5s,7s<5s", "a:5s<5s", "a:5o<5s", "a:5o<5o", "a:5o<5o,3s", "a:5s b:5s<5o",
		// one who holds it waits behind others
		"a:5s,7s<4o,5o", "a:5s,7s<6o,5o", "a:5o<4s,5s", "a:5o<6s,5o",
		// good, but for another one
		"a:2o<1s b:0o", "a:1x b:2o<1s",
	} {
		all = append(all, locked(text))
	}
	for _, key := range badKeys() {
		all = append(all, []impl.Lock{{Key: key, Holds: holds("2o")}}, []impl.Lock{{Key: key, Holds: holds("2o"), Waits: holds("1s")}, {Key: "zzzzzzzz", Holds: holds("2o")}})
	}
	for _, n := range []int{-1, 0, 1001, math.MinInt, math.MaxInt} {
		for _, mode := range []int{impl.LockShared, impl.LockOwn} {
			all = append(all, []impl.Lock{{Key: "a", Holds: []impl.Hold{{Txn: n, Mode: mode}}}}, []impl.Lock{{Key: "a", Holds: holds("500o"), Waits: []impl.Hold{{Txn: n, Mode: mode}}}})
		}
	}
	for _, mode := range []int{-1, 0, 3, 4, math.MinInt, math.MaxInt} {
		all = append(all, []impl.Lock{{Key: "a", Holds: []impl.Hold{{Txn: 1, Mode: mode}}}}, []impl.Lock{{Key: "a", Holds: holds("500o"), Waits: []impl.Hold{{Txn: 1, Mode: mode}}}})
	}
	return all
}

func TestLimitsOfLocks(t *testing.T) {
	if impl.MaxLocks != 20 || impl.MaxAsks != 100 || impl.LockShared != 1 || impl.LockOwn != 2 {
		t.Error(impl.MaxLocks, impl.MaxAsks, impl.LockShared, impl.LockOwn)
	}
	if impl.AskGranted != 1 || impl.AskWaits != 2 || impl.AskDies != 3 || impl.AskBad != 4 {
		t.Error(impl.AskGranted, impl.AskWaits, impl.AskDies, impl.AskBad)
	}
}

func TestGoodLocks(t *testing.T) {
	for _, l := range goodLockings() {
		if !impl.GoodLocks(l) || !goodAgain(l) {
			t.Errorf("%v is good", l)
		}
	}
	for _, l := range badLockings() {
		if impl.GoodLocks(l) || goodAgain(l) {
			t.Errorf("%s is not good", brief(l))
		}
	}
}

// goodAgain tells by the document's words, sentence by sentence, whether locks are good.
func goodAgain(l []impl.Lock) bool {
	if len(l) > 20 {
		return false
	}
	waiting := map[int]int{}
	for i, k := range l {
		for _, ahead := range l[:i] {
			if ahead.Key >= k.Key {
				return false
			}
		}
		if strings.Trim(k.Key, "abcdefghijklmnopqrstuvwxyz0123456789") != "" || len(k.Key) == 0 || len(k.Key) > 8 {
			return false
		}
		if !goodHoldsAgain(k.Holds) || !goodWaitsAgain(k) {
			return false
		}
		for _, w := range k.Waits {
			waiting[w.Txn]++
		}
	}
	for _, n := range waiting {
		if n > 1 {
			return false
		}
	}
	return true
}

func goodHoldsAgain(l []impl.Hold) bool {
	shared, own := 0, 0
	for i, h := range l {
		if h.Txn < 1 || h.Txn > 1000 || i > 0 && h.Txn <= l[i-1].Txn {
			return false
		}
		if h.Mode == impl.LockShared {
			shared++
		}
		if h.Mode == impl.LockOwn {
			own++
		}
	}
	return len(l) > 0 && (shared == len(l) || own == 1 && len(l) == 1)
}

func goodWaitsAgain(k impl.Lock) bool {
	if len(k.Waits) > 8 {
		return false
	}
	for i, w := range k.Waits {
		if w.Txn < 1 || w.Txn > 1000 || w.Mode != impl.LockShared && w.Mode != impl.LockOwn {
			return false
		}
		for _, ahead := range k.Waits[:i] {
			if ahead.Txn <= w.Txn {
				return false
			}
		}
		for _, h := range othersThan(w.Txn, k.Holds) {
			if h.Txn <= w.Txn {
				return false
			}
		}
	}
	return len(k.Waits) == 0 || !grantableAgain(k.Holds, k.Waits[0])
}

func othersThan(txn int, l []impl.Hold) []impl.Hold {
	return slices.DeleteFunc(slices.Clone(l), func(h impl.Hold) bool { return h.Txn == txn })
}

func grantableAgain(l []impl.Hold, want impl.Hold) bool {
	others := othersThan(want.Txn, l)
	if want.Mode == impl.LockOwn && len(others) > 0 {
		return false
	}
	return !slices.ContainsFunc(others, func(h impl.Hold) bool { return h.Mode == impl.LockOwn })
}

// holdLists are all lists of at most n holds of Txns 1..txns, in any order.
func holdLists(n, txns int) [][]impl.Hold {
	all := [][]impl.Hold{nil}
	last := all
	for range n {
		var longer [][]impl.Hold
		for _, l := range last {
			for i := range 2 * txns {
				longer = append(longer, append(slices.Clone(l), impl.Hold{Txn: i/2 + 1, Mode: i%2 + 1}))
			}
		}
		all, last = append(all, longer...), longer
	}
	return all
}

// All that three Txns may hold and wait for on one key, whether it is good or not.
func TestGoodLocksOfAllOfOneKey(t *testing.T) {
	good := 0
	lists := holdLists(3, 3)
	for _, hold := range lists {
		for _, wait := range lists {
			l := []impl.Lock{{Key: "a", Holds: hold, Waits: wait}}
			want := goodAgain(l)
			if want {
				good++
			}
			if impl.GoodLocks(l) != want {
				t.Fatalf("%v: not %v", l, want)
			}
		}
	}
	if good < 20 {
		t.Error(good)
	}
}

// goodLocksOf are all good locks of one key and of Txns 1..txns.
func goodLocksOf(key string, txns int) []impl.Lock {
	var all []impl.Lock
	lists := holdLists(txns, txns)
	goodHolds := slices.DeleteFunc(slices.Clone(lists), func(l []impl.Hold) bool { return !goodHoldsAgain(l) })
	for _, hold := range goodHolds {
		for _, wait := range lists {
			if k := (impl.Lock{Key: key, Holds: hold, Waits: wait}); goodWaitsAgain(k) {
				all = append(all, k)
			}
		}
	}
	return all
}

// Good locks of two keys are good together, unless one Txn waits for both.
func TestGoodLocksOfTwoKeys(t *testing.T) {
	good, bad := 0, 0
	for _, a := range goodLocksOf("a", 3) {
		for _, b := range goodLocksOf("b", 3) {
			want := true
			for _, w := range a.Waits {
				want = want && len(othersThan(w.Txn, b.Waits)) == len(b.Waits)
			}
			if want {
				good++
			} else {
				bad++
			}
			if impl.GoodLocks([]impl.Lock{a, b}) != want || impl.GoodLocks([]impl.Lock{b, a}) {
				t.Fatalf("%v %v: not %v", a, b, want)
			}
		}
	}
	if good < 100 || bad < 100 {
		t.Error(good, bad)
	}
}

// smallLockings are all good locks of Txns 1..txns on the keys b and d.
func smallLockings(txns int) [][]impl.Lock {
	all := [][]impl.Lock{nil}
	for _, b := range goodLocksOf("b", txns) {
		all = append(all, []impl.Lock{b})
		for _, d := range goodLocksOf("d", txns) {
			if l := []impl.Lock{b, d}; goodAgain(l) {
				all = append(all, l)
			}
		}
	}
	return all
}

func TestBadLocksHaveTheZeroAnswer(t *testing.T) {
	for _, l := range badLockings() {
		if x, code := impl.AskLock(l, 1, "a", impl.LockShared); len(x) != 0 || code != impl.AskBad {
			t.Errorf("AskLock %s: %v %v", brief(l), x, code)
		}
		if x, code := impl.AskLock(l, 0, "", 0); len(x) != 0 || code != impl.AskBad {
			t.Errorf("AskLock %s: %v %v", brief(l), x, code)
		}
		for _, txn := range []int{0, 1, 5, 500, 1000, 1001} {
			if x, granted, ok := impl.ReleaseAll(l, txn); len(x) != 0 || len(granted) != 0 || ok {
				t.Errorf("ReleaseAll %s: %v %v %v", brief(l), x, granted, ok)
			}
		}
		if x, ok := impl.WaitsFor(l); len(x) != 0 || ok {
			t.Errorf("WaitsFor %s: %v %v", brief(l), x, ok)
		}
		for _, key := range []string{"a", "b", "", "?"} {
			if x, ok := impl.HolderOf(l, key); len(x) != 0 || ok {
				t.Errorf("HolderOf %s, %s: %v %v", brief(l), key, x, ok)
			}
		}
	}
}
