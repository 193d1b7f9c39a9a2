package tests

import (
	"math"
	"slices"
	"testing"

	"loop.example/g00218/impl"
)

func TestAskLock(t *testing.T) {
	for _, c := range []struct {
		locks string
		txn   int
		key   string
		mode  int
		left  string
		code  int
	}{
		// the Txn, the key or the mode is none
		{"a:5o", 0, "a", impl.LockShared, "a:5o", impl.AskBad},
		{"a:5o", -1, "b", impl.LockShared, "a:5o", impl.AskBad},
		{"a:5o", 1001, "b", impl.LockOwn, "a:5o", impl.AskBad},
		{"a:5o", 1, "", impl.LockOwn, "a:5o", impl.AskBad},
		{"a:5o", 1, "A", impl.LockOwn, "a:5o", impl.AskBad},
		{"a:5o", 1, "abcdefghi", impl.LockOwn, "a:5o", impl.AskBad},
		{"a:5o", 1, "a", 0, "a:5o", impl.AskBad},
		{"a:5o", 5, "a", 3, "a:5o", impl.AskBad},
		{"a:5o", 5, "b", -1, "a:5o", impl.AskBad},
		{"", 0, "a", impl.LockOwn, "", impl.AskBad},
		// the Txn waits, on this key or on another one; also where it asks for what it has, or what is free
		{"a:5o<3s", 3, "a", impl.LockShared, "a:5o<3s", impl.AskBad},
		{"a:5o<3s", 3, "a", impl.LockOwn, "a:5o<3s", impl.AskBad},
		{"a:5o<3s", 3, "b", impl.LockOwn, "a:5o<3s", impl.AskBad},
		{"a:5o<3s,2s", 2, "b", impl.LockShared, "a:5o<3s,2s", impl.AskBad},
		{"a:5o<3s b:3o", 3, "b", impl.LockOwn, "a:5o<3s b:3o", impl.AskBad},
		{"a:3o b:5o<3s", 3, "a", impl.LockShared, "a:3o b:5o<3s", impl.AskBad},
		{"a:5s,7s<5o", 5, "a", impl.LockShared, "a:5s,7s<5o", impl.AskBad},
		{"a:5s,7s<5o", 5, "a", impl.LockOwn, "a:5s,7s<5o", impl.AskBad},
		// it holds the key already, also where others wait for it
		{"a:5o", 5, "a", impl.LockOwn, "a:5o", impl.AskGranted},
		{"a:5o", 5, "a", impl.LockShared, "a:5o", impl.AskGranted},
		{"a:5s", 5, "a", impl.LockShared, "a:5s", impl.AskGranted},
		{"a:5s,7s", 7, "a", impl.LockShared, "a:5s,7s", impl.AskGranted},
		{"a:5o<3s", 5, "a", impl.LockOwn, "a:5o<3s", impl.AskGranted},
		{"a:5o<3s", 5, "a", impl.LockShared, "a:5o<3s", impl.AskGranted},
		{"a:5s<3o", 5, "a", impl.LockShared, "a:5s<3o", impl.AskGranted},
		// a new key, in its place
		{"", 1, "a", impl.LockShared, "a:1s", impl.AskGranted},
		{"", 1000, "zzzzzzzz", impl.LockOwn, "zzzzzzzz:1000o", impl.AskGranted},
		{"b:5o", 7, "a", impl.LockOwn, "a:7o b:5o", impl.AskGranted},
		{"b:5o", 7, "c", impl.LockShared, "b:5o c:7s", impl.AskGranted},
		{"b:5o d:5o<3s", 7, "c", impl.LockOwn, "b:5o c:7o d:5o<3s", impl.AskGranted},
		{"b:5o", 5, "a", impl.LockOwn, "a:5o b:5o", impl.AskGranted},
		// beside others that share it, elder or younger
		{"a:5s", 7, "a", impl.LockShared, "a:5s,7s", impl.AskGranted},
		{"a:5s", 3, "a", impl.LockShared, "a:3s,5s", impl.AskGranted},
		{"a:2s,8s", 4, "a", impl.LockShared, "a:2s,4s,8s", impl.AskGranted},
		// from shared to its own, alone
		{"a:5s", 5, "a", impl.LockOwn, "a:5o", impl.AskGranted},
		{"a:5s b:7o<3s", 5, "a", impl.LockOwn, "a:5o b:7o<3s", impl.AskGranted},
		// an elder one waits
		{"a:5o", 4, "a", impl.LockShared, "a:5o<4s", impl.AskWaits},
		{"a:5o", 4, "a", impl.LockOwn, "a:5o<4o", impl.AskWaits},
		{"a:5s", 4, "a", impl.LockOwn, "a:5s<4o", impl.AskWaits},
		{"a:5s,7s", 4, "a", impl.LockOwn, "a:5s,7s<4o", impl.AskWaits},
		{"a:1000o", 999, "a", impl.LockOwn, "a:1000o<999o", impl.AskWaits},
		{"a:5o<4s", 3, "a", impl.LockShared, "a:5o<4s,3s", impl.AskWaits},
		{"a:5o<4s,3o", 1, "a", impl.LockOwn, "a:5o<4s,3o,1o", impl.AskWaits},
		{"a:5o<4s b:3o", 3, "a", impl.LockOwn, "a:5o<4s,3o b:3o", impl.AskWaits},
		// also for what it could have, because somebody waits
		{"a:5s<4o", 3, "a", impl.LockShared, "a:5s<4o,3s", impl.AskWaits},
		// it shares the key with younger ones, and wants it as its own
		{"a:5s,7s", 5, "a", impl.LockOwn, "a:5s,7s<5o", impl.AskWaits},
		{"a:5s,7s<5o", 3, "a", impl.LockShared, "a:5s,7s<5o,3s", impl.AskWaits},
		// a younger one dies
		{"a:5o", 6, "a", impl.LockShared, "a:5o", impl.AskDies},
		{"a:5o", 1000, "a", impl.LockOwn, "a:5o", impl.AskDies},
		{"a:5s", 6, "a", impl.LockOwn, "a:5s", impl.AskDies},
		{"a:5s,9s", 6, "a", impl.LockOwn, "a:5s,9s", impl.AskDies},
		{"a:5s,7s", 7, "a", impl.LockOwn, "a:5s,7s", impl.AskDies},
		{"a:5s,7s,9s", 7, "a", impl.LockOwn, "a:5s,7s,9s", impl.AskDies},
		{"a:5o<3s", 4, "a", impl.LockShared, "a:5o<3s", impl.AskDies},
		{"a:5s<3o", 4, "a", impl.LockShared, "a:5s<3o", impl.AskDies},
		{"a:5s<3o", 9, "a", impl.LockShared, "a:5s<3o", impl.AskDies},
		{"a:9o<5s,2s", 3, "a", impl.LockShared, "a:9o<5s,2s", impl.AskDies},
		{"a:5s<3o", 5, "a", impl.LockOwn, "a:5s<3o", impl.AskDies},
		{"a:5s,7s<5o", 7, "a", impl.LockOwn, "a:5s,7s<5o", impl.AskDies},
		{"a:5o b:6o", 6, "a", impl.LockShared, "a:5o b:6o", impl.AskDies},
	} {
		if left, code := impl.AskLock(locked(c.locks), c.txn, c.key, c.mode); !sameLocks(left, locked(c.left)) || code != c.code {
			t.Errorf("%s: %d asks for %s as %d: %v %d", c.locks, c.txn, c.key, c.mode, left, code)
		}
	}
}

// With as many locks as there may be, just one more of them is refused.
func TestAskLockBeyondMaxLocks(t *testing.T) {
	full := manyKeys(impl.MaxLocks)
	for _, key := range []string{"a", "k00a", "z"} {
		for _, txn := range []int{1, 21, 1000} {
			if left, code := impl.AskLock(full, txn, key, impl.LockShared); !sameLocks(left, full) || code != impl.AskBad {
				t.Errorf("%s: %v %d", key, left, code)
			}
			if left, code := impl.AskLock(manyKeys(19), txn, key, impl.LockShared); len(left) != 20 || code != impl.AskGranted {
				t.Errorf("%s: %v %d", key, left, code)
			}
		}
	}
	if left, code := impl.AskLock(full, 5, "k04", impl.LockShared); !sameLocks(left, full) || code != impl.AskGranted {
		t.Error(left, code)
	}
	if left, code := impl.AskLock(full, 4, "k04", impl.LockShared); !slices.Equal(left[4].Waits, holds("4s")) || code != impl.AskWaits {
		t.Error(left, code)
	}
	if left, code := impl.AskLock(full, 6, "k04", impl.LockShared); !sameLocks(left, full) || code != impl.AskDies {
		t.Error(left, code)
	}
	full[4].Holds = holds("5s")
	if left, code := impl.AskLock(full, 6, "k04", impl.LockShared); !slices.Equal(left[4].Holds, holds("5s,6s")) || code != impl.AskGranted {
		t.Error(left, code)
	}
}

// A ninth one is refused if it would wait; if it is too young to wait it dies as always.
func TestAskLockBeyondMaxTxns(t *testing.T) {
	l := []impl.Lock{inQueue("a", 7)}
	left, code := impl.AskLock(l, 400, "a", impl.LockOwn)
	if code != impl.AskWaits || len(left[0].Waits) != 8 || left[0].Waits[7] != (impl.Hold{Txn: 400, Mode: impl.LockOwn}) {
		t.Fatal(left, code)
	}
	for _, c := range []struct{ txn, mode, code int }{
		{399, impl.LockOwn, impl.AskBad}, {1, impl.LockShared, impl.AskBad}, {401, impl.LockShared, impl.AskDies}, {1000, impl.LockOwn, impl.AskDies}, {500, impl.LockShared, impl.AskGranted}, {400, impl.LockOwn, impl.AskBad},
	} {
		if again, code := impl.AskLock(left, c.txn, "a", c.mode); !sameLocks(again, left) || code != c.code {
			t.Error(c, again, code)
		}
	}
	if again, code := impl.AskLock(left, 1, "b", impl.LockShared); len(again) != 2 || code != impl.AskGranted {
		t.Error(again, code)
	}
}

// askAgain tells by the document's words, one after the other, what an ask does to good locks.
func askAgain(l []impl.Lock, txn int, key string, mode int) ([]impl.Lock, int) {
	same := deepLocks(l)
	at := slices.IndexFunc(l, func(k impl.Lock) bool { return k.Key == key })
	for _, k := range l {
		if len(othersThan(txn, k.Waits)) < len(k.Waits) {
			return same, impl.AskBad
		}
	}
	if at < 0 {
		if len(l) == 20 {
			return same, impl.AskBad
		}
		left := append(same, impl.Lock{Key: key, Holds: []impl.Hold{{Txn: txn, Mode: mode}}})
		slices.SortFunc(left, func(a, b impl.Lock) int {
			if a.Key < b.Key {
				return -1
			}
			return 1
		})
		return left, impl.AskGranted
	}
	k := &same[at]
	has := func(mode int) bool { return slices.Contains(k.Holds, impl.Hold{Txn: txn, Mode: mode}) }
	if has(impl.LockOwn) || mode == impl.LockShared && has(impl.LockShared) {
		return same, impl.AskGranted
	}
	if len(k.Waits) == 0 && grantableAgain(k.Holds, impl.Hold{Txn: txn, Mode: mode}) {
		k.Holds = heldToo(k.Holds, impl.Hold{Txn: txn, Mode: mode})
		return same, impl.AskGranted
	}
	for _, h := range slices.Concat(othersThan(txn, k.Holds), k.Waits) {
		if h.Txn <= txn {
			return same, impl.AskDies
		}
	}
	if len(k.Waits) == 8 {
		return same, impl.AskBad
	}
	k.Waits = append(k.Waits, impl.Hold{Txn: txn, Mode: mode})
	return same, impl.AskWaits
}

func heldToo(l []impl.Hold, h impl.Hold) []impl.Hold {
	l = append(othersThan(h.Txn, l), h)
	slices.SortFunc(l, func(a, b impl.Hold) int { return a.Txn - b.Txn })
	return l
}

// checkAsk holds an ask against the document's words told again, and against promise 4.
func checkAsk(t *testing.T, l []impl.Lock, txn int, key string, mode int) ([]impl.Lock, int) {
	left, code := impl.AskLock(l, txn, key, mode)
	wantLeft, wantCode := askAgain(l, txn, key, mode)
	if !sameLocks(left, wantLeft) || code != wantCode {
		t.Fatalf("%v: %d asks for %s as %d: %v %d, not %v %d", l, txn, key, mode, left, code, wantLeft, wantCode)
	}
	if !impl.GoodLocks(left) {
		t.Fatalf("%v: %d asks for %s as %d: %v is left, which is not good", l, txn, key, mode, left)
	}
	checkElder(t, left)
	holders, _ := impl.HolderOf(left, key)
	before, _ := impl.HolderOf(l, key)
	if holds := slices.Contains(holders, txn); code == impl.AskGranted && !holds || code != impl.AskGranted && holds != slices.Contains(before, txn) {
		t.Fatalf("%v: %d asks for %s as %d: %d, held by %v", l, txn, key, mode, code, holders)
	}
	if (code == impl.AskDies || code == impl.AskBad) && !sameLocks(l, left) {
		t.Fatalf("%v: %d asks for %s as %d: %d, and %v is left", l, txn, key, mode, code, left)
	}
	return left, code
}

// All asks of four Txns, one of which has nothing yet, on the keys ahead of, among and behind those that are locked.
func TestAskLockOfAllThatIsSmall(t *testing.T) {
	codes := map[int]int{}
	for _, l := range smallLockings(3) {
		for txn := range 4 {
			for _, key := range []string{"a", "b", "c", "d", "e"} {
				for mode := range 2 {
					_, code := checkAsk(t, l, txn+1, key, mode+1)
					codes[code]++
				}
			}
		}
	}
	if len(codes) != 4 || codes[impl.AskGranted] < 100 || codes[impl.AskWaits] < 100 || codes[impl.AskDies] < 100 || codes[impl.AskBad] < 100 {
		t.Error(codes)
	}
}

func TestAskLockOfAllOfOneKey(t *testing.T) {
	for _, k := range goodLocksOf("a", 4) {
		for txn := range 5 {
			for mode := range 2 {
				checkAsk(t, []impl.Lock{k}, txn+1, "a", mode+1)
			}
		}
	}
}

func TestAsksThatAreNone(t *testing.T) {
	for _, l := range goodLockings() {
		for _, n := range []int{-1, 0, 1001, 65535, math.MinInt, math.MaxInt} {
			for _, key := range []string{"a", "b", "all"} {
				if left, code := impl.AskLock(l, n, key, impl.LockShared); !sameLocks(left, l) || code != impl.AskBad {
					t.Errorf("%v: Txn %d: %v %d", l, n, left, code)
				}
			}
		}
		for _, n := range []int{-1, 0, 3, 4, math.MinInt, math.MaxInt} {
			for _, txn := range []int{1, 5, 7, 1000} {
				if left, code := impl.AskLock(l, txn, "a", n); !sameLocks(left, l) || code != impl.AskBad {
					t.Errorf("%v: mode %d: %v %d", l, n, left, code)
				}
			}
		}
		for _, key := range badKeys() {
			if left, code := impl.AskLock(l, 77, key, impl.LockShared); !sameLocks(left, l) || code != impl.AskBad {
				t.Errorf("%v: key %q: %v %d", l, key, left, code)
			}
		}
	}
}

func TestEachKeyAndTxnMayAsk(t *testing.T) {
	for _, key := range goodKeys() {
		for _, txn := range []int{1, 2, 999, 1000} {
			left, code := impl.AskLock(nil, txn, key, impl.LockOwn)
			if want := []impl.Lock{{Key: key, Holds: []impl.Hold{{Txn: txn, Mode: impl.LockOwn}}}}; !sameLocks(left, want) || code != impl.AskGranted {
				t.Errorf("%d %s: %v %d", txn, key, left, code)
			}
		}
	}
}
