package tests

import (
	"fmt"
	"slices"
	"strings"
	"testing"
	"unsafe"

	"loop.example/g00218/impl"
)

// lockAnswers asks all functions of locks, and tells what they answered as one text.
func lockAnswers(l []impl.Lock, txn int, key string, mode int) string {
	left, code := impl.AskLock(l, txn, key, mode)
	released, granted, ok1 := impl.ReleaseAll(l, txn)
	pairs, ok2 := impl.WaitsFor(l)
	holders, ok3 := impl.HolderOf(l, key)
	return fmt.Sprint(impl.GoodLocks(l), left, code, released, granted, ok1, pairs, ok2, holders, ok3)
}

// wholeOf are the locks with all that lies behind their lengths.
func wholeOf(l []impl.Lock) []impl.Lock {
	l = slices.Clone(l[:cap(l)])
	for i, k := range l {
		l[i].Holds, l[i].Waits = slices.Clone(k.Holds[:cap(k.Holds)]), slices.Clone(k.Waits[:cap(k.Waits)])
	}
	return l
}

func TestNoLockIsWrittenInto(t *testing.T) {
	for _, l := range slices.Concat(goodLockings(), badLockings()[:60], smallLockings(2)) {
		old := deepLocks(l)
		for _, txn := range []int{0, 1, 2, 3, 5, 7, 9, 500, 1000} {
			for _, key := range []string{"a", "b", "k07", "z", "?"} {
				for mode := range 4 {
					lockAnswers(l, txn, key, mode)
				}
			}
		}
		if !sameLocks(l, old) {
			t.Errorf("%v became %v", old, l)
		}
	}
}

func TestNoAskIsWrittenInto(t *testing.T) {
	for seed := range 40 {
		l := somePlay(uint64(seed))
		old := slices.Clone(l)
		impl.PlayLocks(l)
		if !slices.Equal(l, old) {
			t.Errorf("%v became %v", old, l)
		}
	}
}

// roomy are the locks with room behind each list, where something lies that must not matter.
func roomy(l []impl.Lock, behind impl.Hold) []impl.Lock {
	n := len(l)
	l = append(deepLocks(l), impl.Lock{Key: "b", Holds: []impl.Hold{behind}, Waits: []impl.Hold{behind}}, impl.Lock{})[:n]
	for i, k := range l {
		l[i].Holds = append(k.Holds, behind, behind)[:len(k.Holds)]
		l[i].Waits = append(k.Waits, behind, behind)[:len(k.Waits)]
	}
	return l
}

// Whatever lies behind the lengths, good or bad, is neither read nor written nor handed out.
func TestLocksKeepToTheirLengths(t *testing.T) {
	for _, l := range slices.Concat(goodLockings(), smallLockings(2)) {
		for _, behind := range []impl.Hold{{Txn: 1, Mode: impl.LockOwn}, {Txn: 1000, Mode: impl.LockShared}, {Txn: -1, Mode: 9}} {
			long := roomy(l, behind)
			old := wholeOf(long)
			for _, txn := range []int{1, 2, 3, 5, 500} {
				for _, key := range []string{"a", "b", "z"} {
					for mode := range 2 {
						if got, want := lockAnswers(long, txn, key, mode+1), lockAnswers(l, txn, key, mode+1); got != want {
							t.Errorf("%v: %s, not %s", l, got, want)
						}
					}
				}
			}
			if !sameLocks(wholeOf(long), old) {
				t.Errorf("%v became %v", old, wholeOf(long))
			}
		}
	}
}

func TestPlayLocksKeepsToItsAsks(t *testing.T) {
	l := asks("5a:o 3a:s 4a:o 2a:s 5 9b:o")
	old := slices.Clone(l)
	left, codes, ok := impl.PlayLocks(l[:4])
	want, wantCodes, wantOk := impl.PlayLocks(asks("5a:o 3a:s 4a:o 2a:s"))
	if !sameLocks(left, want) || !slices.Equal(codes, wantCodes) || ok != wantOk || !slices.Equal(l, old) {
		t.Error(left, codes, ok, l)
	}
	long := slices.Repeat(asks("5a:o"), 200)
	if _, codes, ok := impl.PlayLocks(long[:100]); len(codes) != 100 || !ok {
		t.Error(codes, ok)
	}
}

// listsOf are all lists of holds in some locks.
func listsOf(l []impl.Lock) [][]impl.Hold {
	var lists [][]impl.Hold
	for _, k := range l {
		lists = append(lists, k.Holds, k.Waits)
	}
	return lists
}

// checkNewLocks tells whether answered locks share nothing with given ones, nor any two lists of them with each other.
func checkNewLocks(t *testing.T, left, given []impl.Lock) {
	if sharesList(left, given) {
		t.Fatalf("%v: the locks of the answer lie in those of the argument", given)
	}
	lists := listsOf(left)
	for i, a := range lists {
		for _, b := range listsOf(given) {
			if sharesList(a, b) || unsafe.SliceData(a) != nil && unsafe.SliceData(a) == unsafe.SliceData(b) {
				t.Fatalf("%v: a list of the answer lies in the argument", given)
			}
		}
		for _, b := range lists[:i] {
			if sharesList(a, b) {
				t.Fatalf("%v: two lists of the answer share memory: %v", given, left)
			}
		}
	}
	for _, k := range left {
		for _, g := range given {
			if sharesText(k.Key, g.Key) {
				t.Fatalf("%v: the key %s lies in the argument", given, k.Key)
			}
		}
	}
}

func TestLocksAreNewMemory(t *testing.T) {
	for _, l := range slices.Concat(goodLockings(), smallLockings(3)) {
		given := roomy(l, impl.Hold{Txn: 4, Mode: impl.LockShared})
		for _, txn := range []int{1, 2, 3, 5, 500, 1001} {
			for _, key := range []string{"a", "b"} {
				for mode := range 2 {
					left, _ := impl.AskLock(given, txn, key, mode+1)
					checkNewLocks(t, left, given)
					checkNewLocks(t, left, l)
				}
			}
			left, granted, _ := impl.ReleaseAll(given, txn)
			checkNewLocks(t, left, given)
			_, again, _ := impl.ReleaseAll(given, txn)
			if sharesList(granted, again) {
				t.Fatalf("%v: two answers share the granted", l)
			}
		}
	}
}

// Lists of the argument that lie in one memory do not bring those of the answer together.
func TestListsThatShareMemoryAreParted(t *testing.T) {
	both := holds("5s,7s,5o,3s")
	l := []impl.Lock{{Key: "a", Holds: both[:2], Waits: both[2:]}, {Key: "b", Holds: both[:2]}, {Key: "c", Holds: both[1:2]}}
	for _, txn := range []int{2, 3, 5, 7, 9} {
		left, _ := impl.AskLock(l, txn, "b", impl.LockShared)
		checkNewLocks(t, left, l)
		left, _, _ = impl.ReleaseAll(l, txn)
		checkNewLocks(t, left, l)
	}
	if !slices.Equal(both, holds("5s,7s,5o,3s")) {
		t.Error(both)
	}
}

func TestWhatPlayLocksTellsIsNewMemory(t *testing.T) {
	for seed := range 60 {
		l := somePlay(uint64(seed))
		left, codes, _ := impl.PlayLocks(l)
		again, codesAgain, _ := impl.PlayLocks(l)
		checkNewLocks(t, left, again)
		if sharesList(codes, codesAgain) {
			t.Fatalf("%v: two answers share the codes", l)
		}
		for _, k := range left {
			for _, a := range l {
				if sharesText(k.Key, a.Key) {
					t.Fatalf("%v: the key %s lies in the argument", l, k.Key)
				}
			}
		}
	}
}

// Keys laid over bytes that change later show whether an answer still hangs on them.
func TestLocksDoNotHangOnWhatWasGiven(t *testing.T) {
	b := []byte("abcdefgh")
	key := unsafe.String(&b[0], len(b))
	held := []impl.Lock{{Key: key, Holds: holds("5o"), Waits: holds("3s")}}
	fresh, _ := impl.AskLock(nil, 5, key, impl.LockOwn)
	waits, _ := impl.AskLock(held, 2, key, impl.LockOwn)
	refused, _ := impl.AskLock(held, 3, key, impl.LockOwn)
	released, _, _ := impl.ReleaseAll(held, 5)
	played, _, _ := impl.PlayLocks([]impl.Ask{{Txn: 5, Key: key, Mode: impl.LockOwn}})
	copy(b, strings.Repeat("z", len(b)))
	for i, l := range [][]impl.Lock{fresh, waits, refused, released, played} {
		if len(l) != 1 || l[0].Key != "abcdefgh" {
			t.Error(i, l)
		}
	}
}

func TestPairsAndHoldersAreNewMemory(t *testing.T) {
	for _, l := range goodLockings() {
		pairs, _ := impl.WaitsFor(l)
		again, _ := impl.WaitsFor(l)
		holders, _ := impl.HolderOf(l, "a")
		holdersAgain, _ := impl.HolderOf(l, "a")
		if sharesList(pairs, again) || sharesList(holders, holdersAgain) {
			t.Fatalf("%v: answers share memory", l)
		}
	}
}
