package tests

import (
	"math"
	"slices"
	"testing"

	"loop.example/g00218/impl"
)

func TestReleaseAll(t *testing.T) {
	for _, c := range []struct {
		locks   string
		txn     int
		left    string
		granted []int
	}{
		// a Txn that holds nothing and waits for nothing
		{"", 1, "", nil},
		{"", 1000, "", nil},
		{"a:5o<3s", 4, "a:5o<3s", nil},
		{"a:5s,7s<5o,3s b:9o", 6, "a:5s,7s<5o,3s b:9o", nil},
		// a key that nobody holds goes
		{"a:5o", 5, "", nil},
		{"a:5o b:7s", 5, "b:7s", nil},
		{"a:7o b:5s c:7o", 5, "a:7o c:7o", nil},
		{"a:5s b:5o c:5o", 5, "", nil},
		// others hold it still
		{"a:5s,7s", 5, "a:7s", nil},
		{"a:3s,5s,7s<3o", 5, "a:3s,7s<3o", nil},
		// what it waits for goes
		{"a:5o<3s", 3, "a:5o", nil},
		{"a:5o<4s,3o,2s", 3, "a:5o<4s,2s", nil},
		{"a:5o<4s,3o,2s", 4, "a:5o<3o,2s", nil},
		{"a:5o<4s b:4o", 4, "a:5o", nil},
		// it holds and waits on several keys
		{"a:3o b:5o<3s c:3s,9s d:3s<2o", 3, "b:5o c:9s d:2o", []int{2}},
		// the one that waits is granted what it wants
		{"a:5o<3s", 5, "a:3s", []int{3}},
		{"a:5o<3o", 5, "a:3o", []int{3}},
		{"a:5s<3o", 5, "a:3o", []int{3}},
		// several, one after the other, with what is held then
		{"a:5o<4s,3s,2s", 5, "a:2s,3s,4s", []int{4, 3, 2}},
		{"a:5o<4s,3s,2o", 5, "a:3s,4s<2o", []int{4, 3}},
		{"a:5o<4s,3o,2s", 5, "a:4s<3o,2s", []int{4}},
		{"a:5o<4o,3s,2s", 5, "a:4o<3s,2s", []int{4}},
		{"a:5o<4o,3o", 5, "a:4o<3o", []int{4}},
		// who waited goes from the front, and those behind it are granted what others share
		{"a:5s<4o,3s,2s", 4, "a:2s,3s,5s", []int{3, 2}},
		{"a:5s<4o,3s,2o,1s", 4, "a:3s,5s<2o,1s", []int{3}},
		{"a:5s<4o,3o,2s", 4, "a:5s<3o,2s", nil},
		// not all of those that share it go
		{"a:5s,7s<3o", 5, "a:7s<3o", nil},
		{"a:5s,7s<3o", 7, "a:5s<3o", nil},
		// one that shares it and waits for its own is granted that when it is alone
		{"a:5s,7s<5o", 7, "a:5o", []int{5}},
		{"a:5s,7s,9s<5o", 7, "a:5s,9s<5o", nil},
		{"a:5s,7s<5o,3s", 7, "a:5o<3s", []int{5}},
		{"a:5s,7s<5o,3s,2s", 5, "a:2s,3s,7s", []int{3, 2}},
		{"a:5s,7s<5o,3o", 5, "a:7s<3o", nil},
		{"a:5s,7s<5o", 5, "a:7s", nil},
		// on several keys, in the order of the keys
		{"a:9o<3s b:9o<1s c:9o<2s", 9, "a:3s b:1s c:2s", []int{3, 1, 2}},
		{"a:9o<8s,1s b:9s<7o,6o c:9o d:9o<3s,2s", 9, "a:1s,8s b:7o<6o d:2s,3s", []int{8, 1, 7, 3, 2}},
		{"a:8o<3s b:9o<1s c:8o<2s", 8, "a:3s b:9o<1s c:2s", []int{3, 2}},
		// the one that is released is granted nothing, though what it waited for is free then
		{"a:5s,7s<5o b:5o", 5, "a:7s", nil},
		{"a:5s b:9s<5o", 5, "b:9s", nil},
	} {
		left, granted, ok := impl.ReleaseAll(locked(c.locks), c.txn)
		if !sameLocks(left, locked(c.left)) || !slices.Equal(granted, c.granted) || !ok {
			t.Errorf("%s: %d released: %v %v %v", c.locks, c.txn, left, granted, ok)
		}
	}
}

// releaseAgain tells by the document's words what a release leaves, in three goes over the keys.
func releaseAgain(l []impl.Lock, txn int) ([]impl.Lock, []int) {
	left := deepLocks(l)
	for i := range left {
		left[i].Holds = othersThan(txn, left[i].Holds)
		left[i].Waits = othersThan(txn, left[i].Waits)
	}
	var granted []int
	for i := range left {
		k := &left[i]
		for len(k.Waits) > 0 && grantableAgain(k.Holds, k.Waits[0]) {
			k.Holds = heldToo(k.Holds, k.Waits[0])
			granted = append(granted, k.Waits[0].Txn)
			k.Waits = slices.Clone(k.Waits[1:])
		}
	}
	return slices.DeleteFunc(left, func(k impl.Lock) bool { return len(k.Holds) == 0 }), granted
}

// checkRelease holds a release against the document's words told again, and against promise 4.
func checkRelease(t *testing.T, l []impl.Lock, txn int) []impl.Lock {
	left, granted, ok := impl.ReleaseAll(l, txn)
	wantLeft, wantGranted := releaseAgain(l, txn)
	if !ok || !sameLocks(left, wantLeft) || !slices.Equal(granted, wantGranted) {
		t.Fatalf("%v: %d released: %v %v %v, not %v %v", l, txn, left, granted, ok, wantLeft, wantGranted)
	}
	if !impl.GoodLocks(left) {
		t.Fatalf("%v: %d released: %v is left, which is not good", l, txn, left)
	}
	checkElder(t, left)
	for _, k := range left {
		if len(othersThan(txn, k.Holds)) != len(k.Holds) || len(othersThan(txn, k.Waits)) != len(k.Waits) {
			t.Fatalf("%v: %d released: it is still in %v", l, txn, left)
		}
	}
	return left
}

func TestReleaseAllOfAllThatIsSmall(t *testing.T) {
	for _, l := range smallLockings(3) {
		for txn := range 4 {
			checkRelease(t, l, txn+1)
		}
	}
	for _, k := range goodLocksOf("a", 4) {
		for txn := range 5 {
			checkRelease(t, []impl.Lock{k}, txn+1)
		}
	}
}

func TestReleaseAllAtTheEdges(t *testing.T) {
	for _, l := range goodLockings() {
		for _, txn := range []int{1, 2, 5, 7, 9, 20, 492, 499, 500, 999, 1000} {
			checkRelease(t, l, txn)
		}
		for _, txn := range []int{0, -1, 1001, 65535, math.MinInt, math.MaxInt} {
			if left, granted, ok := impl.ReleaseAll(l, txn); len(left) != 0 || len(granted) != 0 || ok {
				t.Errorf("%v: Txn %d: %v %v %v", l, txn, left, granted, ok)
			}
		}
	}
}

func TestWaitsFor(t *testing.T) {
	for _, c := range []struct {
		locks string
		want  []impl.Pair
	}{
		{"", nil},
		{"a:5o b:3s,5s", nil},
		{"a:5o<3s", []impl.Pair{{From: 3, To: 5}}},
		{"a:5s,7s<3o", []impl.Pair{{From: 3, To: 5}, {From: 3, To: 7}}},
		{"a:5o<4s,3s", []impl.Pair{{From: 3, To: 4}, {From: 3, To: 5}, {From: 4, To: 5}}},
		{"a:5s,7s<4o,2s", []impl.Pair{{From: 2, To: 4}, {From: 2, To: 5}, {From: 2, To: 7}, {From: 4, To: 5}, {From: 4, To: 7}}},
		// who shares the key waits for the others that do, not for itself
		{"a:5s,7s,9s<5o", []impl.Pair{{From: 5, To: 7}, {From: 5, To: 9}}},
		// 5 holds, and waits ahead of 3: told once
		{"a:5s,7s<5o,3s", []impl.Pair{{From: 3, To: 5}, {From: 3, To: 7}, {From: 5, To: 7}}},
		// by From, whatever the order of the keys
		{"a:9o<3s b:9o<1s c:8o<2s", []impl.Pair{{From: 1, To: 9}, {From: 2, To: 8}, {From: 3, To: 9}}},
		{"a:5o<4s b:4o<3s c:3o<2s", []impl.Pair{{From: 2, To: 3}, {From: 3, To: 4}, {From: 4, To: 5}}},
		{"a:10o<9s,2s", []impl.Pair{{From: 2, To: 9}, {From: 2, To: 10}, {From: 9, To: 10}}},
	} {
		if x, ok := impl.WaitsFor(locked(c.locks)); !slices.Equal(x, c.want) || !ok {
			t.Errorf("%s: %v %v", c.locks, x, ok)
		}
	}
}

// waitsAgain asks of each two Txns whether the first one waits for the second.
func waitsAgain(l []impl.Lock, txns int) []impl.Pair {
	var pairs []impl.Pair
	for from := 1; from <= txns; from++ {
		for to := 1; to <= txns; to++ {
			if from != to && slices.ContainsFunc(l, func(k impl.Lock) bool { return isAhead(k, from, to) }) {
				pairs = append(pairs, impl.Pair{From: from, To: to})
			}
		}
	}
	return pairs
}

func isAhead(k impl.Lock, from, to int) bool {
	at := slices.IndexFunc(k.Waits, func(h impl.Hold) bool { return h.Txn == from })
	if at < 0 {
		return false
	}
	ahead := slices.Concat(k.Holds, k.Waits[:at])
	return len(othersThan(to, ahead)) < len(ahead)
}

func TestWaitsForOfAllThatIsSmall(t *testing.T) {
	for _, l := range smallLockings(3) {
		if x, ok := impl.WaitsFor(l); !slices.Equal(x, waitsAgain(l, 3)) || !ok {
			t.Fatalf("%v: %v %v", l, x, ok)
		}
	}
	for _, k := range goodLocksOf("a", 4) {
		l := []impl.Lock{k}
		if x, ok := impl.WaitsFor(l); !slices.Equal(x, waitsAgain(l, 4)) || !ok {
			t.Fatalf("%v: %v %v", l, x, ok)
		}
	}
}

func TestWaitsForAtTheEdges(t *testing.T) {
	for _, l := range goodLockings() {
		if x, ok := impl.WaitsFor(l); !slices.Equal(x, waitsAgain(l, 1000)) || !ok {
			t.Fatalf("%v: %v %v", l, x, ok)
		}
	}
	l := []impl.Lock{allShare(1000)}
	l[0].Waits = holds("1o")
	if x, ok := impl.WaitsFor(l); len(x) != 999 || !ok || x[0] != (impl.Pair{From: 1, To: 2}) || x[998] != (impl.Pair{From: 1, To: 1000}) {
		t.Error(len(x), ok)
	}
}

// checkElder is promise 4: who waits is elder than all it waits for, so that nobody waits in a circle.
func checkElder(t *testing.T, l []impl.Lock) {
	pairs, ok := impl.WaitsFor(l)
	for _, p := range pairs {
		if p.From >= p.To {
			t.Fatalf("%v: %d waits for %d", l, p.From, p.To)
		}
	}
	if !ok || hasCircle(pairs) {
		t.Fatalf("%v: %v %v", l, pairs, ok)
	}
}

// hasCircle lets all go who wait for nobody, as long as there are any: those in a circle are left.
func hasCircle(pairs []impl.Pair) bool {
	for len(pairs) > 0 {
		left := slices.DeleteFunc(slices.Clone(pairs), func(p impl.Pair) bool {
			return !slices.ContainsFunc(pairs, func(q impl.Pair) bool { return q.From == p.To })
		})
		if len(left) == len(pairs) {
			return true
		}
		pairs = left
	}
	return false
}

func TestCirclesAreSeen(t *testing.T) {
	for _, pairs := range [][]impl.Pair{{{From: 1, To: 2}, {From: 2, To: 1}}, {{From: 5, To: 1}, {From: 1, To: 2}, {From: 2, To: 3}, {From: 3, To: 1}}} {
		if !hasCircle(pairs) || hasCircle(pairs[1:2]) {
			t.Error(pairs)
		}
	}
}

func TestWhoWaitsIsElder(t *testing.T) {
	for _, l := range slices.Concat(goodLockings(), smallLockings(3)) {
		checkElder(t, l)
	}
}

func TestHolderOf(t *testing.T) {
	for _, c := range []struct {
		locks string
		key   string
		want  []int
	}{
		{"", "a", nil},
		{"b:5o", "a", nil},
		{"b:5o", "c", nil},
		{"b:5o", "bb", nil},
		{"a:5o c:5o", "b", nil},
		{"a:5o", "a", []int{5}},
		{"a:5s", "a", []int{5}},
		{"a:1s,7s,10s,1000s", "a", []int{1, 7, 10, 1000}},
		{"a:5o<3s", "a", []int{5}},
		{"a:5s,7s<5o,3s", "a", []int{5, 7}},
		{"a:1o b:2o c:3o", "a", []int{1}},
		{"a:1o b:2o c:3o", "b", []int{2}},
		{"a:1o b:2o c:3o", "c", []int{3}},
		{"aa:1o aaa:2o", "aaa", []int{2}},
		{"aa:1o aaa:2o", "a", nil},
	} {
		if x, ok := impl.HolderOf(locked(c.locks), c.key); !slices.Equal(x, c.want) || !ok {
			t.Errorf("%s, %s: %v %v", c.locks, c.key, x, ok)
		}
	}
	for i, k := range manyKeys(20) {
		if x, ok := impl.HolderOf(manyKeys(20), k.Key); !slices.Equal(x, []int{i + 1}) || !ok {
			t.Error(k.Key, x, ok)
		}
	}
	for _, key := range badKeys() {
		for _, l := range goodLockings() {
			if x, ok := impl.HolderOf(l, key); len(x) != 0 || ok {
				t.Errorf("%v, %q: %v %v", l, key, x, ok)
			}
		}
	}
}
