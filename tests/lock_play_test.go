package tests

import (
	"math"
	"slices"
	"strconv"
	"strings"
	"testing"

	"loop.example/g00218/impl"
)

// asks reads words such as 5a:o, 3b:s and 7: the Txn and the key, and whether it is to be shared or its own; a Txn alone is released.
func asks(text string) []impl.Ask {
	var l []impl.Ask
	for _, word := range strings.Fields(text) {
		n := len(word) - len(strings.TrimLeft(word, "-0123456789"))
		txn, _ := strconv.Atoi(word[:n])
		key, mode, found := strings.Cut(word[n:], ":")
		if !found {
			l = append(l, impl.Ask{Txn: txn, Release: true})
			continue
		}
		l = append(l, impl.Ask{Txn: txn, Key: key, Mode: strings.Index("xso", mode)})
	}
	return l
}

func TestPlayLocks(t *testing.T) {
	const granted, waits, dies, bad = impl.AskGranted, impl.AskWaits, impl.AskDies, impl.AskBad
	for _, c := range []struct {
		asks  string
		left  string
		codes []int
	}{
		{"", "", nil},
		{"5a:o", "a:5o", []int{granted}},
		{"5a:s 5a:o 5a:s", "a:5o", []int{granted, granted, granted}},
		{"5a:o 3a:s 4a:o 2a:s", "a:5o<3s,2s", []int{granted, waits, dies, waits}},
		// a release, also of one that has nothing, and twice
		{"5a:o 5", "", []int{granted, granted}},
		{"5", "", []int{granted}},
		{"5a:o 5 5 7", "", []int{granted, granted, granted, granted}},
		{"5a:o 3a:s 2a:s 5", "a:2s,3s", []int{granted, waits, waits, granted}},
		{"5a:o 3a:s 3", "a:5o", []int{granted, waits, granted}},
		{"5a:o 3a:s 2a:o 5 3", "a:2o", []int{granted, waits, waits, granted, granted}},
		// who dies is released: it holds nothing any more, and others are granted what it held
		{"5a:o 7b:o 7a:o", "a:5o", []int{granted, granted, dies}},
		{"5a:o 7b:o 3b:s 7a:o", "a:5o b:3s", []int{granted, granted, waits, dies}},
		{"5a:s 7a:s 7a:o", "a:5s", []int{granted, granted, dies}},
		{"5a:s 7a:s 5a:o 7a:o", "a:5o", []int{granted, granted, waits, dies}},
		{"5a:s 3a:o 5a:o", "a:3o", []int{granted, waits, dies}},
		// and it may ask again
		{"5a:o 7b:o 7a:o 7b:o", "a:5o b:7o", []int{granted, granted, dies, granted}},
		// bad asks, after which all goes on as it was
		{"0a:o 5a:o", "a:5o", []int{bad, granted}},
		{"5a:o 1001a:s 3a:x 3A:s 3:s 3abcdefghi:s 3a:s", "a:5o<3s", []int{granted, bad, bad, bad, bad, bad, waits}},
		{"5a:o 3a:s 3b:s 3a:o", "a:5o<3s", []int{granted, waits, bad, bad}},
		{"5a:o 0 -1 1001", "a:5o", []int{granted, bad, bad, bad}},
		{"0", "", []int{bad}},
		{"1000a:o 1000 1a:s 1 1001", "", []int{granted, granted, granted, granted, bad}},
		// one who waited is granted its key, and asks for the next one
		{"5a:o 3a:s 5 3b:o 3a:o", "a:3o b:3o", []int{granted, waits, granted, granted, granted}},
	} {
		if left, codes, ok := impl.PlayLocks(asks(c.asks)); !sameLocks(left, locked(c.left)) || !slices.Equal(codes, c.codes) || !ok {
			t.Errorf("%s: %v %v %v", c.asks, left, codes, ok)
		}
	}
}

// With Release neither the key nor the mode matters.
func TestReleasesHaveNoKeyAndNoMode(t *testing.T) {
	for _, a := range []impl.Ask{{}, {Key: "a"}, {Key: "b", Mode: impl.LockOwn}, {Key: "?", Mode: -1}, {Key: strings.Repeat("k", 300), Mode: math.MaxInt}} {
		for _, c := range []struct {
			txn, code int
			left      string
		}{{5, impl.AskGranted, "a:3s b:7s"}, {7, impl.AskGranted, "a:5o<3s"}, {3, impl.AskGranted, "a:5o b:7s"}, {4, impl.AskGranted, "a:5o<3s b:7s"}, {0, impl.AskBad, "a:5o<3s b:7s"}, {1001, impl.AskBad, "a:5o<3s b:7s"}} {
			a.Txn, a.Release = c.txn, true
			left, codes, ok := impl.PlayLocks(append(asks("5a:o 3a:s 7b:s"), a))
			if !ok || !sameLocks(left, locked(c.left)) || !slices.Equal(codes, []int{impl.AskGranted, impl.AskWaits, impl.AskGranted, c.code}) {
				t.Errorf("%+v: %v %v %v", a, left, codes, ok)
			}
		}
	}
}

func TestPlayLocksHasALimit(t *testing.T) {
	for _, a := range [][]impl.Ask{asks("5a:o"), asks("5"), asks("0a:o")} {
		for _, n := range []int{99, 100, 101, 102, 5000} {
			left, codes, ok := impl.PlayLocks(slices.Repeat(a, n))
			if n <= 100 {
				if len(codes) != n || !ok {
					t.Errorf("%d of %v: %v %v", n, a, codes, ok)
				}
			} else if len(left) != 0 || len(codes) != 0 || ok {
				t.Errorf("%d of %v: %v %v %v", n, a, left, codes, ok)
			}
		}
	}
}

func TestPlayLocksBeyondMaxLocks(t *testing.T) {
	var l []impl.Ask
	for _, k := range manyKeys(20) {
		l = append(l, impl.Ask{Txn: k.Holds[0].Txn, Key: k.Key, Mode: impl.LockOwn})
	}
	left, codes, ok := impl.PlayLocks(append(l, asks("21z:o 20 21z:s")...))
	want := append(manyKeys(19), locked("z:21s")...)
	if !ok || !sameLocks(left, want) || !slices.Equal(codes[20:], []int{impl.AskBad, impl.AskGranted, impl.AskGranted}) {
		t.Error(left, codes, ok)
	}
}

func TestPlayLocksBeyondMaxTxns(t *testing.T) {
	left, codes, ok := impl.PlayLocks(asks("10a:o 9a:s 8a:o 7a:s 6a:o 5a:s 4a:o 3a:s 2a:o 1a:s 3a:o 1b:o"))
	if !ok || !sameLocks(left, locked("a:10o<9s,8o,7s,6o,5s,4o,3s,2o b:1o")) || !slices.Equal(codes, []int{1, 2, 2, 2, 2, 2, 2, 2, 2, impl.AskBad, impl.AskBad, impl.AskGranted}) {
		t.Error(left, codes, ok)
	}
}

// somePlay mixes asks, a few releases and fewer bad asks.
func somePlay(seed uint64) []impl.Ask {
	m := mixer(seed)
	txns, keys, size := m.below(30)+2, m.below(25)+1, m.below(impl.MaxAsks)+1
	var l []impl.Ask
	for range size {
		a := impl.Ask{Txn: m.below(txns) + 1, Key: string([]byte{'a' + byte(m.below(keys))}), Mode: m.below(2) + 1}
		switch m.below(40) {
		case 0, 1, 2, 3:
			a.Release = true
		case 4:
			a.Txn = 1001
		case 5:
			a.Mode = 3
		case 6:
			a.Key = "?"
		case 7:
			a.Txn, a.Release = 0, true
		}
		l = append(l, a)
	}
	return l
}

func goodAsk(a impl.Ask) bool {
	return a.Txn >= 1 && a.Txn <= 1000 && (a.Release || a.Key != "?" && a.Mode < 3)
}

// Long plays, ask by ask: what each leaves is what the document's words told again leave, and promise 4 holds there.
func TestLongPlays(t *testing.T) {
	told := map[int]int{}
	for seed := range 300 {
		l := somePlay(uint64(seed))
		var at []impl.Lock
		var codes []int
		for _, a := range l {
			code := impl.AskBad
			switch {
			case !goodAsk(a):
			case a.Release:
				at, code = checkRelease(t, at, a.Txn), impl.AskGranted
			default:
				if at, code = checkAsk(t, at, a.Txn, a.Key, a.Mode); code == impl.AskDies {
					at = checkRelease(t, at, a.Txn)
				}
			}
			codes = append(codes, code)
			told[code]++
		}
		left, again, ok := impl.PlayLocks(l)
		if !ok || !sameLocks(left, at) || !slices.Equal(again, codes) {
			t.Fatalf("%v: %v %v %v, not %v %v", l, left, again, ok, at, codes)
		}
		checkAllEnd(t, left)
	}
	for code := impl.AskGranted; code <= impl.AskBad; code++ {
		if told[code] < 500 {
			t.Error(told)
		}
	}
}

// checkAllEnd lets those end that wait for nobody, until nothing is locked: nobody waits for ever.
func checkAllEnd(t *testing.T, l []impl.Lock) {
	for len(l) > 0 {
		pairs, _ := impl.WaitsFor(l)
		ends := 0
		for _, k := range l {
			for _, h := range k.Holds {
				if !slices.ContainsFunc(pairs, func(p impl.Pair) bool { return p.From == h.Txn }) {
					ends = h.Txn
				}
			}
		}
		if ends == 0 {
			t.Fatalf("%v: all wait", l)
		}
		l = checkRelease(t, l, ends)
	}
}

func TestAllEnd(t *testing.T) {
	for _, l := range slices.Concat(goodLockings(), smallLockings(3)) {
		if len(l) == 0 || len(l[0].Holds) < 100 {
			checkAllEnd(t, l)
		}
	}
}
