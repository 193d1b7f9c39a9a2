package tests

import (
	"math"
	"testing"

	"loop.example/g00218/impl"
)

// edgeTids are good tids at and near every limit, each with and without a lock.
func edgeTids() []impl.Tid {
	var l []impl.Tid
	for _, epoch := range []int{0, 1, 2, 255, 256, impl.MaxEpoch - 1, impl.MaxEpoch} {
		for _, seq := range []int{0, 1, 127, 128, 65536, impl.MaxSeq - 1, impl.MaxSeq} {
			l = append(l, impl.Tid{Epoch: epoch, Seq: seq}, impl.Tid{Epoch: epoch, Seq: seq, Locked: true})
		}
	}
	return l
}

// badTids go beyond one limit each, or beyond both.
func badTids() []impl.Tid {
	var l []impl.Tid
	for _, n := range []int{-1, math.MinInt, math.MaxInt, -1 << 44, 1 << 44} {
		l = append(l, impl.Tid{Epoch: n}, impl.Tid{Seq: n}, impl.Tid{Epoch: n, Seq: n, Locked: true})
	}
	return append(l,
		impl.Tid{Epoch: impl.MaxEpoch + 1},
		impl.Tid{Seq: impl.MaxSeq + 1},
		impl.Tid{Epoch: impl.MaxEpoch + 1, Seq: impl.MaxSeq + 1, Locked: true})
}

// orderOf is the order of tids, told a second time: by Epoch, then Seq.
func orderOf(a, b impl.Tid) int {
	switch {
	case a.Epoch < b.Epoch, a.Epoch == b.Epoch && a.Seq < b.Seq:
		return -1
	case a.Epoch == b.Epoch && a.Seq == b.Seq:
		return 0
	}
	return 1
}

func TestLimitsOfTids(t *testing.T) {
	if impl.MaxEpoch != 1<<20-1 || impl.MaxSeq != 1<<24-1 || impl.MaxMsgs != 60 {
		t.Error(impl.MaxEpoch, impl.MaxSeq, impl.MaxMsgs)
	}
}

func TestGoodTid(t *testing.T) {
	for _, x := range edgeTids() {
		if !impl.GoodTid(x) {
			t.Errorf("%+v is good", x)
		}
	}
	for _, x := range badTids() {
		if impl.GoodTid(x) {
			t.Errorf("%+v is not good", x)
		}
	}
}

func TestPackTidLaysOutTheWord(t *testing.T) {
	for _, c := range []struct {
		tid  impl.Tid
		word uint64
	}{
		{impl.Tid{}, 0},
		{impl.Tid{Locked: true}, 1},
		{impl.Tid{Seq: 1}, 2},
		{impl.Tid{Seq: impl.MaxSeq}, 0x1fffffe},
		{impl.Tid{Epoch: 1}, 0x2000000},
		{impl.Tid{Epoch: impl.MaxEpoch}, 0x1ffffe000000},
		{impl.Tid{Epoch: impl.MaxEpoch, Seq: impl.MaxSeq, Locked: true}, 0x1fffffffffff},
		{impl.Tid{Epoch: 0x12345, Seq: 0xabcdef, Locked: true}, 0x12345<<25 | 0xabcdef<<1 | 1},
	} {
		if w, ok := impl.PackTid(c.tid); w != c.word || !ok {
			t.Errorf("%+v: %#x %v", c.tid, w, ok)
		}
	}
}

func TestTidsComeBackFromTheirWords(t *testing.T) {
	for _, x := range edgeTids() {
		w, ok := impl.PackTid(x)
		if !ok {
			t.Fatalf("%+v has a word", x)
		}
		if back, ok := impl.UnpackTid(w); back != x || !ok {
			t.Errorf("%+v came back as %+v %v", x, back, ok)
		}
	}
}

func TestWordsComeBackFromTheirTids(t *testing.T) {
	for shift := range 45 {
		for _, w := range []uint64{1 << shift, 1<<shift - 1, 1<<45 - 1<<shift, 1<<45 - 1 ^ 1<<shift} {
			x, ok := impl.UnpackTid(w)
			if !ok || !impl.GoodTid(x) {
				t.Errorf("%#x: %+v %v", w, x, ok)
			}
			if back, ok := impl.PackTid(x); back != w || !ok {
				t.Errorf("%#x came back as %#x %v", w, back, ok)
			}
		}
	}
}

func TestWordsThatNoTidHas(t *testing.T) {
	words := []uint64{1<<45 + 1, 1<<45 | 1<<25, math.MaxUint64, math.MaxInt64, math.MaxUint64 - 1<<45}
	for shift := 45; shift < 64; shift++ {
		words = append(words, 1<<shift, 1<<shift|(1<<45-1))
	}
	for _, w := range words {
		if x, ok := impl.UnpackTid(w); x != (impl.Tid{}) || ok {
			t.Errorf("%#x: %+v %v", w, x, ok)
		}
	}
}

func TestWordsAreInTheOrderOfTheirTids(t *testing.T) {
	l := edgeTids()
	for _, a := range l {
		for _, b := range l {
			want := orderOf(a, b)
			if n, ok := impl.CompareTid(a, b); n != want || !ok {
				t.Errorf("%+v %+v: %d %v", a, b, n, ok)
			}
			v, _ := impl.PackTid(a)
			w, _ := impl.PackTid(b)
			if want < 0 && v >= w || want > 0 && v <= w || want == 0 && v>>1 != w>>1 {
				t.Errorf("%+v %+v: words %#x %#x", a, b, v, w)
			}
		}
	}
}

func TestALockIsNoPartOfTheOrder(t *testing.T) {
	a, b := impl.Tid{Epoch: 3, Seq: 4}, impl.Tid{Epoch: 3, Seq: 4, Locked: true}
	for _, p := range [][2]impl.Tid{{a, a}, {a, b}, {b, a}, {b, b}} {
		if n, ok := impl.CompareTid(p[0], p[1]); n != 0 || !ok {
			t.Errorf("%+v: %d %v", p, n, ok)
		}
	}
	if n, ok := impl.CompareTid(b, impl.Tid{Epoch: 3, Seq: 5}); n != -1 || !ok {
		t.Error(n, ok)
	}
}

func TestBadTidsHaveTheZeroAnswer(t *testing.T) {
	good := impl.Tid{Epoch: 1, Seq: 1, Locked: true}
	for _, x := range badTids() {
		if w, ok := impl.PackTid(x); w != 0 || ok {
			t.Errorf("%+v: %#x %v", x, w, ok)
		}
		for _, p := range [][2]impl.Tid{{x, good}, {good, x}, {x, x}} {
			if n, ok := impl.CompareTid(p[0], p[1]); n != 0 || ok {
				t.Errorf("%+v: %d %v", p, n, ok)
			}
		}
		for _, l := range [][]impl.Tid{{x}, {x, good}, {good, x}} {
			for _, epoch := range []int{0, 1, impl.MaxEpoch} {
				if n, ok := impl.NextTid(l, epoch); n != (impl.Tid{}) || ok {
					t.Errorf("%+v, %d: %+v %v", l, epoch, n, ok)
				}
			}
		}
	}
}

func isAboveAll(x impl.Tid, l []impl.Tid) bool {
	for _, y := range l {
		if orderOf(x, y) != 1 {
			return false
		}
	}
	return true
}

// checkNext holds an answer against what the document asks of the least tid above all.
func checkNext(t *testing.T, l []impl.Tid, epoch int) {
	t.Helper()
	x, ok := impl.NextTid(l, epoch)
	if !isAboveAll(impl.Tid{Epoch: epoch, Seq: impl.MaxSeq}, l) {
		if x != (impl.Tid{}) || ok {
			t.Errorf("%+v, %d: there is none, not %+v %v", l, epoch, x, ok)
		}
		return
	}
	if !ok || x.Epoch != epoch || x.Locked || x.Seq < 0 || x.Seq > impl.MaxSeq || !isAboveAll(x, l) {
		t.Errorf("%+v, %d: %+v %v", l, epoch, x, ok)
	}
	if x.Seq > 0 && isAboveAll(impl.Tid{Epoch: epoch, Seq: x.Seq - 1}, l) {
		t.Errorf("%+v, %d: %+v is not the least", l, epoch, x)
	}
}

func TestNextTidIsTheLeastAboveAll(t *testing.T) {
	l := edgeTids()
	for _, epoch := range []int{0, 1, 2, 3, 255, 256, 257, impl.MaxEpoch - 1, impl.MaxEpoch} {
		checkNext(t, nil, epoch)
		for i, a := range l {
			checkNext(t, []impl.Tid{a}, epoch)
			for _, b := range l[i:] {
				checkNext(t, []impl.Tid{a, b}, epoch)
				checkNext(t, []impl.Tid{b, a}, epoch)
				checkNext(t, []impl.Tid{b, {Seq: 7}, a}, epoch)
			}
		}
	}
}

func TestNextTid(t *testing.T) {
	for _, c := range []struct {
		name  string
		l     []impl.Tid
		epoch int
		want  impl.Tid
		ok    bool
	}{
		{"nothing given", nil, 0, impl.Tid{}, true},
		{"nothing given in an epoch", []impl.Tid{}, impl.MaxEpoch, impl.Tid{Epoch: impl.MaxEpoch}, true},
		{"all of older epochs", []impl.Tid{{Epoch: 4, Seq: impl.MaxSeq}}, 5, impl.Tid{Epoch: 5}, true},
		{"the greatest is the first", []impl.Tid{{Epoch: 5, Seq: 9, Locked: true}, {Epoch: 5, Seq: 2}}, 5, impl.Tid{Epoch: 5, Seq: 10}, true},
		{"the greatest is the last", []impl.Tid{{Epoch: 5, Seq: 2}, {Epoch: 5, Seq: 9}}, 5, impl.Tid{Epoch: 5, Seq: 10}, true},
		{"a great Seq of an older epoch", []impl.Tid{{Epoch: 4, Seq: 900}, {Epoch: 5}}, 5, impl.Tid{Epoch: 5, Seq: 1}, true},
		{"up to MaxSeq", []impl.Tid{{Epoch: 5, Seq: impl.MaxSeq - 1}}, 5, impl.Tid{Epoch: 5, Seq: impl.MaxSeq}, true},
		{"none above MaxSeq", []impl.Tid{{Epoch: 5, Seq: impl.MaxSeq}}, 5, impl.Tid{}, false},
		{"none below a newer epoch", []impl.Tid{{Epoch: 5}, {Epoch: 6}}, 5, impl.Tid{}, false},
		{"an epoch below 0", nil, -1, impl.Tid{}, false},
		{"an epoch above MaxEpoch", nil, impl.MaxEpoch + 1, impl.Tid{}, false},
		{"the least epoch of all", nil, math.MinInt, impl.Tid{}, false},
		{"the greatest epoch of all", []impl.Tid{{Epoch: 5}}, math.MaxInt, impl.Tid{}, false},
	} {
		if x, ok := impl.NextTid(c.l, c.epoch); x != c.want || ok != c.ok {
			t.Errorf("%s: %+v %v", c.name, x, ok)
		}
	}
}

func TestNextTidOfSixtyAndNoMore(t *testing.T) {
	l := make([]impl.Tid, 61)
	for i := range l {
		l[i] = impl.Tid{Epoch: 2, Seq: i}
	}
	if x, ok := impl.NextTid(l[:60], 2); x != (impl.Tid{Epoch: 2, Seq: 60}) || !ok {
		t.Error(x, ok)
	}
	if x, ok := impl.NextTid(l, 2); x != (impl.Tid{}) || ok {
		t.Error(x, ok)
	}
}
