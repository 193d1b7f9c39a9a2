package tests

import (
	"math"
	"slices"
	"testing"

	"loop.example/g00218/impl"
)

func TestPlayStore(t *testing.T) {
	const ok, bad, locked, gone, full = impl.OccOk, impl.OccBad, impl.OccLocked, impl.OccChanged, impl.OccFull
	for _, c := range []struct {
		steps string
		codes []int
		left  string
	}{
		{"", nil, ""},
		{"b", []int{ok}, "1R[]{}"},
		{"b w1a=1 l1 c1 i1", []int{ok, ok, ok, ok, ok}, "a=1@1.0 1D[]{a=1}@1.0 1"},
		{"b b w1a=1 l1 r2a w2a=2 l2 c1 l2 i1 l2 c2 i2", []int{ok, ok, ok, ok, locked, ok, locked, ok, locked, ok, ok, ok, ok}, "a=2@1.1 1D[]{a=1}@1.0 2D[]{a=2}@1.1 1 2"},
		{"b b r1a w1a=1 w2a=2 l2 c2 l1 i2 l1 c1 c1", []int{ok, ok, ok, ok, ok, ok, ok, locked, ok, ok, gone, bad}, "a=2@1.0 1G[a=@0.0]{a=1} 2D[]{a=2}@1.0 2"},
		// steps that are bad, after which all goes on as it was
		{"r1a b b1 r1A ?1 w1a=; i1 c1 l2 w1a=x g1 g1", []int{bad, ok, bad, bad, bad, bad, bad, bad, bad, ok, ok, bad}, "1G[]{a=x}"},
	} {
		s, codes, good := impl.PlayStore(1, steps(c.steps))
		if !good || s.Epoch != 1 || !slices.Equal(codes, c.codes) || told(s) != c.left {
			t.Errorf("%s: %v %v, %s is left", c.steps, codes, good, told(s))
		}
	}
	var begins []impl.Step
	for range 22 {
		begins = append(begins, impl.Step{Kind: impl.DoBegin})
	}
	if s, codes, good := impl.PlayStore(1, begins); !good || len(s.Txns) != 20 || !slices.Equal(codes[18:], []int{ok, ok, full, full}) {
		t.Error(codes, good, told(s))
	}
}

func TestPlayStoreOfEpochs(t *testing.T) {
	for _, epoch := range []int{math.MinInt, -1, 0, 1, 2, 999, 1000, 1001, impl.MaxEpoch, math.MaxInt} {
		s, codes, ok := impl.PlayStore(epoch, steps("b w1a=1 l1 c1 i1"))
		if epoch < 1 || epoch > 1000 {
			if ok || len(codes) != 0 || !sameStore(s, impl.Store{}) {
				t.Error(epoch, codes, ok, told(s))
			}
		} else if r, found := impl.LookUp(s, "a"); !ok || len(codes) != 5 || s.Epoch != epoch || !found || r.Tid != tidOf(epoch, 0) {
			t.Error(epoch, codes, ok, told(s))
		}
		if s, codes, ok := impl.PlayStore(epoch, nil); ok != (epoch >= 1 && epoch <= 1000) || len(codes) != 0 || ok && !sameStore(s, impl.Store{Epoch: epoch}) {
			t.Error(epoch, codes, ok, told(s))
		}
	}
}

func TestPlayStoreHasALimit(t *testing.T) {
	for _, word := range []string{"b", "?", "r1a"} {
		for _, n := range []int{119, 120, 121, 122, 5000} {
			s, codes, ok := impl.PlayStore(1, slices.Repeat(steps(word), n))
			if n <= 120 {
				if !ok || len(codes) != n {
					t.Error(word, n, codes, ok)
				}
			} else if ok || len(codes) != 0 || !sameStore(s, impl.Store{}) {
				t.Error(word, n, codes, ok, told(s))
			}
		}
	}
}

func TestLookUp(t *testing.T) {
	s := mixedStore()
	for _, r := range s.Records {
		if got, ok := impl.LookUp(s, r.Key); got != r || !ok {
			t.Errorf("%s: %+v %v", r.Key, got, ok)
		}
	}
	for _, key := range append(badKeys(), "0", "ab", "f", "z", "zzzzzzzz") {
		if got, ok := impl.LookUp(s, key); got != (impl.Record{}) || ok {
			t.Errorf("%q: %+v %v", key, got, ok)
		}
	}
	for _, key := range append(goodKeys(), "") {
		if got, ok := impl.LookUp(impl.Store{Epoch: 1}, key); got != (impl.Record{}) || ok {
			t.Errorf("%q: %+v %v", key, got, ok)
		}
	}
	full := impl.Store{Epoch: 1, Records: manyRecords(40)}
	for _, r := range full.Records {
		if got, ok := impl.LookUp(full, r.Key); got != r || !ok {
			t.Errorf("%s: %+v %v", r.Key, got, ok)
		}
	}
}

func TestMapOf(t *testing.T) {
	s := mixedStore()
	if l, ok := impl.MapOf(s); !ok || !slices.Equal(l, []impl.Cell{{Key: "a", Value: "1"}, {Key: "c", Value: "old"}, {Key: "e", Value: "x"}}) {
		t.Error(l, ok)
	}
	if l, ok := impl.MapOf(impl.Store{Epoch: 1}); !ok || len(l) != 0 {
		t.Error(l, ok)
	}
	// tid 0, 0 alone is left out, locked or not, and an empty value that has another one is not
	for _, c := range []struct {
		tid  impl.Tid
		many int
	}{{tidOf(0, 0), 0}, {tidOf(0, 1), 1}, {tidOf(1, 0), 1}, {tidOf(5, 5), 1}} {
		for _, owned := range []bool{false, true} {
			s := storeAt(5, c.tid, false, owned)
			s.Records[0].Value = ""
			if l, ok := impl.MapOf(s); !ok || len(l) != c.many || c.many == 1 && l[0] != (impl.Cell{Key: "a"}) {
				t.Error(c, owned, l, ok)
			}
		}
	}
	if l, ok := impl.MapOf(impl.Store{Epoch: 1, Records: manyRecords(40)}); !ok || len(l) != 40 || l[39] != (impl.Cell{Key: "k039", Value: "k039"}) {
		t.Error(l, ok)
	}
}

func TestReplayOrder(t *testing.T) {
	s := played(t, "b w1b=1 w1a=1 b w2c=2 w2a=2 b w3b=3 b w4b=4 l3 c3 i3 l1 c1 i1 l2 c2")
	wanted := []string{"", "b=3", "a=1 b=1", "a=2 b=1 c=2"}
	for many, want := range wanted {
		l, ok := impl.ReplayOrder(s, many)
		if got := cellsText(l); !ok || got != want {
			t.Errorf("%d: %s %v", many, got, ok)
		}
	}
	for _, many := range []int{-1, 4, 5, 20, math.MinInt, math.MaxInt} {
		if l, ok := impl.ReplayOrder(s, many); ok || len(l) != 0 {
			t.Errorf("%d: %v %v", many, l, ok)
		}
	}
	// what is behind a length is not of the order
	s.Order = append(s.Order, 4)[:3]
	if l, ok := impl.ReplayOrder(s, 4); ok || len(l) != 0 {
		t.Error(l, ok)
	}
	if l, ok := impl.ReplayOrder(impl.Store{Epoch: 1}, 0); !ok || len(l) != 0 {
		t.Error(l, ok)
	}
	if l, ok := impl.ReplayOrder(impl.Store{Epoch: 1}, 1); ok || len(l) != 0 {
		t.Error(l, ok)
	}
}

// A value that was written empty is there; of a store that holds no record of it the Writes tell alone.
func TestReplayOrderTellsWhatWasWritten(t *testing.T) {
	s := played(t, "b w1a=1 l1 c1 i1 b w2a= l2 c2 i2")
	if l, ok := impl.ReplayOrder(s, 2); !ok || !slices.Equal(l, []impl.Cell{{Key: "a"}}) {
		t.Error(l, ok)
	}
	s.Records = nil
	if l, ok := impl.ReplayOrder(s, 1); !ok || !slices.Equal(l, []impl.Cell{{Key: "a", Value: "1"}}) {
		t.Error(l, ok)
	}
	s.Txns[1].Writes = manyWrites(300)
	if l, ok := impl.ReplayOrder(s, 2); !ok || len(l) != 301 || !slices.Equal(l[1:], manyWrites(300)) {
		t.Error(l, ok)
	}
}

func cellsText(l []impl.Cell) string {
	text := ""
	for i, c := range l {
		if i > 0 {
			text += " "
		}
		text += c.Key + "=" + c.Value
	}
	return text
}

func TestAdvanceEpoch(t *testing.T) {
	for _, epoch := range []int{7, 8, 500, 998, 999, 1000} {
		s := mixedStore()
		s.Epoch = epoch
		left, ok := impl.AdvanceEpoch(s)
		want := deepStore(s)
		want.Epoch++
		if epoch == 1000 {
			want = impl.Store{}
		}
		if ok != (epoch < 1000) || !sameStore(left, want) {
			t.Errorf("%d: %d %v, %s is left", epoch, left.Epoch, ok, told(left))
		}
	}
	for _, epoch := range []int{-1, 0, 1, 1001} {
		if left, ok := impl.AdvanceEpoch(impl.Store{Epoch: epoch}); ok != (epoch == 1) || ok && left.Epoch != 2 || !ok && left.Epoch != 0 {
			t.Error(epoch, left, ok)
		}
	}
}

// Tids of a later epoch begin anew, and are greater than all of the one ahead.
func TestStepsInALaterEpoch(t *testing.T) {
	s := played(t, "b w1a=1 l1 c1 i1 b w2a=2 l2 c2 i2 b r3a b r4a w4a=4")
	s, _ = impl.AdvanceEpoch(s)
	s, _, code := mustPlay(t, s, steps("l3 c3 l4 c4 i4")...)
	if code != impl.OccOk || told(s) != "a=4@2.0 1D[]{a=1}@1.0 2D[]{a=2}@1.1 3C[a=2@1.1]{}@2.0 4D[a=2@1.1]{a=4}@2.0 1 2 3 4" {
		t.Error(code, told(s))
	}
}
