package tests

import (
	"fmt"
	"slices"
	"testing"

	"loop.example/g00218/impl"
)

// checkLasting asks of a good fence whether what lasts is behind every member, and whether all is told as it is.
func checkLasting(t *testing.T, f impl.Fence) {
	t.Helper()
	lasting, ok := impl.LastingIn(f)
	if !ok || lasting != len(endedUpTo(f, f.Durable)) {
		t.Fatalf("%v: %d %v last", f, lasting, ok)
	}
	least, ok := impl.LeastEpoch(f)
	if !ok || f.Durable >= least {
		t.Fatalf("%v: the least Epoch is %d %v", f, least, ok)
	}
	found := false
	for _, m := range f.Members {
		found = found || m.Epoch == least
		if m.Epoch < least {
			t.Fatalf("%v: the least Epoch is not %d", f, least)
		}
		for _, epoch := range m.Running {
			if epoch <= f.Durable {
				t.Fatalf("%v: %d runs, and lasts", f, epoch)
			}
		}
	}
	if !found {
		t.Fatalf("%v: no member is in %d", f, least)
	}
}

func TestLastingIn(t *testing.T) {
	for _, c := range []struct {
		durable int
		ended   []int
		lasting int
	}{
		{2, nil, 0}, {2, []int{}, 0},
		{2, []int{2}, 1}, {2, []int{1}, 1}, {2, []int{3}, 0},
		{2, []int{1, 2, 3}, 2}, {2, []int{3, 2, 1}, 2}, {2, []int{3, 1, 6, 2, 4, 2}, 3},
		{2, []int{4, 5, 6}, 0}, {2, []int{1, 1, 2, 2}, 4},
		{0, []int{1, 2, 3}, 0}, {0, nil, 0}, {5, []int{1, 2, 3, 4, 5, 6}, 5},
		{2, slices.Repeat([]int{2}, 200), 200}, {2, slices.Repeat([]int{3}, 200), 0}, {2, slices.Repeat([]int{3, 2}, 100), 100},
		{2, slices.Repeat([]int{2}, 201), -1},
		{-1, []int{1}, -1}, {6, []int{1}, -1},
	} {
		f := aloneFence(6, c.durable)
		f.Ended = c.ended
		lasting, ok := impl.LastingIn(f)
		if c.lasting < 0 && (ok || lasting != 0) || c.lasting >= 0 && (!ok || lasting != c.lasting) {
			t.Errorf("%v: %d %v, not %d", f, lasting, ok, c.lasting)
		}
	}
	if n, ok := impl.LastingIn(plainFence()); n != 2 || !ok {
		t.Error(n, ok)
	}
}

func TestLeastEpoch(t *testing.T) {
	for _, c := range []struct {
		epochs []int
		least  int
	}{
		{[]int{3}, 3}, {[]int{6}, 6}, {[]int{4}, 4},
		{[]int{3, 5, 6}, 3}, {[]int{5, 3, 6}, 3}, {[]int{6, 5, 3}, 3}, {[]int{6, 4, 5}, 4},
		{[]int{6, 6, 6}, 6}, {[]int{5, 5}, 5}, {[]int{6, 5}, 5}, {[]int{4, 3, 4, 3, 5}, 3},
		{[]int{6, 6, 6, 6, 6, 6, 6, 5}, 5}, {[]int{5, 6, 6, 6, 6, 6, 6, 6}, 5},
		{nil, 0}, {[]int{2}, 0}, {[]int{7}, 0}, {[]int{6, 2}, 0}, {[]int{3, 7}, 0}, {slices.Repeat([]int{4}, 9), 0},
	} {
		f := impl.Fence{Epoch: 6, Durable: 2}
		for i, epoch := range c.epochs {
			f.Members = append(f.Members, impl.Member{Id: i, Epoch: epoch, Acked: 2})
		}
		if least, ok := impl.LeastEpoch(f); least != c.least || ok != (c.least > 0) {
			t.Errorf("%v: %d %v, not %d", f, least, ok, c.least)
		}
	}
}

// drawnFence is good, and need not come of any play.
func drawnFence(m *mixer) impl.Fence {
	epoch := []int{1, 2, 3, 6, 40, 999, 1000}[m.below(7)]
	f := impl.Fence{Epoch: epoch, Durable: max(0, epoch-1-m.below(5))}
	if m.below(6) == 0 {
		f.Durable = m.below(epoch)
	}
	atEnd := m.below(3) == 0
	least := 0
	for left := 1 + m.below(8); left > 0; left-- {
		id := least + m.below(2)*m.below(101-left-least)
		least = id + 1
		f.Members = append(f.Members, drawnMember(m, f, id, atEnd))
	}
	many := []int{0, 3, 30, 179, 180, 181, 198, 199, 200}[m.below(9)]
	for range many {
		f.Ended = append(f.Ended, max(1, min(epoch, f.Durable-3+m.below(7))))
	}
	return f
}

// drawnMember has acked all that it may where that is asked.
func drawnMember(m *mixer, f impl.Fence, id int, atEnd bool) impl.Member {
	own := impl.Member{Id: id, Epoch: f.Epoch, Acked: f.Epoch - 1}
	if !atEnd {
		own.Epoch = f.Durable + 1 + m.below(f.Epoch-f.Durable)
		if m.below(3) > 0 {
			own.Epoch = f.Epoch
		}
		own.Acked = f.Durable + m.below(own.Epoch-f.Durable)
	}
	for range []int{0, 0, 1, 2, 4, 19, 20}[m.below(7)] {
		running := own.Epoch
		if m.below(4) == 0 {
			running = own.Acked + 1 + m.below(own.Epoch-own.Acked)
		}
		own.Running = append(own.Running, running)
	}
	slices.Sort(own.Running)
	return own
}

// drawnFenceStep is one of a member, mostly.
func drawnFenceStep(m *mixer, f impl.Fence) impl.FenceStep {
	own := f.Members[m.below(len(f.Members))]
	s := impl.FenceStep{Kind: 1 + m.below(6), Id: own.Id, K: m.below(len(own.Running)+2) - 1}
	if m.below(10) == 0 {
		s.Id = m.below(102) - 1
	}
	return s
}

// Promise 12, for good fences that no play made.
func TestInGoodFencesLastingNeverGoesBack(t *testing.T) {
	did := make([]int, 7)
	more, jumped := 0, 0
	for seed := range 40000 {
		m := mixer(seed)
		f := drawnFence(&m)
		if !impl.GoodFence(f) || !goodFenceAgain(f) {
			t.Fatal(f, "is good")
		}
		checkLasting(t, f)
		for range 4 {
			s := drawnFenceStep(&m, f)
			left, ok := checkFenceStep(t, f, s)
			if !ok {
				continue
			}
			did[s.Kind]++
			checkLasting(t, left)
			before, _ := impl.LastingIn(f)
			behind, _ := impl.LastingIn(left)
			if behind > before {
				more++
			}
			if left.Durable > f.Durable+1 {
				jumped++
			}
			f = left
		}
	}
	// of fences that no play made, Durable may go on by more than one
	if slices.Min(did[1:]) < 2000 || more < 500 || jumped < 100 {
		t.Error(did, more, jumped)
	}
}

// Promise 12, for many drawn plays, behind each step.
func TestWhatLastsIsBehindEveryMember(t *testing.T) {
	several, lagged, lasted, refused, waits := 0, 0, 0, 0, 0
	for seed := range 5000 {
		members, l := somePlayOfFence(uint64(seed) + 9000)
		f, _ := impl.NewFence(members)
		var want []int
		for _, s := range l {
			ahead := f
			if left, ok := checkFenceStep(t, f, s); ok {
				f = left
			} else {
				refused++
				if s.Kind == impl.FenceAdvance {
					waits++
				}
			}
			checkLasting(t, f)
			if f.Durable < ahead.Durable || f.Durable > ahead.Durable+1 {
				t.Fatalf("%v: %v: %v", ahead, s, f)
			}
			want = append(want, f.Durable)
			if len(f.Members) > 1 {
				several++
			}
			if least, _ := impl.LeastEpoch(f); least < f.Epoch {
				lagged++
			}
		}
		n, _ := impl.LastingIn(f)
		lasted += n
		played, durable, ok := impl.PlayFence(members, l)
		if !ok || !sameFence(played, f) || !slices.Equal(durable, want) {
			t.Fatalf("%v: %v %v, not %v %v", l, played, durable, f, want)
		}
	}
	// the plays are no plays if nothing lasts, nobody lags, or nothing ever waits
	if several < 200000 || lagged < 50000 || lasted < 20000 || refused < 10000 || waits < 5000 {
		t.Error(several, lagged, lasted, refused, waits)
	}
}

// Once it is told that an epoch lasts, what was ended of it is all that ever will be, whatever follows.
func TestWhatLastsIsNotAddedToWhateverFollows(t *testing.T) {
	grew := 0
	for seed := range 2000 {
		m := mixer(seed)
		members := 1 + m.below(4)
		f, _ := impl.NewFence(members)
		lasts := map[int]int{}
		for range 300 {
			s := nextFenceStep(&m, f)
			if m.below(3) == 0 {
				s = impl.FenceStep{Kind: m.below(8), Id: m.below(members+2) - 1, K: m.below(6) - 1}
			}
			if left, ok := checkFenceStep(t, f, s); ok {
				f = left
			}
			checkLasting(t, f)
			lasts[f.Durable], _ = impl.LastingIn(f)
		}
		for durable, many := range lasts {
			if len(endedUpTo(f, durable)) != many {
				t.Fatalf("%v: %d of %d", f, many, durable)
			}
		}
		grew += len(lasts)
	}
	if grew < 10000 {
		t.Error(grew)
	}
}

// allFences goes through all that may come of so many members up to an epoch, with at most so many that run and were ended.
func allFences(t *testing.T, members, last, most int, see func(f impl.Fence)) int {
	start, ok := impl.NewFence(members)
	if !ok {
		t.Fatal(members)
	}
	seen := map[string]int{fmt.Sprint(start): 1}
	work := []impl.Fence{start}
	for len(work) > 0 {
		f := work[len(work)-1]
		work = work[:len(work)-1]
		see(f)
		many := len(f.Ended)
		for _, m := range f.Members {
			many += len(m.Running)
		}
		for _, s := range stepsOfAll(f) {
			left, ok := checkFenceStep(t, f, s)
			if !ok || left.Epoch > last || many >= most && s.Kind == impl.FenceBegin {
				continue
			}
			if text := fmt.Sprint(left); seen[text] == 0 {
				seen[text] = 1
				work = append(work, left)
			}
		}
	}
	return len(seen)
}

// Promise 12, for all that may come of a few members and a few things that they begin.
func TestOfAllSmallPlaysWhatLastsIsBehindEveryMember(t *testing.T) {
	for _, c := range []struct {
		members, last, most int
	}{
		{1, 5, 4}, {2, 4, 3}, {3, 4, 2},
	} {
		lasting := 0
		many := allFences(t, c.members, c.last, c.most, func(f impl.Fence) {
			checkLasting(t, f)
			if f.Durable != max(0, f.Epoch-2) {
				t.Fatal(f)
			}
			n, _ := impl.LastingIn(f)
			lasting += n
		})
		if many < 500 || lasting < 100 {
			t.Error(c, many, lasting)
		}
	}
}
