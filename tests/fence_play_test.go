package tests

import (
	"math"
	"slices"
	"testing"

	"loop.example/g00218/impl"
)

// somePlayOfFence is a play of several members that begin and end, lag and join and ack: most steps are done, and epochs come to last.
func somePlayOfFence(seed uint64) (int, []impl.FenceStep) {
	m := mixer(seed)
	members := 2 + m.below(3)
	if m.below(6) == 0 {
		members = 1 + m.below(8)
	}
	f, _ := impl.NewFence(members)
	var l []impl.FenceStep
	for range 30 + m.below(91) {
		s := nextFenceStep(&m, f)
		l = append(l, s)
		if left, ok := impl.StepFence(f, s); ok {
			f = left
		}
	}
	return members, l
}

// nextFenceStep is mostly one that brings the fence on: it ends what is old, joins and acks, and sometimes tries to advance too soon.
func nextFenceStep(m *mixer, f impl.Fence) impl.FenceStep {
	i := m.below(len(f.Members))
	own := f.Members[i]
	switch m.below(20) {
	case 0:
		return impl.FenceStep{Kind: m.below(8), Id: m.below(9), K: m.below(4) - 1}
	case 1:
		if m.below(6) == 0 {
			return impl.FenceStep{Kind: impl.FenceLeave, Id: own.Id}
		}
		return impl.FenceStep{Kind: impl.FenceAdvance}
	case 2, 3, 4, 5:
		return impl.FenceStep{Kind: impl.FenceBegin, Id: own.Id}
	case 6:
		return impl.FenceStep{Kind: impl.FenceEnd, Id: own.Id, K: m.below(len(own.Running) + 1)}
	}
	for _, own := range slices.Concat(f.Members[i:], f.Members[:i]) {
		switch {
		case own.Epoch < f.Epoch && m.below(2) == 0:
			return impl.FenceStep{Kind: impl.FenceJoin, Id: own.Id}
		case len(own.Running) > 0 && own.Running[0] < f.Epoch:
			return impl.FenceStep{Kind: impl.FenceEnd, Id: own.Id}
		case own.Epoch < f.Epoch:
			return impl.FenceStep{Kind: impl.FenceJoin, Id: own.Id}
		case own.Acked < f.Epoch-1:
			return impl.FenceStep{Kind: impl.FenceAck, Id: own.Id}
		}
	}
	return impl.FenceStep{Kind: impl.FenceAdvance}
}

func TestNewFence(t *testing.T) {
	for _, members := range []int{math.MinInt, -8, -1, 0, 9, 10, 100, 1 << 32, 1<<32 + 1, math.MaxInt} {
		if f, ok := impl.NewFence(members); ok || !isZeroFence(f) {
			t.Error(members, f, ok)
		}
	}
	for members := 1; members <= 8; members++ {
		f, ok := impl.NewFence(members)
		want := impl.Fence{Epoch: 1}
		for id := range members {
			want.Members = append(want.Members, impl.Member{Id: id, Epoch: 1})
		}
		if !ok || !sameFence(f, want) || !impl.GoodFence(f) {
			t.Error(members, f, ok)
		}
		checkLasting(t, f)
	}
}

// membersAt are those of a fence with nothing that runs, each by its Epoch and what it has acked.
func membersAt(epochAndAcked ...[2]int) []impl.Member {
	var l []impl.Member
	for id, at := range epochAndAcked {
		l = append(l, impl.Member{Id: id, Epoch: at[0], Acked: at[1]})
	}
	return l
}

func TestPlayFence(t *testing.T) {
	for _, c := range []struct {
		members int
		steps   string
		durable []int
		left    impl.Fence
	}{
		{1, "", nil, impl.Fence{Epoch: 1, Members: membersAt([2]int{1, 0})}},
		// what was ended lasts when its epoch is behind all
		{1, "b0 e0:0 v j0 a0 v", []int{0, 0, 0, 0, 0, 1}, impl.Fence{Epoch: 3, Durable: 1, Members: membersAt([2]int{2, 1}), Ended: []int{1}}},
		// and not while something of it runs
		{1, "b0 b0 e0:0 v j0 a0 v", []int{0, 0, 0, 0, 0, 0, 0}, impl.Fence{Epoch: 2, Members: []impl.Member{{Epoch: 2, Running: []int{1}}}, Ended: []int{1}}},
		// the first epoch needs no ack, the second one does
		{2, "v v", []int{0, 0}, impl.Fence{Epoch: 2, Members: membersAt([2]int{1, 0}, [2]int{1, 0})}},
		// one that lags holds all up, and begins in its old epoch
		{2, "v j1 a1 v b0 b1 j0 b0 e0:1 e1:0 a0 e0:0 a0 v v", []int{0, 0, 0, 0, 0, 0, 0, 0, 0, 0, 0, 0, 0, 1, 1}, impl.Fence{Epoch: 3, Durable: 1, Members: membersAt([2]int{2, 1}, [2]int{2, 1}), Ended: []int{2, 2, 1}}},
		// till it goes, with what runs there
		{2, "b0 v j1 a1 v l0 v j1 l1", []int{0, 0, 0, 0, 0, 0, 1, 1, 1}, impl.Fence{Epoch: 3, Durable: 1, Members: []impl.Member{{Id: 1, Epoch: 3, Acked: 1}}}},
		// steps that cannot be done, behind which all goes on as it was
		{2, "j0 e0:0 a0 b2 e0:-1 b0 e0:1 l2 v a0 j0 j0 a0 v e0:0 a0 a0 a1 j1 a1 l0 l1 v", []int{0, 0, 0, 0, 0, 0, 0, 0, 0, 0, 0, 0, 0, 0, 0, 0, 0, 0, 0, 0, 0, 0, 1}, impl.Fence{Epoch: 3, Durable: 1, Members: []impl.Member{{Id: 1, Epoch: 2, Acked: 1}}, Ended: []int{1}}},
		// three epochs one behind the other
		{1, "v j0 a0 v j0 a0 v j0 a0 v", []int{0, 0, 0, 1, 1, 1, 2, 2, 2, 3}, impl.Fence{Epoch: 5, Durable: 3, Members: membersAt([2]int{4, 3})}},
	} {
		f, durable, ok := impl.PlayFence(c.members, fenceSteps(c.steps))
		if !ok || !slices.Equal(durable, c.durable) || !sameFence(f, c.left) {
			t.Errorf("%s: %v %v, %+v is left", c.steps, durable, ok, f)
		}
	}
}

func TestPlayFenceOfWhatNewFenceRefuses(t *testing.T) {
	for _, members := range []int{math.MinInt, -1, 0, 1, 3, 8, 9, 1<<32 + 1, math.MaxInt} {
		for _, l := range [][]impl.FenceStep{nil, fenceSteps("v"), fenceSteps("v b0 e0:0 b9")} {
			f, durable, ok := impl.PlayFence(members, l)
			start, can := impl.NewFence(members)
			if ok != can || !can && (durable != nil || !isZeroFence(f)) {
				t.Error(members, f, durable, ok)
			}
			if can && (len(durable) != len(l) || len(l) == 0 && !sameFence(f, start) || len(l) == 4 && len(f.Ended) != 1) {
				t.Error(members, f, durable, ok)
			}
		}
	}
}

func TestPlayFenceHasALimit(t *testing.T) {
	for _, text := range []string{"b0", "v", "v j0 j1 a0 a1", "e0:0", "b0 e0:0"} {
		l := slices.Repeat(fenceSteps(text), 130)
		for _, many := range []int{0, 1, 119, 120} {
			if f, durable, ok := impl.PlayFence(2, l[:many]); !ok || len(durable) != many || len(f.Members) != 2 {
				t.Error(many, f, durable, ok)
			}
		}
		for _, many := range []int{121, 122, 130} {
			if f, durable, ok := impl.PlayFence(2, l[:many]); ok || durable != nil || !isZeroFence(f) {
				t.Error(many, f, durable, ok)
			}
		}
	}
	// the last step that there is room for counts
	l := slices.Concat(fenceSteps("v j0 a0"), slices.Repeat(fenceSteps("j0"), 116), fenceSteps("v"))
	if f, durable, ok := impl.PlayFence(1, l); !ok || len(l) != 120 || durable[119] != 1 || durable[118] != 0 || f.Epoch != 3 {
		t.Error(f, durable, ok)
	}
}

// At most 20 run at a member, however often it begins.
func TestPlayFenceRunsAtMostTwenty(t *testing.T) {
	l := slices.Repeat(fenceSteps("b0 b1 b1"), 30)
	f, _, ok := impl.PlayFence(2, l)
	if !ok || len(f.Members[0].Running) != 20 || len(f.Members[1].Running) != 20 || len(f.Ended) != 0 {
		t.Error(f, ok)
	}
	f, _, ok = impl.PlayFence(1, slices.Repeat(fenceSteps("b0 e0:0"), 60))
	if !ok || len(f.Ended) != 60 || len(f.Members[0].Running) != 0 {
		t.Error(f, ok)
	}
}

// A play is its steps one by one, each that can be done.
func TestPlayFenceIsItsSteps(t *testing.T) {
	for seed := range 1000 {
		members, l := somePlayOfFence(uint64(seed))
		f, _ := impl.NewFence(members)
		var want []int
		for i, s := range l {
			if left, ok := checkFenceStep(t, f, s); ok {
				f = left
			}
			want = append(want, f.Durable)
			if i%40 == 7 || i == len(l)-1 {
				played, durable, ok := impl.PlayFence(members, l[:i+1])
				if !ok || !sameFence(played, f) || !slices.Equal(durable, want) {
					t.Fatalf("%v: %v %v, not %v %v", l[:i+1], played, durable, f, want)
				}
			}
		}
	}
}
