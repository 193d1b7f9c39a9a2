package tests

import (
	"fmt"
	"math"
	"slices"
	"testing"

	"loop.example/g00218/impl"
)

// fenceAnswers asks all functions of a fence, and tells what they answered as one text.
func fenceAnswers(f impl.Fence, s impl.FenceStep) string {
	left, ok1 := impl.StepFence(f, s)
	lasting, ok2 := impl.LastingIn(f)
	least, ok3 := impl.LeastEpoch(f)
	return fmt.Sprint(impl.GoodFence(f), left, ok1, lasting, ok2, least, ok3)
}

// someFences are good ones, at the edges, played and drawn ones, and some that are not.
func someFences() []impl.Fence {
	l := []impl.Fence{{}, plainFence(), aloneFence(1, 0), ackedFence(8, 6, 4), runsMany(20, 180), runsMany(1, 199)}
	for _, c := range append(goodFenceChanges(), badFenceChanges()...) {
		l = append(l, changedFence(c))
	}
	for seed := range 30 {
		members, steps := somePlayOfFence(uint64(seed))
		f, _, _ := impl.PlayFence(members, steps)
		half, _, _ := impl.PlayFence(members, steps[:len(steps)/4])
		m := mixer(seed)
		l = append(l, f, half, drawnFence(&m))
	}
	return l
}

// wholeFence is the fence with all that lies behind the lengths of its lists.
func wholeFence(f impl.Fence) impl.Fence {
	f.Members, f.Ended = f.Members[:cap(f.Members)], f.Ended[:cap(f.Ended)]
	f = deepFence(f)
	for i, m := range f.Members {
		f.Members[i].Running = slices.Clone(m.Running[:cap(m.Running)])
	}
	return f
}

// roomyFence is the fence with room behind each list, where something lies that must not matter.
func roomyFence(f impl.Fence, n int) impl.Fence {
	f = deepFence(f)
	for i, m := range f.Members {
		f.Members[i].Running = append(m.Running, n, n, n)[:len(m.Running)]
	}
	other := impl.Member{Id: n, Epoch: n, Running: []int{n}, Acked: n - 1}
	f.Members = append(f.Members, other, other)[:len(f.Members)]
	f.Ended = append(f.Ended, n, n, n)[:len(f.Ended)]
	return f
}

func fenceSpans(f impl.Fence, what string) []span {
	spans := []span{spanOf(f.Members, what+"'s members"), spanOf(f.Ended, what+"'s ended")}
	for _, m := range f.Members {
		spans = append(spans, spanOf(m.Running, fmt.Sprint(what, "'s running at ", m.Id)))
	}
	return spans
}

func TestNoFenceIsWrittenInto(t *testing.T) {
	for _, f := range someFences() {
		old := deepFence(f)
		for _, s := range manyFenceSteps() {
			fenceAnswers(f, s)
		}
		if !sameFence(f, old) {
			t.Errorf("%v became %v", old, f)
		}
	}
}

func TestNoStepOfAFenceIsWrittenInto(t *testing.T) {
	for seed := range 100 {
		members, l := somePlayOfFence(uint64(seed))
		old := slices.Clone(l)
		impl.PlayFence(members, l)
		if !slices.Equal(l, old) {
			t.Errorf("%v became %v", old, l)
		}
	}
}

// Whatever lies behind the lengths, good or bad, is neither read nor written nor handed out.
func TestFencesKeepToTheirLengths(t *testing.T) {
	for _, f := range someFences() {
		var want []string
		for _, s := range manyFenceSteps() {
			want = append(want, fenceAnswers(f, s))
		}
		for _, n := range []int{-1, 0, 6, 2000} {
			long := roomyFence(f, n)
			old := wholeFence(long)
			for i, s := range manyFenceSteps() {
				if got := fenceAnswers(long, s); got != want[i] {
					t.Fatalf("%v: %s, not %s", f, got, want[i])
				}
			}
			if !sameFence(wholeFence(long), old) {
				t.Fatalf("%v became %v", old, wholeFence(long))
			}
		}
	}
	steps := fenceSteps("b0 v j0")
	if f, durable, ok := impl.PlayFence(1, steps[:2]); !ok || len(durable) != 2 || f.Epoch != 2 || f.Members[0].Epoch != 1 {
		t.Error(f, durable, ok)
	}
	if _, durable, ok := impl.PlayFence(1, slices.Repeat(steps, 50)[:120]); len(durable) != 120 || !ok {
		t.Error(durable, ok)
	}
}

// stepsOfAll are a step of each kind of each member, and of each that runs there.
func stepsOfAll(f impl.Fence) []impl.FenceStep {
	l := fenceSteps("v")
	for _, m := range f.Members {
		for _, kind := range []int{impl.FenceBegin, impl.FenceAck, impl.FenceLeave, impl.FenceJoin} {
			l = append(l, impl.FenceStep{Kind: kind, Id: m.Id})
		}
		for k := range m.Running {
			l = append(l, impl.FenceStep{Kind: impl.FenceEnd, Id: m.Id, K: k})
		}
	}
	return l
}

func TestFencesAreNewMemory(t *testing.T) {
	for _, f := range someFences() {
		given := roomyFence(f, 6)
		spans := fenceSpans(given, "given")
		for _, s := range stepsOfAll(given) {
			left, ok := impl.StepFence(given, s)
			if !ok {
				continue
			}
			checkNew(t, fenceSpans(left, "left"), spans)
			// and what follows from an answer lies apart from it
			for _, s := range stepsOfAll(left)[:3] {
				if next, ok := impl.StepFence(left, s); ok {
					checkNew(t, fenceSpans(next, "next"), fenceSpans(left, "left"))
				}
			}
		}
	}
}

func TestWhatPlayFenceTellsIsNewMemory(t *testing.T) {
	for seed := range 100 {
		members, l := somePlayOfFence(uint64(seed))
		f, durable, _ := impl.PlayFence(members, l)
		other, otherDurable, _ := impl.PlayFence(members, l)
		given := append(fenceSpans(other, "other"), spanOf(l, "steps"), spanOf(otherDurable, "other durable"))
		checkNew(t, append(fenceSpans(f, "fence"), spanOf(durable, "durable")), given)
		a, _ := impl.NewFence(members)
		b, _ := impl.NewFence(members)
		checkNew(t, fenceSpans(a, "new"), fenceSpans(b, "another"))
	}
}

// Lists of the argument that lie in one memory do not bring those of the answer together.
func TestFencesThatShareMemoryAreParted(t *testing.T) {
	shared := []int{5, 5, 5, 5, 5, 5}
	f := impl.Fence{Epoch: 6, Durable: 2, Ended: shared[:4]}
	for i := range 3 {
		f.Members = append(f.Members, impl.Member{Id: i, Epoch: 5 + i%2, Running: shared[i : i+3], Acked: 4})
	}
	old := deepFence(f)
	for _, s := range fenceSteps("b0 b1 b2 e0:0 e1:1 e2:2 l0 l1 l2 j0 j2") {
		left, ok := checkFenceStep(t, f, s)
		if checkNew(t, fenceSpans(left, "left"), append(fenceSpans(f, "given"), spanOf(shared, "shared"))); !ok {
			t.Error(s, ok)
		}
	}
	if !sameFence(f, old) || !slices.Equal(shared, slices.Repeat([]int{5}, 6)) {
		t.Error(f, shared)
	}
}

// Two answers to one question lie apart: one may be written into.
func TestTwoAnswersOfFencesShareNoMemory(t *testing.T) {
	for range 2 {
		fresh, _ := impl.NewFence(2)
		left, _ := impl.StepFence(plainFence(), fenceStep("e40:1"))
		played, durable, _ := impl.PlayFence(2, fenceSteps("b0 b1 b1 e1:0 v"))
		if !sameFence(fresh, impl.Fence{Epoch: 1, Members: membersAt([2]int{1, 0}, [2]int{1, 0})}) {
			t.Error(fresh)
		}
		if !slices.Equal(left.Ended, []int{1, 4, 2, 6, 3, 5}) || !slices.Equal(left.Members[2].Running, []int{4, 5, 6}) {
			t.Error(left)
		}
		if !slices.Equal(durable, make([]int, 5)) || !slices.Equal(played.Ended, []int{1}) || !slices.Equal(played.Members[1].Running, []int{1}) {
			t.Error(played, durable)
		}
		for _, f := range []impl.Fence{fresh, left, played} {
			spoilLists(f)
		}
		for i := range durable {
			durable[i] = -7
		}
	}
}

// spoilLists writes into all that a fence has, and into the room behind it.
func spoilLists(f impl.Fence) {
	lists := [][]int{f.Ended}
	for _, m := range f.Members {
		lists = append(lists, m.Running)
	}
	for _, l := range lists {
		l = l[:cap(l)]
		for i := range l {
			l[i] = -7
		}
	}
	members := f.Members[:cap(f.Members)]
	for i := range members {
		members[i] = impl.Member{Id: -7}
	}
}

// What was asked before does not matter: nothing is kept from call to call.
func TestFencesAreAnsweredAlikeAgain(t *testing.T) {
	var first []string
	all := someFences()
	for _, f := range all {
		first = append(first, fenceAnswers(f, fenceStep("b7")))
	}
	for i, f := range slices.Backward(all) {
		if got := fenceAnswers(f, fenceStep("b7")); got != first[i] {
			t.Errorf("%v: %s, and %s at first", f, got, first[i])
		}
	}
}

// Members stand in a map while a step is taken: the order in which it is gone through is another one each time, and is not to be seen.
func TestNoOrderOfAMapShows(t *testing.T) {
	many := ackedFence(8, 6, 4)
	lacking := ackedFence(8, 6, 4)
	lacking.Members[3].Acked = 4
	for _, f := range []impl.Fence{many, lacking, plainFence()} {
		for _, s := range stepsOfAll(f) {
			first := fenceAnswers(f, s)
			for range 30 {
				if got := fenceAnswers(f, s); got != first {
					t.Fatalf("%v: %v: %s, and %s at first", f, s, got, first)
				}
			}
			left, ok := impl.StepFence(f, s)
			if ok && !slices.IsSortedFunc(left.Members, func(a, b impl.Member) int { return a.Id - b.Id }) {
				t.Fatalf("%v: %v: %v", f, s, left)
			}
		}
	}
	for seed := range 40 {
		members, l := somePlayOfFence(uint64(seed))
		f, durable, _ := impl.PlayFence(members, l)
		for range 10 {
			if again, told, ok := impl.PlayFence(members, l); !ok || !sameFence(again, f) || !slices.Equal(told, durable) {
				t.Fatalf("%v: %v %v, and %v %v at first", l, again, told, f, durable)
			}
		}
	}
}

// Fences of anything at all are answered, and those that are not good by the zero answer.
func TestFencesOfAnything(t *testing.T) {
	numbers := []int{math.MinInt, math.MinInt + 1, -2, -1, 0, 1, 2, 3, 5, 6, 7, 39, 40, 41, 99, 100, 999, 1000, 1001, 1 << 32, math.MaxInt - 1, math.MaxInt}
	good, bad, did := 0, 0, 0
	for seed := range 60000 {
		m := mixer(seed)
		number := func() int { return numbers[m.below(len(numbers))] }
		f := drawnFence(&m)
		s := drawnFenceStep(&m, f)
		for range m.below(3) {
			spoilFence(&m, &f, number())
		}
		if m.below(4) == 0 {
			s = impl.FenceStep{Kind: number(), Id: number(), K: number()}
		}
		want := goodFenceAgain(f)
		if impl.GoodFence(f) != want {
			t.Fatalf("%v: not %v", f, want)
		}
		if want {
			good++
			checkLasting(t, f)
		} else {
			bad++
			lasting, ok1 := impl.LastingIn(f)
			least, ok2 := impl.LeastEpoch(f)
			if ok1 || ok2 || lasting != 0 || least != 0 {
				t.Fatalf("%v: %d %v %d %v", f, lasting, ok1, least, ok2)
			}
		}
		if _, ok := checkFenceStep(t, f, s); ok {
			did++
		}
		impl.PlayFence(number(), slices.Repeat([]impl.FenceStep{s}, m.below(130)))
	}
	if good < 10000 || bad < 10000 || did < 5000 {
		t.Error(good, bad, did)
	}
}

// spoilFence puts a number, or another length, at one place.
func spoilFence(m *mixer, f *impl.Fence, n int) {
	own := &f.Members[m.below(len(f.Members))]
	switch m.below(9) {
	case 0:
		f.Epoch = n
	case 1:
		f.Durable = n
	case 2:
		own.Id = n
	case 3:
		own.Epoch = n
	case 4:
		own.Acked = n
	case 5:
		own.Running = append(own.Running, n)
	case 6:
		if len(own.Running) > 0 {
			own.Running[m.below(len(own.Running))] = n
		}
	case 7:
		f.Members = append(f.Members, *own)
	case 8:
		f.Ended = append(f.Ended, n)
	}
}
