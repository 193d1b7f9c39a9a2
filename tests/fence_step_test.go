package tests

import (
	"fmt"
	"math"
	"slices"
	"strings"
	"testing"

	"loop.example/g00218/impl"
)

// fenceSteps are steps as a text: b0 begins something at member 0, e0:1 ends what is Running there at 1, a0 acks, v advances, l0 leaves, j0 joins.
func fenceSteps(text string) []impl.FenceStep {
	var l []impl.FenceStep
	for _, word := range strings.Fields(text) {
		s := impl.FenceStep{Kind: 1 + strings.IndexByte("beavlj", word[0])}
		var err error
		switch s.Kind {
		case impl.FenceEnd:
			_, err = fmt.Sscanf(word[1:], "%d:%d", &s.Id, &s.K)
		case impl.FenceAdvance:
		default:
			_, err = fmt.Sscanf(word[1:], "%d", &s.Id)
		}
		if err != nil || s.Kind == 0 {
			panic(word)
		}
		l = append(l, s)
	}
	return l
}

func fenceStep(text string) impl.FenceStep {
	return fenceSteps(text)[0]
}

// manyFenceSteps are steps of all kinds of any member with any K, good ones and others.
func manyFenceSteps() []impl.FenceStep {
	var l []impl.FenceStep
	for _, kind := range []int{math.MinInt, -1, 0, 1, 2, 3, 4, 5, 6, 7, math.MaxInt} {
		for _, id := range []int{math.MinInt, -1, 0, 1, 3, 7, 40, 99, 100, math.MaxInt} {
			for _, k := range []int{math.MinInt, -1, 0, 1, 3, 4, 20, math.MaxInt} {
				l = append(l, impl.FenceStep{Kind: kind, Id: id, K: k})
			}
		}
	}
	return l
}

// fenceStepAgain tells the document's words a second time.
func fenceStepAgain(f impl.Fence, s impl.FenceStep) (impl.Fence, bool) {
	if !goodFenceAgain(f) {
		return impl.Fence{}, false
	}
	f = deepFence(f)
	at := slices.IndexFunc(f.Members, func(m impl.Member) bool { return m.Id == s.Id })
	lacks := func(m impl.Member) bool { return m.Acked < f.Epoch-1 }
	if s.Kind == 4 {
		if slices.ContainsFunc(f.Members, lacks) || f.Epoch == 1000 {
			return impl.Fence{}, false
		}
		f.Epoch, f.Durable = f.Epoch+1, f.Epoch-1
		return f, true
	}
	if at < 0 {
		return impl.Fence{}, false
	}
	m := &f.Members[at]
	old := func(epoch int) bool { return epoch < f.Epoch }
	switch {
	case s.Kind == 1 && len(m.Running) < 20 && len(m.Running)+len(f.Ended) < 200:
		m.Running = append(m.Running, m.Epoch)
	case s.Kind == 2 && s.K >= 0 && s.K < len(m.Running) && len(f.Ended) < 200:
		f.Ended = append(f.Ended, m.Running[s.K])
		m.Running = slices.Concat(m.Running[:s.K], m.Running[s.K+1:])
	case s.Kind == 3 && m.Epoch == f.Epoch && lacks(*m) && !slices.ContainsFunc(m.Running, old):
		m.Acked = f.Epoch - 1
	case s.Kind == 5 && len(f.Members) > 1:
		f.Members = slices.Concat(f.Members[:at], f.Members[at+1:])
	case s.Kind == 6 && m.Epoch < f.Epoch:
		m.Epoch = f.Epoch
	default:
		return impl.Fence{}, false
	}
	return f, true
}

// endedUpTo are what was ended of the epochs up to one.
func endedUpTo(f impl.Fence, epoch int) []int {
	return slices.DeleteFunc(slices.Clone(f.Ended), func(n int) bool { return n > epoch })
}

// checkFenceStep holds a step against the document's words, and against promise 12: what is left is good, what lasts stays so, and nothing is added to it from behind.
func checkFenceStep(t *testing.T, f impl.Fence, s impl.FenceStep) (impl.Fence, bool) {
	t.Helper()
	left, ok := impl.StepFence(f, s)
	want, wantOk := fenceStepAgain(f, s)
	if ok != wantOk || !sameFence(left, want) {
		t.Fatalf("%v: %v: %v %v, not %v %v", f, s, left, ok, want, wantOk)
	}
	if !ok {
		if !isZeroFence(left) {
			t.Fatalf("%v: %v: %v", f, s, left)
		}
		return left, ok
	}
	if !impl.GoodFence(left) || left.Epoch < f.Epoch || left.Durable < f.Durable {
		t.Fatalf("%v: %v: %v", f, s, left)
	}
	if len(left.Ended) < len(f.Ended) || !slices.Equal(left.Ended[:len(f.Ended)], f.Ended) {
		t.Fatalf("%v: %v: %v: what was ended is not kept", f, s, left)
	}
	lasted, ok1 := impl.LastingIn(f)
	lasts, ok2 := impl.LastingIn(left)
	if !ok1 || !ok2 || lasts < lasted || !slices.Equal(endedUpTo(left, f.Durable), endedUpTo(f, f.Durable)) {
		t.Fatalf("%v: %v: %v: %d lasted, and %d do", f, s, left, lasted, lasts)
	}
	return left, ok
}

// A fenceCase is a step, and what it does to a fence: nothing where put is nil.
type fenceCase struct {
	why   string
	given impl.Fence
	step  impl.FenceStep
	put   func(f *impl.Fence)
}

func checkFenceCases(t *testing.T, cases []fenceCase) {
	t.Helper()
	for _, c := range cases {
		if !impl.GoodFence(c.given) {
			t.Fatalf("%s: %v is not good", c.why, c.given)
		}
		left, ok := checkFenceStep(t, c.given, c.step)
		want := impl.Fence{}
		if c.put != nil {
			want = deepFence(c.given)
			c.put(&want)
		}
		if ok != (c.put != nil) || !sameFence(left, want) {
			t.Errorf("%s: %v: %v: %v %v, not %v", c.why, c.given, c.step, left, ok, want)
		}
	}
}

func TestStepFenceOfNoKind(t *testing.T) {
	advancing := aloneFence(6, 2)
	advancing.Members[0].Acked = 5
	for _, f := range []impl.Fence{plainFence(), advancing} {
		for _, kind := range []int{math.MinInt, -1, 0, 7, 8, math.MaxInt, 1 << 32, 1<<32 + 4} {
			for _, id := range []int{-1, 0, 1, 3, 7, 40} {
				for k := -1; k <= 4; k++ {
					if left, ok := checkFenceStep(t, f, impl.FenceStep{Kind: kind, Id: id, K: k}); ok {
						t.Error(kind, id, k, left)
					}
				}
			}
		}
	}
}

func TestStepFenceOfNoMember(t *testing.T) {
	for _, kind := range []int{impl.FenceBegin, impl.FenceEnd, impl.FenceAck, impl.FenceLeave, impl.FenceJoin} {
		for _, id := range []int{math.MinInt, -1, 1, 2, 6, 8, 39, 41, 99, 100, math.MaxInt, 1 << 32, 1<<32 + 7} {
			if left, ok := checkFenceStep(t, plainFence(), impl.FenceStep{Kind: kind, Id: id}); ok {
				t.Error(kind, id, left)
			}
		}
	}
}

// runsMany has many that run at its second member, and as many that were ended.
func runsMany(running, ended int) impl.Fence {
	f := plainFence()
	f.Members[1].Running = slices.Repeat([]int{6}, running)
	f.Ended = slices.Repeat([]int{1, 6, 2, 3}, 60)[:ended]
	return f
}

func TestStepFenceBegins(t *testing.T) {
	begun := func(at int, running ...int) func(f *impl.Fence) {
		return func(f *impl.Fence) { f.Members[at].Running = running }
	}
	more := func(f *impl.Fence) { f.Members[1].Running = append(f.Members[1].Running, 6) }
	lagging := plainFence()
	lagging.Members[2] = impl.Member{Id: 40, Epoch: 5, Running: []int{3, 3, 4}, Acked: 2}
	elsewhere := runsMany(1, 180)
	elsewhere.Members[2].Running = slices.Repeat([]int{5}, 20)
	checkFenceCases(t, []fenceCase{
		{"the first one, in its own Epoch", plainFence(), fenceStep("b0"), begun(0, 4, 4)},
		{"one between", plainFence(), fenceStep("b7"), begun(1, 6, 6, 6)},
		{"the last one, behind all", plainFence(), fenceStep("b40"), begun(2, 4, 5, 5, 6, 6)},
		{"behind older ones, not in the fence's Epoch", lagging, fenceStep("b40"), begun(2, 3, 3, 4, 5)},
		{"nothing runs there", aloneFence(1, 0), fenceStep("b3"), begun(0, 1)},
		{"nothing runs there, the last Epoch", aloneFence(1000, 0), fenceStep("b3"), begun(0, 1000)},
		{"K does not matter", plainFence(), impl.FenceStep{Kind: impl.FenceBegin, Id: 0, K: -1}, begun(0, 4, 4)},
		{"K does not matter", plainFence(), impl.FenceStep{Kind: impl.FenceBegin, Id: 0, K: math.MaxInt}, begun(0, 4, 4)},
		{"19 run there", runsMany(19, 5), fenceStep("b7"), more},
		{"20 run there", runsMany(20, 5), fenceStep("b7"), nil},
		{"20 run there, nothing was ended", runsMany(20, 0), fenceStep("b7"), nil},
		{"20 run elsewhere", runsMany(20, 5), fenceStep("b0"), begun(0, 4, 4)},
		{"199 were ended", runsMany(0, 199), fenceStep("b7"), more},
		{"200 were ended", runsMany(0, 200), fenceStep("b7"), nil},
		{"199 with all that was ended", runsMany(1, 198), fenceStep("b7"), more},
		{"200 with all that was ended", runsMany(1, 199), fenceStep("b7"), nil},
		{"201 with all that was ended", runsMany(1, 200), fenceStep("b7"), nil},
		{"199 with all that was ended", runsMany(19, 180), fenceStep("b7"), more},
		{"200 with all that was ended", runsMany(19, 181), fenceStep("b7"), nil},
		{"what runs elsewhere is not counted", elsewhere, fenceStep("b7"), more},
	})
}

func TestStepFenceEnds(t *testing.T) {
	ended := func(at int, epoch int, running ...int) func(f *impl.Fence) {
		return func(f *impl.Fence) { f.Members[at].Running, f.Ended = running, append(f.Ended, epoch) }
	}
	none := plainFence()
	none.Members[0].Running = nil
	checkFenceCases(t, []fenceCase{
		{"K below 0", plainFence(), fenceStep("e40:-1"), nil},
		{"K far below 0", plainFence(), impl.FenceStep{Kind: impl.FenceEnd, Id: 40, K: math.MinInt}, nil},
		{"the first one", plainFence(), fenceStep("e40:0"), ended(2, 4, 5, 5, 6)},
		{"the second one", plainFence(), fenceStep("e40:1"), ended(2, 5, 4, 5, 6)},
		{"the third one", plainFence(), fenceStep("e40:2"), ended(2, 5, 4, 5, 6)},
		{"the last one", plainFence(), fenceStep("e40:3"), ended(2, 6, 4, 5, 5)},
		{"one past the last one", plainFence(), fenceStep("e40:4"), nil},
		{"far past the last one", plainFence(), impl.FenceStep{Kind: impl.FenceEnd, Id: 40, K: math.MaxInt}, nil},
		{"the only one", plainFence(), fenceStep("e0:0"), ended(0, 4)},
		{"one past the only one", plainFence(), fenceStep("e0:1"), nil},
		{"nothing runs there", none, fenceStep("e0:0"), nil},
		{"nothing runs there, K below 0", none, fenceStep("e0:-1"), nil},
		{"the last of twenty", runsMany(20, 5), fenceStep("e7:19"), ended(1, 6, slices.Repeat([]int{6}, 19)...)},
		{"one past twenty", runsMany(20, 5), fenceStep("e7:20"), nil},
		{"nothing was ended", runsMany(1, 0), fenceStep("e7:0"), ended(1, 6)},
		{"199 were ended", runsMany(1, 199), fenceStep("e7:0"), ended(1, 6)},
		{"200 were ended", runsMany(1, 200), fenceStep("e7:0"), nil},
	})
}

func TestStepFenceAcks(t *testing.T) {
	acked := func(at int, epoch int) func(f *impl.Fence) {
		return func(f *impl.Fence) { f.Members[at].Acked = epoch }
	}
	with := func(epoch, ackedUpTo int, running ...int) impl.Fence {
		f := plainFence()
		f.Members[1] = impl.Member{Id: 7, Epoch: epoch, Running: running, Acked: ackedUpTo}
		return f
	}
	checkFenceCases(t, []fenceCase{
		{"nothing runs there", with(6, 2), fenceStep("a7"), acked(1, 5)},
		{"nothing runs there, acked up to one less", with(6, 4), fenceStep("a7"), acked(1, 5)},
		{"acked already", with(6, 5), fenceStep("a7"), nil},
		{"acked already, and something runs", plainFence(), fenceStep("a7"), nil},
		{"not in the fence's Epoch", with(5, 2), fenceStep("a7"), nil},
		{"not in the fence's Epoch, far behind", with(3, 2), fenceStep("a7"), nil},
		{"not in the fence's Epoch, all acked there", with(5, 4), fenceStep("a7"), nil},
		{"what runs is of the Epoch itself", with(6, 2, 6), fenceStep("a7"), acked(1, 5)},
		{"all that run are of the Epoch itself", with(6, 3, 6, 6, 6), fenceStep("a7"), acked(1, 5)},
		{"what runs is of the Epoch less 1", with(6, 2, 5), fenceStep("a7"), nil},
		{"what runs is of the Epoch less 1, just above what was acked", with(6, 4, 5), fenceStep("a7"), nil},
		{"what runs is below the Epoch less 1", with(6, 2, 4), fenceStep("a7"), nil},
		{"what runs is the oldest there may be", with(6, 2, 3), fenceStep("a7"), nil},
		{"one among newer ones is of the Epoch less 1", with(6, 3, 5, 6, 6), fenceStep("a7"), nil},
		{"one among newer ones is older", with(6, 2, 3, 6), fenceStep("a7"), nil},
		{"the last one, something old runs", plainFence(), fenceStep("a40"), nil},
		{"the first one, in an old Epoch", plainFence(), fenceStep("a0"), nil},
		{"the first Epoch", aloneFence(1, 0), fenceStep("a3"), nil},
		{"the first Epoch, something runs", aloneFence(1, 0, 1), fenceStep("a3"), nil},
		{"the second Epoch", aloneFence(2, 0, 2), fenceStep("a3"), acked(0, 1)},
		{"the second Epoch, something old runs", aloneFence(2, 0, 1), fenceStep("a3"), nil},
		{"the last Epoch", aloneFence(1000, 0, 1000), fenceStep("a3"), acked(0, 999)},
		{"the last Epoch, something old runs", aloneFence(1000, 0, 999), fenceStep("a3"), nil},
		{"K does not matter", with(6, 2), impl.FenceStep{Kind: impl.FenceAck, Id: 7, K: math.MinInt}, acked(1, 5)},
	})
}

// ackedFence has members that have all acked the Epoch less 1, with something that runs of the Epoch itself.
func ackedFence(members, epoch, durable int) impl.Fence {
	f := impl.Fence{Epoch: epoch, Durable: durable, Ended: []int{1, epoch}}
	for i := range members {
		f.Members = append(f.Members, impl.Member{Id: 3 * i, Epoch: epoch, Running: slices.Repeat([]int{epoch}, i), Acked: epoch - 1})
	}
	return f
}

func TestStepFenceAdvances(t *testing.T) {
	to := func(epoch int) func(f *impl.Fence) {
		return func(f *impl.Fence) { f.Epoch, f.Durable = epoch, epoch-2 }
	}
	lacking := func(members, at, acked int) impl.Fence {
		f := ackedFence(members, 6, 2)
		f.Members[at].Acked = acked
		return f
	}
	lagging := ackedFence(3, 6, 2)
	lagging.Members[1] = impl.Member{Id: 3, Epoch: 5, Acked: 4}
	fresh, _ := impl.NewFence(8)
	advance := fenceStep("v")
	checkFenceCases(t, []fenceCase{
		{"one member", ackedFence(1, 6, 2), advance, to(7)},
		{"eight members", ackedFence(8, 6, 2), advance, to(7)},
		{"the step ahead of it just lasts", ackedFence(3, 6, 4), advance, to(7)},
		{"it lasts already", ackedFence(3, 6, 5), advance, to(7)},
		{"nothing lasts yet", ackedFence(3, 6, 0), advance, to(7)},
		{"one lacks one", lacking(1, 0, 4), advance, nil},
		{"the first one lacks one", lacking(3, 0, 4), advance, nil},
		{"the one between lacks one", lacking(3, 1, 4), advance, nil},
		{"the last one lacks one", lacking(3, 2, 4), advance, nil},
		{"one lacks all", lacking(8, 5, 2), advance, nil},
		{"one is in an old Epoch", lagging, advance, nil},
		{"some are", plainFence(), advance, nil},
		{"the first Epoch", aloneFence(1, 0), advance, func(f *impl.Fence) { f.Epoch = 2 }},
		{"the first Epoch, of eight", fresh, advance, func(f *impl.Fence) { f.Epoch = 2 }},
		{"the first Epoch, something runs", aloneFence(1, 0, 1, 1), advance, func(f *impl.Fence) { f.Epoch = 2 }},
		{"the second Epoch", ackedFence(2, 2, 0), advance, to(3)},
		{"the second Epoch, not acked", aloneFence(2, 0), advance, nil},
		{"Epoch 998", ackedFence(2, 998, 996), advance, to(999)},
		{"Epoch 999", ackedFence(2, 999, 997), advance, to(1000)},
		{"Epoch 1000", ackedFence(2, 1000, 998), advance, nil},
		{"Epoch 1000, it lasts already", ackedFence(2, 1000, 999), advance, nil},
		{"K does not matter", ackedFence(3, 6, 2), impl.FenceStep{Kind: impl.FenceAdvance, K: -1}, to(7)},
		{"K does not matter", ackedFence(3, 6, 2), impl.FenceStep{Kind: impl.FenceAdvance, K: math.MaxInt}, to(7)},
		{"it is of no one member", ackedFence(3, 6, 2), impl.FenceStep{Kind: impl.FenceAdvance, Id: 6}, to(7)},
		{"nor does the Id matter", ackedFence(3, 6, 2), impl.FenceStep{Kind: impl.FenceAdvance, Id: 5}, to(7)},
		{"nor does the Id matter", ackedFence(3, 6, 2), impl.FenceStep{Kind: impl.FenceAdvance, Id: -1}, to(7)},
	})
}

func TestStepFenceJoins(t *testing.T) {
	joined := func(at, epoch int) func(f *impl.Fence) {
		return func(f *impl.Fence) { f.Members[at].Epoch = epoch }
	}
	oldest := plainFence()
	oldest.Members[2] = impl.Member{Id: 40, Epoch: 3, Running: []int{3, 3}, Acked: 2}
	next := plainFence()
	next.Members[1] = impl.Member{Id: 7, Epoch: 5, Acked: 4}
	checkFenceCases(t, []fenceCase{
		{"the first one, what runs stays", plainFence(), fenceStep("j0"), joined(0, 6)},
		{"one that is in the fence's Epoch", plainFence(), fenceStep("j7"), nil},
		{"one that is in the fence's Epoch", plainFence(), fenceStep("j40"), nil},
		{"one that is one behind", next, fenceStep("j7"), joined(1, 6)},
		{"the last one, far behind", oldest, fenceStep("j40"), joined(2, 6)},
		{"the first Epoch", aloneFence(1, 0), fenceStep("j3"), nil},
		{"K does not matter", plainFence(), impl.FenceStep{Kind: impl.FenceJoin, Id: 0, K: math.MaxInt}, joined(0, 6)},
	})
}

func TestStepFenceLeaves(t *testing.T) {
	without := func(at int) func(f *impl.Fence) {
		return func(f *impl.Fence) { f.Members = slices.Delete(f.Members, at, at+1) }
	}
	two := plainFence()
	two.Members = two.Members[1:]
	checkFenceCases(t, []fenceCase{
		{"the first one, with what runs", plainFence(), fenceStep("l0"), without(0)},
		{"the one between", plainFence(), fenceStep("l7"), without(1)},
		{"the last one", plainFence(), fenceStep("l40"), without(2)},
		{"the first of two", two, fenceStep("l7"), without(0)},
		{"the second of two", two, fenceStep("l40"), without(1)},
		{"one that is gone", two, fenceStep("l0"), nil},
		{"the only one", aloneFence(6, 2), fenceStep("l3"), nil},
		{"one of eight", ackedFence(8, 6, 2), fenceStep("l12"), without(4)},
		{"K does not matter", plainFence(), impl.FenceStep{Kind: impl.FenceLeave, Id: 7, K: -1}, without(1)},
	})
}

// One that was waited for goes, and what the others have acked lasts.
func TestWhoHasLeftIsNotWaitedFor(t *testing.T) {
	f := ackedFence(3, 6, 4)
	f.Members[1] = impl.Member{Id: 3, Epoch: 5, Running: []int{5}, Acked: 4}
	if _, ok := checkFenceStep(t, f, fenceStep("v")); ok {
		t.Error("one has not acked")
	}
	f, _ = checkFenceStep(t, f, fenceStep("l3"))
	f, ok := checkFenceStep(t, f, fenceStep("v"))
	if !ok || f.Epoch != 7 || f.Durable != 5 || len(f.Members) != 2 {
		t.Error(f, ok)
	}
}

// All that steps may do to all good fences that are small.
func TestStepFenceOfAllThatAreSmall(t *testing.T) {
	did := make([]int, 8)
	smallFences(func(f impl.Fence) {
		if !goodFenceAgain(f) {
			return
		}
		for kind := range did {
			for id := -1; id <= len(f.Members); id++ {
				for k := -1; k <= 2; k++ {
					if _, ok := checkFenceStep(t, f, impl.FenceStep{Kind: kind, Id: id, K: k}); ok {
						did[kind]++
					}
				}
			}
		}
	})
	if did[0] > 0 || did[7] > 0 || slices.Min(did[1:7]) < 200 {
		t.Error(did)
	}
}

func TestStepFenceOfManySteps(t *testing.T) {
	did := make([]int, 8)
	for _, c := range append(goodFenceChanges(), fenceChange{"", func(*impl.Fence) {}}) {
		for _, s := range manyFenceSteps() {
			if _, ok := checkFenceStep(t, changedFence(c), s); ok {
				did[s.Kind]++
			}
		}
	}
	if slices.Min(did[1:7]) < 20 {
		t.Error(did)
	}
}
