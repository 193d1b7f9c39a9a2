package tests

import (
	"math"
	"slices"
	"testing"

	"loop.example/g00218/impl"
)

// endedWith are lists that have a number alone, first, between, last, everywhere, and at each end of as many as there may be; the others in them are good in every Epoch.
func endedWith(n int) [][]int {
	ones := slices.Repeat([]int{1}, 199)
	return [][]int{{n}, {n, 1, 1}, {1, n, 1}, {1, 1, n}, {n, n, n}, append([]int{n}, ones...), append(ones, n)}
}

// endedFences have a number among what was ended: with all that may last or nothing, with a member in the fence's Epoch, or, as it may have left, without one.
func endedFences(epoch, n int) []impl.Fence {
	var l []impl.Fence
	for _, ended := range endedWith(n) {
		early, late, lagging := aloneFence(epoch, 0), aloneFence(epoch, epoch-1), aloneFence(epoch, 0)
		lagging.Members[0].Epoch = 1
		for _, f := range []impl.Fence{early, late, lagging} {
			f.Ended = ended
			l = append(l, f)
		}
	}
	return l
}

// checkFewSteps takes some steps that are done to fences of endedFences, and some that are not.
func checkFewSteps(t *testing.T, f impl.Fence) {
	t.Helper()
	for _, s := range fenceSteps("b3 e3:0 a3 v l3 j3 b4") {
		if left, ok := checkFenceStep(t, f, s); ok {
			checkLasting(t, left)
		}
	}
}

func TestEndedAreEpochsOfTheFence(t *testing.T) {
	for _, epoch := range []int{1, 2, 3, 6, 999, 1000} {
		for _, n := range []int{1, 2, epoch - 1, epoch} {
			if n < 1 || n > epoch {
				continue
			}
			for _, f := range endedFences(epoch, n) {
				if !impl.GoodFence(f) || !goodFenceAgain(f) {
					t.Errorf("%v is good", f)
				}
				checkLasting(t, f)
				checkFewSteps(t, f)
			}
		}
	}
}

func TestEndedThatAreNoEpochsOfTheFence(t *testing.T) {
	for _, epoch := range []int{1, 2, 3, 6, 999, 1000} {
		for _, n := range []int{math.MinInt, -1, 0, epoch + 1, epoch + 2, 1001, 1<<32 + epoch, math.MaxInt} {
			for _, f := range endedFences(epoch, n) {
				if impl.GoodFence(f) || goodFenceAgain(f) {
					t.Errorf("%v is not good", f)
				}
				checkFewSteps(t, f)
				lasting, ok1 := impl.LastingIn(f)
				least, ok2 := impl.LeastEpoch(f)
				if ok1 || ok2 || lasting != 0 || least != 0 {
					t.Errorf("%v: %d %v %d %v", f, lasting, ok1, least, ok2)
				}
			}
		}
	}
	for _, ended := range [][]int{{-1}, {0}, {2}} {
		f := aloneFence(1, 0)
		f.Ended = ended
		checkNoFence(t, f)
	}
	f := aloneFence(2, 0, 1, 2, 2)
	f.Ended = []int{1, 1, 6}
	checkNoFence(t, f)
}

// Each place of a full list is looked at.
func TestEndedIsLookedAtToItsEnd(t *testing.T) {
	for at := range 200 {
		for n, good := range map[int]bool{-1: false, 0: false, 1: true, 6: true, 7: false} {
			f := aloneFence(6, 2)
			f.Ended = slices.Repeat([]int{3}, 200)
			f.Ended[at] = n
			if impl.GoodFence(f) != good {
				t.Errorf("%d at %d: not %v", n, at, good)
			}
		}
	}
}

// smallEnded are all lists of at most so many numbers in -1..greatest.
func smallEnded(many, greatest int) [][]int {
	lists := [][]int{nil}
	for done := 0; many > 0; many-- {
		longer := lists[done:]
		done = len(lists)
		for _, l := range longer {
			for n := -1; n <= greatest; n++ {
				lists = append(lists, append(slices.Clone(l), n))
			}
		}
	}
	return lists
}

// Promise 12, whatever is in Ended: nothing lasts in a fence that is not good, nor where no epoch does.
func TestOfAllSmallEndedWhatLastsHasAnEpoch(t *testing.T) {
	good, bad := 0, 0
	for epoch := 1; epoch <= 4; epoch++ {
		for _, ended := range smallEnded(4, epoch+1) {
			for durable := range epoch {
				f := aloneFence(epoch, durable, epoch)
				f.Ended = ended
				want := !slices.ContainsFunc(ended, func(n int) bool { return n < 1 || n > epoch })
				if impl.GoodFence(f) != want {
					t.Fatalf("%v: not %v", f, want)
				}
				lasting, ok := impl.LastingIn(f)
				if ok != want || (!want || durable == 0) && lasting != 0 {
					t.Fatalf("%v: %d %v", f, lasting, ok)
				}
				if want {
					checkLasting(t, f)
					good++
				} else {
					bad++
				}
			}
		}
	}
	if good < 1000 || bad < 5000 {
		t.Error(good, bad)
	}
}
