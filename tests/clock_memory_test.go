package tests

import (
	"slices"
	"testing"
	"unsafe"

	"loop.example/g00218/impl"
)

// sharesList tells whether two lists have memory in common, also behind their lengths.
func sharesList[E any](a, b []E) bool {
	if cap(a) == 0 || cap(b) == 0 {
		return false
	}
	size := unsafe.Sizeof(*new(E))
	from := uintptr(unsafe.Pointer(unsafe.SliceData(a)))
	other := uintptr(unsafe.Pointer(unsafe.SliceData(b)))
	return from < other+uintptr(cap(b))*size && other < from+uintptr(cap(a))*size
}

func TestClocksShareNoMemory(t *testing.T) {
	for _, l := range slices.Concat(goodHistories(), longHistories()[:4]) {
		clocks, _ := impl.VectorOf(l)
		for i := range clocks {
			for j := range i {
				if sharesList(clocks[i].At, clocks[j].At) {
					t.Fatalf("%+v: clocks %d and %d share memory", l, i, j)
				}
			}
		}
	}
}

func TestMergedAndJoinedAreNewMemory(t *testing.T) {
	for _, a := range goodClocks() {
		for _, b := range append(goodClocks(), a) {
			m, _ := impl.MergeClock(a, b)
			join, _ := impl.JoinCuts(a.At, b.At, false)
			meet, _ := impl.JoinCuts(a.At, b.At, true)
			for _, x := range [][]int{m.At, join, meet} {
				if len(x) != impl.MaxProcs || sharesList(x, a.At) || sharesList(x, b.At) {
					t.Errorf("%v %v: %v", a, b, x)
				}
			}
		}
	}
}

func TestTwoAnswersOfClocksShareNoMemory(t *testing.T) {
	l := twoCauses[0].events
	times, _ := impl.LamportOf(l)
	clocks, _ := impl.VectorOf(l)
	again, _ := impl.LamportOf(l)
	clocksAgain, _ := impl.VectorOf(l)
	if sharesList(times, again) || sharesList(clocks, clocksAgain) {
		t.Error("two answers share a list")
	}
	for _, c := range clocks {
		clear(c.At)
	}
	for i := range clocksAgain {
		if clocksAgain[i].At[l[i].Proc] == 0 {
			t.Error("two answers share a clock")
		}
	}
}

// Whatever lies behind the length, good or bad, is neither read nor written.
func TestClocksKeepToTheirEvents(t *testing.T) {
	for _, c := range twoCauses {
		n := len(c.events)
		for _, behind := range []impl.Event{local(1), send(0, 999), {Kind: -1, Proc: 99, Msg: -1}} {
			l := append(slices.Clone(c.events), behind, behind)
			old := slices.Clone(l)
			cut := []int{0, 1, 0, 0, 0, 0, 9, 9}
			if !impl.GoodEvents(l[:n]) {
				t.Errorf("%+v is good", l[:n])
			}
			if x, ok := impl.LamportOf(l[:n]); !ok || !slices.Equal(x, c.lamport) {
				t.Error(x, ok)
			}
			if x, ok := impl.VectorOf(l[:n]); !ok || len(x) != n || !slices.Equal(x[n-1].At, c.last) {
				t.Error(x, ok)
			}
			if ahead, ok := impl.AheadOf(l[:n], n-1, n); ahead || ok {
				t.Error(ahead, ok)
			}
			if _, ok := impl.GoodCut(l[:n], cut[:impl.MaxProcs-1]); ok {
				t.Error("a cut of five numbers is none")
			}
			impl.GoodCut(l[:n], cut[:impl.MaxProcs])
			if !slices.Equal(l, old) || !slices.Equal(cut, []int{0, 1, 0, 0, 0, 0, 9, 9}) {
				t.Errorf("%+v became %+v, or the cut %v", old, l, cut)
			}
		}
	}
}

func TestNoEventIsWrittenInto(t *testing.T) {
	for _, l := range slices.Concat(goodHistories(), badHistories(), longHistories()[:4]) {
		old := slices.Clone(l)
		impl.GoodEvents(l)
		impl.LamportOf(l)
		impl.VectorOf(l)
		impl.AheadOf(l, 0, len(l)-1)
		impl.AheadOf(l, len(l), -1)
		for _, cut := range [][]int{{0, 0, 0, 0, 0, 0}, {1, 1, 1, 1, 1, 1}, {9, 9, 9, 9, 9, 9}, {-1}} {
			was := slices.Clone(cut)
			impl.GoodCut(l, cut)
			if !slices.Equal(cut, was) {
				t.Errorf("the cut %v became %v", was, cut)
			}
		}
		if !slices.Equal(l, old) {
			t.Errorf("%+v became %+v", old, l)
		}
	}
}

func TestNoClockIsWrittenInto(t *testing.T) {
	all := append(goodClocks(), badClocks()...)
	for _, a := range all {
		for _, b := range all {
			long := append(slices.Clone(a.At), -5, -6)
			other := append(slices.Clone(b.At), -7, -8)
			oldLong, oldOther := slices.Clone(long), slices.Clone(other)
			x, y := clock(long[:len(a.At)]...), clock(other[:len(b.At)]...)
			impl.CompareClock(x, y)
			impl.MergeClock(x, y)
			impl.JoinCuts(x.At, y.At, false)
			impl.JoinCuts(x.At, y.At, true)
			if !slices.Equal(long, oldLong) || !slices.Equal(other, oldOther) {
				t.Errorf("%v %v became %v %v", oldLong, oldOther, long, other)
			}
		}
	}
}
