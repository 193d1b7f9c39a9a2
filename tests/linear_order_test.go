package tests

import (
	"slices"
	"testing"

	"loop.example/g00218/impl"
)

// keepsTimes tells whether no call stands ahead of one (of its Proc alone, with own) that ended ahead of where it started.
func keepsTimes(l []impl.Call, order []int, own bool) bool {
	for at, i := range order {
		for _, j := range order[at+1:] {
			if l[j].End < l[i].Start && (!own || l[j].Proc == l[i].Proc) {
				return false
			}
		}
	}
	return true
}

// firstAgain goes through all orders, and takes the first that is linear, or sequential.
func firstAgain(l []impl.Call, sequential bool) ([]int, bool) {
	for _, order := range allOrders(len(l)) {
		if keepsTimes(l, order, sequential) && fitsAgain(l, order) {
			return order, true
		}
	}
	return nil, false
}

// checkLikeOneCopy holds what is told of good calls against all their orders, and tells whether they are linear, and sequential.
func checkLikeOneCopy(t *testing.T, l []impl.Call) (bool, bool) {
	t.Helper()
	want, isLinear := firstAgain(l, false)
	_, isSequential := firstAgain(l, true)
	if is, ok := impl.IsLinear(l); is != isLinear || !ok {
		t.Fatalf("IsLinear of %s: %v %v", callsText(l), is, ok)
	}
	if is, ok := impl.IsSequential(l); is != isSequential || !ok {
		t.Fatalf("IsSequential of %s: %v %v", callsText(l), is, ok)
	}
	order, ok := impl.LinearOrder(l)
	if ok != isLinear || !slices.Equal(order, want) || !ok && order != nil {
		t.Fatalf("LinearOrder of %s: %v %v, not %v %v", callsText(l), order, ok, want, isLinear)
	}
	return isLinear, isSequential
}

// likeOneCopy are calls with the first order that is linear, and whether there is a sequential one.
var likeOneCopy = []struct {
	name, calls string
	order       []int
	linear      bool
	sequential  bool
}{
	{"no call", "", nil, true, true},
	{"a write", "0w:x=1@0-1", []int{0}, true, true},
	{"a read of nothing", "0r:x=@0-1", []int{0}, true, true},
	{"a read of what nobody wrote", "0r:x=1@0-1", nil, false, false},
	{"a read of what was written", "0w:x=1@0-1 1r:x=1@2-3", []int{0, 1}, true, true},
	{"so, told the other way round", "1r:x=1@2-3 0w:x=1@0-1", []int{1, 0}, true, true},
	{"a read that is late", "0w:x=1@0-1 1r:x=@2-3", nil, false, true},
	{"a read that is late, of its own write", "0w:x=1@0-1 0r:x=@2-3", nil, false, false},
	{"a read of what is written later", "0r:x=1@0-1 1w:x=1@2-3", nil, false, true},
	{"a read of what it writes later itself", "0r:x=1@0-1 0w:x=1@2-3", nil, false, false},
	{"a read that ends where a write starts, one apart", "0r:x=1@0-2 1w:x=1@1-3", []int{1, 0}, true, true},
	{"a read within a write that saw it", "0w:x=1@0-3 1r:x=1@1-2", []int{0, 1}, true, true},
	{"a read within a write that did not", "0w:x=1@0-3 1r:x=@1-2", []int{1, 0}, true, true},
	{"new, then old", "0w:x=1@0-10 1r:x=1@1-3 2r:x=@4-6", nil, false, true},
	{"new, then old, of one Proc", "0w:x=1@0-10 1r:x=1@1-3 1r:x=@4-6", nil, false, false},
	{"new and old at once", "0w:x=1@0-10 1r:x=1@1-3 2r:x=@2-6", []int{2, 0, 1}, true, true},
	{"old, then new", "0w:x=1@0-10 1r:x=@1-3 2r:x=1@4-6", []int{1, 0, 2}, true, true},
	{"two writes at once, read in both orders", "0w:x=1@0-9 1w:x=2@1-8 2r:x=1@10-11 2r:x=2@12-13", nil, false, true},
	{"two writes at once, read in one order", "0w:x=1@0-9 1w:x=2@1-8 2r:x=1@10-11 3r:x=1@12-13", []int{1, 0, 2, 3}, true, true},
	{"two that read two writes in unlike orders", "0w:x=1@0-20 1w:x=2@1-21 2r:x=1@2-3 2r:x=2@4-5 3r:x=2@6-7 3r:x=1@8-9", nil, false, false},
	{"each misses the other's write", "0w:x=1@0-1 1w:y=1@2-3 0r:y=@4-5 1r:x=@6-7", nil, false, false},
	{"each sees the other's write", "0w:x=1@0-1 1w:y=1@2-3 0r:y=1@4-5 1r:x=1@6-7", []int{0, 1, 2, 3}, true, true},
	{"one misses the other's write", "0w:x=1@0-1 1w:y=1@2-3 0r:y=@4-5 1r:x=1@6-7", nil, false, true},
	{"a write of the empty value", "0w:x=1@0-1 1w:x=@2-3 2r:x=@4-5", []int{0, 1, 2}, true, true},
	{"a value written twice", "0w:x=1@0-1 1w:x=2@2-3 2w:x=1@4-5 3r:x=1@6-7", []int{0, 1, 2, 3}, true, true},
	{"a write that never seems to end", "0w:x=1@0-999000 1r:x=@1-2 2r:x=1@3-4 1r:x=1@5-6", []int{1, 0, 2, 3}, true, true},
}

func TestLikeOneCopy(t *testing.T) {
	for _, x := range likeOneCopy {
		l := calls(x.calls)
		if is, ok := impl.IsLinear(l); is != x.linear || !ok {
			t.Errorf("%s: linear %v %v", x.name, is, ok)
		}
		if is, ok := impl.IsSequential(l); is != x.sequential || !ok {
			t.Errorf("%s: sequential %v %v", x.name, is, ok)
		}
		if order, ok := impl.LinearOrder(l); ok != x.linear || !slices.Equal(order, x.order) {
			t.Errorf("%s: %v %v, not %v", x.name, order, ok, x.order)
		}
		checkLikeOneCopy(t, l)
	}
}

// Of several orders that fit the first one is told, compared number by number.
func TestLinearOrderIsTheFirst(t *testing.T) {
	for _, x := range []struct {
		calls string
		order []int
	}{
		// all at once, and all fit
		{"0r:x=@0-7 1r:x=@1-6 2r:x=@2-5", []int{0, 1, 2}},
		{"2w:x=1@2-5 1w:x=1@1-6 0w:x=1@0-7", []int{0, 1, 2}},
		{"0w:x=0@0-13 1w:x=1@1-12 2w:x=2@2-11 3w:x=3@3-10 4w:x=4@4-9 5w:x=5@5-8 6w:x=6@6-7", []int{0, 1, 2, 3, 4, 5, 6}},
		// one behind the other: there is one alone
		{"0w:x=0@12-13 1w:x=1@10-11 2w:x=2@8-9 3w:x=3@6-7 4w:x=4@4-5 5w:x=5@2-3 6w:x=6@0-1", []int{6, 5, 4, 3, 2, 1, 0}},
		// the last read asks for one write, ahead of which all others are done
		{"0w:x=0@0-13 1w:x=1@1-12 2w:x=2@2-11 3w:x=3@3-10 4w:x=4@4-9 5w:x=5@5-8 6r:x=0@14-15", []int{1, 2, 3, 4, 5, 0, 6}},
		{"0w:x=0@0-13 1w:x=1@1-12 2w:x=2@2-11 3w:x=3@3-10 4w:x=4@4-9 5w:x=5@5-8 6r:x=3@14-15", []int{0, 1, 2, 4, 5, 3, 6}},
		// a read ahead of all writes, wherever the list has it
		{"0w:x=1@0-9 1w:x=2@1-8 2r:x=@2-7", []int{2, 0, 1}},
		{"0w:x=1@0-9 1r:x=@2-7 2w:x=2@1-8", []int{1, 0, 2}},
		// what comes first by its number need not be first by its time
		{"0w:x=1@5-9 1w:x=2@0-6", []int{0, 1}},
		{"0w:x=1@5-9 1w:x=2@0-4", []int{1, 0}},
		{"0w:x=1@5-9 1w:y=2@0-4", []int{1, 0}},
		{"0r:y=@0-11 1w:y=2@1-10 2r:x=1@2-9 3w:x=1@3-8", []int{0, 1, 3, 2}},
		{"0r:y=2@0-11 1w:y=2@1-10 2r:x=1@2-9 3w:x=1@3-8", []int{1, 0, 3, 2}},
		{"0r:y=2@0-11 1r:x=1@1-10 2w:y=2@2-9 3w:x=1@3-8", []int{2, 0, 3, 1}},
	} {
		if order, ok := impl.LinearOrder(calls(x.calls)); !ok || !slices.Equal(order, x.order) {
			t.Errorf("%s: %v %v, not %v", x.calls, order, ok, x.order)
		}
		checkLikeOneCopy(t, calls(x.calls))
	}
}

func TestOfKey(t *testing.T) {
	told := "0w:y=1@8-9 1r:x=@4-5 2w:x=2@0-3 3r:xx=@1-2 1r:y=1@10-11"
	for key, want := range map[string]string{
		"x":        "1r:x=@4-5 2w:x=2@0-3",
		"y":        "0w:y=1@8-9 1r:y=1@10-11",
		"xx":       "3r:xx=@1-2",
		"z":        "",
		"xxx":      "",
		"abcdefgh": "",
	} {
		if of, ok := impl.OfKey(calls(told), key); callsText(of) != want || !ok {
			t.Errorf("%s: %s %v, not %s", key, callsText(of), ok, want)
		}
	}
	for _, key := range goodKeys() {
		l := callsWith(putCallKey, key)[:1]
		if of, ok := impl.OfKey(l, key); !slices.Equal(of, l) || !ok {
			t.Errorf("%q: %v %v", key, of, ok)
		}
		if of, ok := impl.OfKey(nil, key); len(of) != 0 || !ok {
			t.Errorf("%q of no call: %v %v", key, of, ok)
		}
	}
	for _, key := range badKeys() {
		for _, l := range [][]impl.Call{nil, calls(told)} {
			if of, ok := impl.OfKey(l, key); of != nil || ok {
				t.Errorf("%q: %v %v", key, of, ok)
			}
		}
	}
}

// allTimes are all ways in which n calls may lie in time: the Start and the End of each.
func allTimes(n int) [][]int {
	return slices.DeleteFunc(slices.Clone(allOrders(2*n)), func(times []int) bool {
		for i := range n {
			if times[2*i] > times[2*i+1] {
				return true
			}
		}
		return false
	})
}

// smallCalls are all lists of n calls of these kinds, of each of so many Procs, without their times.
func smallCalls(n, procs int, kinds []impl.Call) [][]impl.Call {
	if n == 0 {
		return [][]impl.Call{nil}
	}
	var all [][]impl.Call
	for _, l := range smallCalls(n-1, procs, kinds) {
		for _, kind := range kinds {
			for proc := range procs {
				kind.Proc = proc
				all = append(all, append(slices.Clone(l), kind))
			}
		}
	}
	return all
}

func TestLikeOneCopyOfAllThatIsShort(t *testing.T) {
	counts := map[[2]bool]int{}
	write, read, none := impl.Call{Write: true, Key: "x", Value: "1"}, impl.Call{Key: "x", Value: "1"}, impl.Call{Key: "x"}
	for n, kinds := range [][]impl.Call{
		nil,
		{write, read, none, {Write: true, Key: "x"}, {Write: true, Key: "y", Value: "1"}, {Key: "y", Value: "1"}, {Key: "y"}},
		{write, read, none, {Write: true, Key: "x"}, {Write: true, Key: "y", Value: "1"}, {Key: "y", Value: "1"}, {Key: "y"}},
		{write, read, none, {Key: "y"}},
	} {
		all := smallCalls(n, max(n, 1), kinds)
		for _, times := range allTimes(n) {
			for _, l := range all {
				for i := range l {
					l[i].Start, l[i].End = times[2*i], times[2*i+1]
				}
				if !goodCallsAgain(l) {
					continue
				}
				linear, sequential := checkLikeOneCopy(t, l)
				checkEachKey(t, l)
				counts[[2]bool{linear, sequential}]++
			}
		}
	}
	if counts[[2]bool{true, true}] < 20000 || counts[[2]bool{false, true}] < 5000 || counts[[2]bool{false, false}] < 20000 || counts[[2]bool{true, false}] != 0 {
		t.Error(counts)
	}
}

// checkEachKey asks for promise 7: calls on many keys are linear just where those on each key are.
func checkEachKey(t *testing.T, l []impl.Call) {
	t.Helper()
	all, many := true, 0
	for _, key := range []string{"x", "y", "z", "none"} {
		of, ok := impl.OfKey(l, key)
		is, good := impl.IsLinear(of)
		if !ok || !good {
			t.Fatalf("%s of %s: %v %v", key, callsText(l), ok, good)
		}
		all = all && is
		many += len(of)
	}
	if is, ok := impl.IsLinear(l); is != all || !ok || many != len(l) {
		t.Fatalf("%s: %v %v, but each key %v, with %d calls", callsText(l), is, ok, all, many)
	}
}

func TestLikeOneCopyOfManyCalls(t *testing.T) {
	counts := map[[2]bool]int{}
	for seed := range 4000 {
		linear, sequential := checkLikeOneCopy(t, someCalls(uint64(seed)))
		counts[[2]bool{linear, sequential}]++
	}
	if counts[[2]bool{true, true}] < 2000 || counts[[2]bool{false, true}] < 200 || counts[[2]bool{false, false}] < 500 || counts[[2]bool{true, false}] != 0 {
		t.Error(counts)
	}
}

// Promise 7: calls on many keys are like one copy just where those on each key are.
func TestCallsAreLinearByEachKey(t *testing.T) {
	linear, not := 0, 0
	for seed := range 20000 {
		l := someCalls(uint64(seed))
		checkEachKey(t, l)
		if is, _ := impl.IsLinear(l); is {
			linear++
		} else {
			not++
		}
	}
	if linear < 5000 || not < 2000 {
		t.Error(linear, not)
	}
}

// What is sequential by each key need not be so for all of them: just the linear ones come together.
func TestCallsAreNotSequentialByEachKey(t *testing.T) {
	l := calls("0w:x=1@0-1 1w:y=1@2-3 0r:y=@4-5 1r:x=@6-7")
	for _, key := range []string{"x", "y"} {
		of, _ := impl.OfKey(l, key)
		if is, ok := impl.IsSequential(of); !is || !ok {
			t.Error(key, is, ok)
		}
	}
	if is, ok := impl.IsSequential(l); is || !ok {
		t.Error(is, ok)
	}
}

// Promise 7: the order fits, what ended ahead stands ahead, it is there just where calls are linear, and those are sequential too.
func TestLinearOrderFits(t *testing.T) {
	for seed := range 20000 {
		l := someCalls(uint64(seed))
		is, _ := impl.IsLinear(l)
		order, ok := impl.LinearOrder(l)
		if ok != is {
			t.Fatalf("%s: %v, but linear %v", callsText(l), ok, is)
		}
		if !ok {
			continue
		}
		if fits, isOrder := impl.FitsOrder(l, order); !fits || !isOrder {
			t.Fatalf("%s in %v: %v %v", callsText(l), order, fits, isOrder)
		}
		if !keepsTimes(l, order, false) {
			t.Fatalf("%s in %v: what ended ahead stands behind", callsText(l), order)
		}
		if is, _ := impl.IsSequential(l); !is {
			t.Fatalf("%s: linear, and not sequential", callsText(l))
		}
	}
}

// Of one Proc's own calls none changes its place: there is one order, by their times, and all hangs on whether it fits.
func TestOwnCallsKeepTheirPlaces(t *testing.T) {
	fit, unfit := 0, 0
	for seed := range 4000 {
		l := inARowOfOne(someCalls(uint64(seed)))
		order := byStart(l)
		fits, ok := impl.FitsOrder(l, order)
		if is, good := impl.IsSequential(l); is != fits || !good || !ok {
			t.Fatalf("%s: sequential %v, but %v fits %v", callsText(l), is, order, fits)
		}
		if is, good := impl.IsLinear(l); is != fits || !good {
			t.Fatalf("%s: linear %v, but %v fits %v", callsText(l), is, order, fits)
		}
		if got, found := impl.LinearOrder(l); found != fits || fits && !slices.Equal(got, order) {
			t.Fatalf("%s: %v %v, not %v %v", callsText(l), got, found, order, fits)
		}
		if fits {
			fit++
		} else {
			unfit++
		}
	}
	if fit < 500 || unfit < 500 {
		t.Error(fit, unfit)
	}
}

// inARowOfOne are the calls as those of one Proc, one behind the other in the order of their Starts.
func inARowOfOne(l []impl.Call) []impl.Call {
	for at, i := range byStart(l) {
		l[i].Proc, l[i].Start, l[i].End = 4, 10*at, 10*at+9
	}
	return l
}

func byStart(l []impl.Call) []int {
	order := upTo(len(l))
	slices.SortFunc(order, func(i, j int) int { return l[i].Start - l[j].Start })
	return order
}

// Each call of a Proc of its own, all at once: nothing is kept but what the reads ask for, and linear is the same as sequential.
func TestCallsOfProcsOfTheirOwn(t *testing.T) {
	differ := 0
	for seed := range 2000 {
		l := someCalls(uint64(seed))
		for i := range l {
			l[i].Proc, l[i].Start, l[i].End = i, i, 100-i
		}
		linear, _ := impl.IsLinear(l)
		sequential, _ := impl.IsSequential(l)
		if linear != sequential {
			t.Fatalf("%s: linear %v, sequential %v", callsText(l), linear, sequential)
		}
		// one behind the other they are sequential just as much: their Procs are unlike
		for i := range l {
			l[i].Start, l[i].End = 2*i, 2*i+1
		}
		if is, _ := impl.IsSequential(l); is != sequential {
			t.Fatalf("%s: sequential %v, and not so at once", callsText(l), is)
		}
		if is, _ := impl.IsLinear(l); is != linear {
			differ++
		}
	}
	if differ < 200 {
		t.Error(differ)
	}
}

// How the times are called, how the Procs are, and how the list lies does not matter for what is linear or sequential.
func TestLikeOneCopyHangsOnTheOrderOfTimesAlone(t *testing.T) {
	for seed := range 2000 {
		l := someCalls(uint64(seed))
		linear, _ := impl.IsLinear(l)
		sequential, _ := impl.IsSequential(l)
		order, _ := impl.LinearOrder(l)
		other := slices.Clone(l)
		for i, c := range l {
			other[i].Proc, other[i].Start, other[i].End = 9-c.Proc, 993000+7*c.Start, 993000+7*c.End
		}
		if got, _ := impl.LinearOrder(other); !slices.Equal(got, order) {
			t.Fatalf("%s: %v, but %s: %v", callsText(l), order, callsText(other), got)
		}
		slices.Reverse(other)
		if is, ok := impl.IsLinear(other); is != linear || !ok {
			t.Fatalf("%s: %v, but %s: %v %v", callsText(l), linear, callsText(other), is, ok)
		}
		if is, ok := impl.IsSequential(other); is != sequential || !ok {
			t.Fatalf("%s: %v, but %s: %v %v", callsText(l), sequential, callsText(other), is, ok)
		}
	}
}
