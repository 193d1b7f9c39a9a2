package tests

import (
	"fmt"
	"math"
	"slices"
	"testing"

	"loop.example/g00218/impl"
)

// someCalls are at most seven good calls of a few Procs on a few keys. Each is done at a moment of its own.
// Some then get other times, or what some of the reads saw is put wrong, so that not all lists are like one copy.
func someCalls(seed uint64) []impl.Call {
	m := mixer(seed)
	n, procs, keys, wrong := m.below(8), m.below(5)+1, m.below(3)+1, m.below(3)
	var l []impl.Call
	left := map[string]string{}
	open, done := map[int]int{}, map[int]bool{}
	for now := 0; len(l) < n || len(open) > 0; now++ {
		proc := m.below(procs)
		i, isOpen := open[proc]
		switch {
		case !isOpen && len(l) < n:
			open[proc] = len(l)
			l = append(l, impl.Call{Proc: proc, Write: m.below(2) == 0, Key: "xyz"[m.below(keys):][:1], Value: fmt.Sprint(m.below(3)), Start: now})
		case isOpen && !done[i]:
			done[i] = true
			if l[i].Write {
				left[l[i].Key] = l[i].Value
			}
			l[i].Value = left[l[i].Key]
		case isOpen:
			l[i].End = now
			delete(open, proc)
		}
	}
	if m.below(3) == 0 {
		giveOtherTimes(&m, l)
	}
	for range min(wrong, n) {
		if c := &l[m.below(n)]; !c.Write {
			c.Value = []string{"", "0", "1", "2"}[m.below(4)]
		}
	}
	return mixedCalls(&m, l)
}

// giveOtherTimes leaves each Proc's calls in their order alone, so that what was sequential stays so.
func giveOtherTimes(m *mixer, l []impl.Call) {
	left := map[int][]int{}
	for i, c := range l { // a Proc's calls stand in the order of their times still
		left[c.Proc] = append(left[c.Proc], i)
	}
	open := map[int]bool{}
	for now := 0; len(left) > 0; now++ {
		proc := m.below(5)
		switch own := left[proc]; {
		case len(own) == 0:
		case !open[proc]:
			l[own[0]].Start = now
			open[proc] = true
		default:
			l[own[0]].End = now
			open[proc] = false
			if left[proc] = own[1:]; len(own) == 1 {
				delete(left, proc)
			}
		}
	}
}

// mixedCalls are the calls in another order of the list, which tells nothing of their times.
func mixedCalls(m *mixer, l []impl.Call) []impl.Call {
	for i := range l {
		j := m.below(i + 1)
		l[i], l[j] = l[j], l[i]
	}
	return l
}

// knownOrders keeps what allOrders told, as it is asked for often.
var knownOrders = map[int][][]int{0: {{}}}

// allOrders are the orders of n calls, the lesser ones first, as they are compared number by number.
func allOrders(n int) [][]int {
	if all := knownOrders[n]; all != nil {
		return all
	}
	var all [][]int
	for first := range n {
		for _, rest := range allOrders(n - 1) {
			order := []int{first}
			for _, i := range rest {
				if i >= first {
					i++
				}
				order = append(order, i)
			}
			all = append(all, order)
		}
	}
	knownOrders[n] = all
	return all
}

// fitsAgain looks, from each read, back for the last write.
func fitsAgain(l []impl.Call, order []int) bool {
	for at, i := range order {
		if l[i].Write {
			continue
		}
		last := ""
		for back := at - 1; back >= 0; back-- {
			if c := l[order[back]]; c.Write && c.Key == l[i].Key {
				last = c.Value
				break
			}
		}
		if last != l[i].Value {
			return false
		}
	}
	return true
}

func isOrderAgain(n int, order []int) bool {
	return slices.ContainsFunc(allOrders(n), func(other []int) bool { return slices.Equal(order, other) })
}

func TestAllOrders(t *testing.T) {
	many := 1
	for n := range 8 {
		many *= max(n, 1)
		all := allOrders(n)
		if len(all) != many || !slices.IsSortedFunc(all, slices.Compare[[]int]) {
			t.Error(n, len(all))
		}
	}
}

func TestFitsOrder(t *testing.T) {
	for _, x := range []struct {
		calls string
		order []int
		fits  bool
	}{
		{"", nil, true},
		{"", []int{}, true},
		// a write alone, whatever it writes
		{"0w:x=1@0-1", []int{0}, true},
		{"0w:x=@0-1", []int{0}, true},
		// a read with no write ahead of it
		{"0r:x=@0-1", []int{0}, true},
		{"0r:x=1@0-1", []int{0}, false},
		{"0r:x=@0-1 1w:x=1@2-3", []int{0, 1}, true},
		{"0r:x=1@0-1 1w:x=1@2-3", []int{0, 1}, false},
		{"0r:x=@0-1 1r:x=@2-3", []int{1, 0}, true},
		// of the last write
		{"0r:x=1@0-1 1w:x=1@2-3", []int{1, 0}, true},
		{"0r:x=@0-1 1w:x=1@2-3", []int{1, 0}, false},
		{"0w:x=1@0-1 0w:x=2@2-3 0r:x=2@4-5", []int{0, 1, 2}, true},
		{"0w:x=1@0-1 0w:x=2@2-3 0r:x=1@4-5", []int{1, 0, 2}, true},
		{"0w:x=1@0-1 0w:x=2@2-3 0r:x=1@4-5", []int{0, 2, 1}, true},
		{"0w:x=1@0-1 0w:x=@2-3 0r:x=@4-5", []int{0, 1, 2}, true},
		{"0w:x=1@0-1 0w:x=1@2-3 0r:x=1@4-5", []int{0, 1, 2}, true},
		// of an earlier one
		{"0w:x=1@0-1 0w:x=2@2-3 0r:x=1@4-5", []int{0, 1, 2}, false},
		{"0w:x=1@0-1 0w:x=2@2-3 0r:x=@4-5", []int{0, 1, 2}, false},
		{"0w:x=1@0-1 0w:x=@2-3 0r:x=1@4-5", []int{0, 1, 2}, false},
		{"0w:x=1@0-1 0r:x=@2-3", []int{0, 1}, false},
		{"0w:x=1@0-1 0r:x=@2-3", []int{1, 0}, true},
		// of another key's write
		{"0w:y=1@0-1 0r:x=1@2-3", []int{0, 1}, false},
		{"0w:y=1@0-1 0r:x=@2-3", []int{0, 1}, true},
		{"0w:x=1@0-1 0w:y=2@2-3 0r:x=1@4-5", []int{0, 1, 2}, true},
		{"0w:x=1@0-1 0w:y=2@2-3 0r:x=2@4-5", []int{0, 1, 2}, false},
		{"0w:x=1@0-1 0w:y=2@2-3 0r:y=2@4-5 0r:x=1@6-7", []int{0, 1, 2, 3}, true},
		{"0w:x=1@0-1 0w:xx=2@2-3 0r:x=1@4-5 0r:xx=2@6-7", []int{0, 1, 2, 3}, true},
		// a read leaves nothing
		{"0w:x=1@0-1 0r:x=1@2-3 0r:x=1@4-5", []int{0, 1, 2}, true},
		{"0r:x=@0-1 0w:x=1@2-3 0r:x=1@4-5 0w:x=2@6-7 0r:x=2@8-9", []int{0, 1, 2, 3, 4}, true},
		{"0r:x=@0-1 0w:x=1@2-3 0r:x=1@4-5 0w:x=2@6-7 0r:x=2@8-9", []int{0, 3, 4, 1, 2}, true},
		{"0r:x=@0-1 0w:x=1@2-3 0r:x=1@4-5 0w:x=2@6-7 0r:x=2@8-9", []int{0, 1, 3, 2, 4}, false},
		// an order fits whatever the times and the Procs are
		{"0r:x=2@0-1 0w:x=2@2-3 0w:x=1@4-5", []int{2, 1, 0}, true},
	} {
		l := calls(x.calls)
		if fits, ok := impl.FitsOrder(l, x.order); fits != x.fits || !ok {
			t.Errorf("%s in %v: %v %v", x.calls, x.order, fits, ok)
		}
		if fitsAgain(l, x.order) != x.fits {
			t.Error(x.calls, x.order, "is told wrong a second time")
		}
	}
}

// What is no order has the zero answer, also of calls that fit in any order.
func TestFitsOrderOfNoOrder(t *testing.T) {
	three := "0w:x=1@0-1 1w:x=2@2-3 2w:x=3@4-5"
	for _, x := range []struct {
		calls  string
		orders [][]int
	}{
		{"", [][]int{{0}, {-1}, {1}, {0, 0}}},
		{"0w:x=1@0-1", [][]int{nil, {}, {1}, {-1}, {0, 0}, {0, 1}, {math.MinInt}, {math.MaxInt}}},
		{three, [][]int{
			nil, {}, {0}, {0, 1}, {1, 2}, {0, 2}, // lacks a number
			{0, 0, 1}, {0, 1, 1}, {2, 1, 2}, {0, 0, 0}, {0, 1, 2, 2}, {0, 1, 2, 0}, // has one twice
			{-1, 0, 1}, {0, 1, -1}, {-1, 0, 1, 2}, {0, 1, 2, -1}, {0, -1, 2}, // has -1
			{1, 2, 3}, {0, 1, 3}, {0, 1, 2, 3}, {3, 2, 1, 0}, {0, 3, 2}, // has one too many
			{0, 1, math.MaxInt}, {math.MinInt, 1, 2}, {0, 1, 1 << 32}, slices.Repeat([]int{0, 1, 2}, 1000),
		}},
	} {
		for _, order := range x.orders {
			if fits, ok := impl.FitsOrder(calls(x.calls), order); fits || ok {
				t.Errorf("%s in %.20v: %v %v", x.calls, order, fits, ok)
			}
		}
	}
}

// All lists of three numbers in -1..3, and of the lengths beside that: just the orders have an answer.
func TestFitsOrderOfAllLists(t *testing.T) {
	l := calls("0w:x=1@0-1 1r:x=1@2-3 2w:x=2@4-5")
	fit := 0
	for size := range 5 {
		many := 1
		for range size {
			many *= 5
		}
		for i := range many {
			order := make([]int, size)
			for at := range order {
				order[at] = i%5 - 1
				i /= 5
			}
			is := isOrderAgain(3, order)
			fits, ok := impl.FitsOrder(l, order)
			if ok != is || fits != (is && fitsAgain(l, order)) {
				t.Fatal(order, fits, ok)
			}
			if fits {
				fit++
			}
		}
	}
	if fit != 2 {
		t.Error(fit)
	}
}

func TestFitsOrderOfManyCalls(t *testing.T) {
	fit, unfit := 0, 0
	for seed := range 400 {
		l := someCalls(uint64(seed))
		for at, order := range allOrders(len(l)) {
			if len(l) == 7 && (at+seed)%20 != 0 {
				continue
			}
			want := fitsAgain(l, order)
			if fits, ok := impl.FitsOrder(l, order); fits != want || !ok {
				t.Fatalf("%s in %v: %v %v", callsText(l), order, fits, ok)
			} else if fits {
				fit++
			} else {
				unfit++
			}
		}
	}
	if fit < 5000 || unfit < 5000 {
		t.Error(fit, unfit)
	}
}
