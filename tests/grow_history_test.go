package tests

import (
	"fmt"
	"slices"
	"testing"

	"loop.example/g00218/impl"
)

// A heardCounter is a counter, and beside it how many of each actor's countings it was put together from.
type heardCounter struct {
	c    impl.Counter
	many [6]int
}

// A counterHistory is what each actor has now, all that was ever had, and what each one counted.
type counterHistory struct {
	now     [6]heardCounter
	all     []heardCounter
	counted [6][]int
}

// valueOf sums what was counted, one by one.
func (h counterHistory) valueOf(many [6]int) int {
	sum := 0
	for actor, n := range many {
		for _, by := range h.counted[actor][:n] {
			sum += by
		}
	}
	return sum
}

// someCounters lets actors count, and hear of what others have now or had once.
func someCounters(t *testing.T, seed uint64, steps int) counterHistory {
	var h counterHistory
	m := mixer(seed)
	for actor := range h.now {
		h.now[actor].c = counterOfLengths(6, 6)
	}
	h.all = append(h.all, h.now[0])
	for range steps {
		actor := m.below(6)
		mine := &h.now[actor]
		if m.below(2) == 0 {
			by := m.below(2001) - 1000
			if m.below(4) == 0 {
				by = m.below(3) - 1
			}
			left, ok := impl.CountBy(mine.c, actor, by)
			if !ok {
				t.Fatalf("%v by %d %d", mine.c, actor, by)
			}
			mine.c = left
			mine.many[actor]++
			h.counted[actor] = append(h.counted[actor], by)
		} else {
			*mine = putTogether(t, *mine, h.all[m.below(len(h.all))])
		}
		h.all = append(h.all, *mine)
	}
	return h
}

func putTogether(t *testing.T, a, b heardCounter) heardCounter {
	both, ok := impl.MergeCounter(a.c, b.c)
	if !ok {
		t.Fatal(a, b)
	}
	for actor := range a.many {
		a.many[actor] = max(a.many[actor], b.many[actor])
	}
	return heardCounter{both, a.many}
}

// Promise 14: counters of one history are put together in any order and as often as one likes, and what one actor counted is in the value of each that it was put into.
func TestCountersOfOneHistory(t *testing.T) {
	for seed := range 100 {
		h := someCounters(t, uint64(seed), 80)
		for _, x := range h.all {
			if n, ok := impl.ValueOf(x.c); !ok || n != h.valueOf(x.many) {
				t.Fatalf("%v of %v: %d %v, not %d", x.c, x.many, n, ok, h.valueOf(x.many))
			}
		}
		m := mixer(seed)
		for range 200 {
			a, b, c := h.all[m.below(len(h.all))], h.all[m.below(len(h.all))], h.all[m.below(len(h.all))]
			ab, ba := putTogether(t, a, b), putTogether(t, b, a)
			if !sameCounter(ab.c, ba.c) {
				t.Fatalf("%v with %v: %v, or %v", a.c, b.c, ab.c, ba.c)
			}
			if aa := putTogether(t, a, a); !sameCounter(aa.c, a.c) {
				t.Fatalf("%v with itself: %v", a.c, aa.c)
			}
			x, y := putTogether(t, ab, c), putTogether(t, a, putTogether(t, b, c))
			if !sameCounter(x.c, y.c) {
				t.Fatalf("%v, %v, %v: %v, or %v", a.c, b.c, c.c, x.c, y.c)
			}
			if again := putTogether(t, putTogether(t, x, b), a); !sameCounter(again.c, x.c) {
				t.Fatalf("%v again: %v", x.c, again.c)
			}
			if n, ok := impl.ValueOf(x.c); !ok || n != h.valueOf(x.many) {
				t.Fatalf("%v of %v: %d, not %d", x.c, x.many, n, h.valueOf(x.many))
			}
		}
		checkAllCounters(t, h)
	}
}

// checkAllCounters puts all together forwards, backwards and in other orders: all that was counted is there, once.
func checkAllCounters(t *testing.T, h counterHistory) {
	t.Helper()
	want := 0
	for _, l := range h.counted {
		for _, by := range l {
			want += by
		}
	}
	m := mixer(7)
	var first impl.Counter
	for try := range 4 {
		sum := heardCounter{c: counterOfLengths(6, 6)}
		for i := range h.all {
			at := []int{i, len(h.all) - 1 - i, i ^ 1, m.below(len(h.all))}[try]
			sum = putTogether(t, sum, h.all[at%len(h.all)])
		}
		for _, x := range h.now {
			sum = putTogether(t, sum, x)
		}
		if n, ok := impl.ValueOf(sum.c); n != want || !ok {
			t.Fatalf("%v: %d %v, not %d", sum.c, n, ok, want)
		}
		if try == 0 {
			first = sum.c
		}
		if !sameCounter(sum.c, first) {
			t.Fatalf("%v, or %v", sum.c, first)
		}
	}
}

// Promise 14: latest ones that were drawn, with few unlike times, are put together in any order and as often as one likes.
func TestLatestOnesOfOneHistory(t *testing.T) {
	values := []string{"", "a", "b", "ab", "B", "zz"}
	for seed := range 2000 {
		m := mixer(seed)
		var l []impl.Latest
		for range 6 {
			l = append(l, impl.Latest{Value: values[m.below(len(values))], Time: m.below(4), Actor: m.below(6)})
		}
		// the latest one of all is what comes of any order
		want := slices.MaxFunc(l, func(a, b impl.Latest) int {
			if a == b {
				return 0
			}
			later, _ := mergeLatestAgain(a, b)
			return sign(later == a)
		})
		for range 10 {
			var got impl.Latest
			order := slices.Concat(l, l[:m.below(6)])
			for i := range order {
				j := m.below(i + 1)
				order[i], order[j] = order[j], order[i]
			}
			for i, x := range order {
				if i == 0 {
					got = x
				} else if m.below(2) == 0 {
					got = checkMergeLatest(t, got, x)
				} else {
					got = checkMergeLatest(t, x, got)
				}
			}
			if got != want {
				t.Fatalf("%v: %v, not %v", order, got, want)
			}
		}
	}
}

// A bagHistory is what each actor has now, and all that was ever had, the eldest first.
type bagHistory struct {
	now [6]impl.Bag
	all []impl.Bag
}

// someBags lets actors add, remove, and hear of what others have now or had once. No more is added than a bag can have.
func someBags(t *testing.T, seed uint64, steps, adds int) bagHistory {
	var h bagHistory
	m := mixer(seed)
	h.all = append(h.all, impl.Bag{})
	for range steps {
		actor := m.below(6)
		mine := h.now[actor]
		value := string([]byte{'a' + byte(m.below(5))})
		switch m.below(4) {
		case 0, 1:
			if adds == 0 {
				continue
			}
			adds--
			mine = addHere(t, mine, actor, value)
		case 2:
			mine = removeHere(t, h, mine, value)
		case 3:
			mine, _ = checkMergeBag(t, mine, h.all[m.below(len(h.all))])
		}
		h.now[actor] = mine
		h.all = append(h.all, mine)
	}
	return h
}

// addHere asks whether what is added is among the values, and all that was there too.
func addHere(t *testing.T, b impl.Bag, actor int, value string) impl.Bag {
	t.Helper()
	left, ok := checkAddTo(t, b, actor, value)
	want := append(checkValues(t, b), value)
	slices.Sort(want)
	if got := checkValues(t, left); !ok || !slices.Equal(got, slices.Compact(want)) {
		t.Fatalf("%s with %q: %s", bagText(b), value, bagText(left))
	}
	if !checkLessBag(t, b, left) || checkLessBag(t, left, b) {
		t.Fatalf("%s is less than %s", bagText(b), bagText(left))
	}
	return left
}

// removeHere asks whether what is removed stays so, whatever older bag is heard of.
func removeHere(t *testing.T, h bagHistory, b impl.Bag, value string) impl.Bag {
	t.Helper()
	left, ok := checkRemoveFrom(t, b, value)
	if !ok || slices.Contains(checkValues(t, left), value) {
		t.Fatalf("%s without %q: %s", bagText(b), value, bagText(left))
	}
	want := slices.DeleteFunc(checkValues(t, b), func(other string) bool { return other == value })
	for _, older := range append(h.all, b) {
		if !checkLessBag(t, older, b) {
			continue
		}
		for _, x := range [][2]impl.Bag{{left, older}, {older, left}} {
			both, ok := impl.MergeBag(x[0], x[1])
			if !ok || !sameBag(both, left) || !slices.Equal(checkValues(t, both), want) {
				t.Fatalf("%s with the older %s: %s %v", bagText(left), bagText(older), bagText(both), ok)
			}
		}
	}
	return left
}

// knownAgain are the adds that were heard of and are gone in no bag, and those that are gone in one at least.
func knownAgain(l []impl.Bag) (adds, gone []impl.Add) {
	for _, b := range l {
		gone = append(gone, b.Gone...)
	}
	for _, b := range l {
		for _, a := range b.Adds {
			if !slices.Contains(gone, a) {
				adds = append(adds, a)
			}
		}
	}
	slices.SortFunc(adds, compareAddAgain)
	slices.SortFunc(gone, compareAddAgain)
	return slices.Compact(adds), slices.Compact(gone)
}

// Promise 14: bags of one history are put together in any order and as often as one likes.
func TestBagsOfOneHistory(t *testing.T) {
	gone, known := 0, 0
	for seed := range 60 {
		h := someBags(t, uint64(seed), 60, 40)
		m := mixer(seed)
		for range 100 {
			a, b, c := h.all[m.below(len(h.all))], h.all[m.below(len(h.all))], h.all[m.below(len(h.all))]
			checkThreeBags(t, a, b, c)
		}
		if _, ok := checkMergeBag(t, h.all[m.below(len(h.all))], h.all[0]); !ok {
			t.Fatal("what nobody has heard of anything brings nothing")
		}
		last := checkAllBags(t, h.all, seed)
		gone += len(last.Gone)
		known += len(last.Adds)
	}
	if gone < 300 || known < 300 {
		t.Error(gone, known)
	}
}

func checkThreeBags(t *testing.T, a, b, c impl.Bag) {
	t.Helper()
	ab, ok1 := checkMergeBag(t, a, b)
	bc, ok2 := checkMergeBag(t, b, c)
	x, ok3 := checkMergeBag(t, ab, c)
	y, ok4 := checkMergeBag(t, a, bc)
	if !ok1 || !ok2 || !ok3 || !ok4 || !sameBag(x, y) {
		t.Fatalf("%s, %s, %s: %s, or %s", bagText(a), bagText(b), bagText(c), bagText(x), bagText(y))
	}
	adds, gone := knownAgain([]impl.Bag{a, b, c})
	if !slices.Equal(x.Adds, adds) || !slices.Equal(x.Gone, gone) {
		t.Fatalf("%s, %s, %s: %s", bagText(a), bagText(b), bagText(c), bagText(x))
	}
	// and nothing more is known than what one of them knew
	if checkLessBag(t, a, c) && checkLessBag(t, b, c) && !checkLessBag(t, ab, c) {
		t.Fatalf("%s is not less than %s", bagText(ab), bagText(c))
	}
}

// checkAllBags puts all together in several orders: all comes to the same.
func checkAllBags(t *testing.T, all []impl.Bag, seed int) impl.Bag {
	t.Helper()
	adds, gone := knownAgain(all)
	m := mixer(seed)
	var last impl.Bag
	for try := range 4 {
		order := slices.Concat(all, all[:len(all)/2])
		if try == 1 {
			slices.Reverse(order)
		}
		for i := range order {
			if j := m.below(i + 1); try > 1 {
				order[i], order[j] = order[j], order[i]
			}
		}
		last = impl.Bag{}
		for _, b := range order {
			last, _ = impl.MergeBag(last, b)
		}
		if !slices.Equal(last.Adds, adds) || !slices.Equal(last.Gone, gone) {
			t.Fatalf("%d: %s, not %s", try, bagText(last), bagText(impl.Bag{Adds: adds, Gone: gone}))
		}
	}
	return last
}

// Gone wins: what one removes while another one has it goes, but what was added again without being heard of stays.
func TestWhatIsRemovedStaysSo(t *testing.T) {
	for actor := range 6 {
		had, _ := impl.AddTo(impl.Bag{}, actor, "v")
		without, _ := impl.RemoveFrom(had, "v")
		both, ok := checkMergeBag(t, without, had)
		if l := checkValues(t, both); !ok || len(l) != 0 || !sameBag(both, without) {
			t.Error(actor, both, ok)
		}
		// added again by the same one: it is another add, which the older ones do not know
		again, _ := impl.AddTo(without, actor, "v")
		if a := again.Adds[0]; a.N != 2 || !slices.Equal(checkValues(t, again), []string{"v"}) {
			t.Error(actor, again)
		}
		for _, older := range []impl.Bag{{}, had, without} {
			both, ok := checkMergeBag(t, again, older)
			if !ok || !sameBag(both, again) {
				t.Error(actor, both, ok)
			}
		}
		// added at once by another one
		other, _ := impl.AddTo(had, (actor+1)%6, "v")
		both, ok = checkMergeBag(t, without, other)
		if l := checkValues(t, both); !ok || !slices.Equal(l, []string{"v"}) || len(both.Adds) != 1 || both.Adds[0].Actor != (actor+1)%6 {
			t.Error(actor, both, ok)
		}
		// and removed there too
		gone, _ := impl.RemoveFrom(other, "v")
		both, ok = checkMergeBag(t, gone, both)
		if l := checkValues(t, both); !ok || len(l) != 0 || len(both.Gone) != 2 {
			t.Error(actor, both, ok)
		}
	}
}

// What is full is refused the same whichever comes first, and what it is asked of stays as it was.
func TestBagsOfOneHistoryThatAreFull(t *testing.T) {
	merged, refused := 0, 0
	for seed := range 300 {
		m := mixer(seed)
		var l []impl.Bag
		for actor := range 6 {
			b := impl.Bag{}
			for i := range m.below(20) {
				b, _ = checkAddTo(t, b, actor, fmt.Sprint("v", i))
				if m.below(3) == 0 {
					b, _ = checkRemoveFrom(t, b, fmt.Sprint("v", m.below(i+1)))
				}
			}
			l = append(l, b)
		}
		all := impl.Bag{}
		for _, b := range l {
			if both, ok := checkMergeBag(t, all, b); ok {
				all = both
				merged++
			} else {
				refused++
			}
		}
	}
	if merged < 500 || refused < 50 {
		t.Error(merged, refused)
	}
}
