package tests

import (
	"fmt"
	"math"
	"slices"
	"strings"
	"testing"
	"unsafe"

	"loop.example/g00218/impl"
)

// counterAnswers asks all functions of counters, and tells what they answered as one text.
func counterAnswers(a, b impl.Counter, actor, by int) string {
	counted, ok1 := impl.CountBy(a, actor, by)
	both, ok2 := impl.MergeCounter(a, b)
	turned, ok3 := impl.MergeCounter(b, a)
	n, ok4 := impl.ValueOf(a)
	return fmt.Sprint(impl.GoodCounter(a), counted, ok1, both, ok2, turned, ok3, n, ok4)
}

// bagAnswers asks all functions of bags, and tells what they answered as one text.
func bagAnswers(a, b impl.Bag, actor int, value string) string {
	added, ok1 := impl.AddTo(a, actor, value)
	removed, ok2 := impl.RemoveFrom(a, value)
	both, ok3 := impl.MergeBag(a, b)
	turned, ok4 := impl.MergeBag(b, a)
	values, ok5 := impl.ValuesIn(a)
	less, ok6 := impl.LessBag(a, b)
	more, ok7 := impl.LessBag(b, a)
	return fmt.Sprint(impl.GoodBag(a), added, ok1, removed, ok2, both, ok3, turned, ok4, values, ok5, less, ok6, more, ok7)
}

// someGrownBags are good ones, at the edges and drawn ones, and some that are not.
func someGrownBags() []impl.Bag {
	var l []impl.Bag
	for i, b := range append(goodBags(), badBags()...) {
		if i%5 == 0 {
			l = append(l, b)
		}
	}
	for seed := range 30 {
		m := mixer(seed)
		l = append(l, drawnBag(&m))
	}
	return append(l, plainBag(), impl.Bag{Adds: manyAdds(40, 1), Gone: manyAdds(40, 501)})
}

func otherBags() []impl.Bag {
	return []impl.Bag{{}, plainBag(), bag("0.2=v 0.3=w | 1.1=w"), {Gone: manyAdds(40, 1)}, bag("1.1=w 0.1=w")}
}

// drawnBag is a good one of few actors, numbers and values, most often like others in what both have.
func drawnBag(m *mixer) impl.Bag {
	var b impl.Bag
	odd := m.below(8) == 0
	for actor := range 6 {
		for n := range 6 {
			a := impl.Add{Value: string([]byte{'v' + byte((actor+n)%3)}), Actor: actor, N: 1 + n + actor%2*(994-n/3)}
			if odd && m.below(5) == 0 {
				a.Value = "odd"
			}
			switch m.below(4) {
			case 0:
				b.Adds = append(b.Adds, a)
			case 1:
				b.Gone = append(b.Gone, a)
			}
		}
	}
	slices.SortFunc(b.Adds, compareAddAgain)
	slices.SortFunc(b.Gone, compareAddAgain)
	b.Adds = slices.CompactFunc(b.Adds, func(x, y impl.Add) bool { return compareAddAgain(x, y) == 0 })
	b.Gone = slices.CompactFunc(b.Gone, func(x, y impl.Add) bool { return compareAddAgain(x, y) == 0 })
	b.Gone = slices.DeleteFunc(b.Gone, func(x impl.Add) bool {
		return slices.ContainsFunc(b.Adds, func(y impl.Add) bool { return compareAddAgain(x, y) == 0 })
	})
	return b
}

func TestNoCounterIsWrittenInto(t *testing.T) {
	for _, a := range append(goodCounters(), badCounters()...) {
		for _, b := range []impl.Counter{a, plainCounter(), counterOfLengths(6, 6), counterOfLengths(3, 9), {}} {
			oldA, oldB := deepCounter(a), deepCounter(b)
			for _, by := range []int{-1000, -1, 0, 1, 1000, 1001} {
				for _, actor := range []int{-1, 0, 5, 6} {
					counterAnswers(a, b, actor, by)
				}
			}
			if !sameCounter(a, oldA) || !sameCounter(b, oldB) {
				t.Fatalf("%v became %v, %v became %v", oldA, a, oldB, b)
			}
		}
	}
}

func TestNoBagIsWrittenInto(t *testing.T) {
	for _, a := range someGrownBags() {
		for _, b := range append(otherBags(), a) {
			oldA, oldB := deepBag(a), deepBag(b)
			for _, actor := range []int{-1, 0, 3, 5, 6} {
				for _, value := range []string{"v", "w", "none", ";"} {
					bagAnswers(a, b, actor, value)
				}
			}
			if !sameBag(a, oldA) || !sameBag(b, oldB) {
				t.Fatalf("%v became %v, %v became %v", oldA, a, oldB, b)
			}
		}
	}
}

// roomyCounter is the counter with room behind each list, where numbers lie that must not matter.
func roomyCounter(c impl.Counter, behind int) impl.Counter {
	return impl.Counter{
		Up:   append(slices.Clone(c.Up), behind, behind, behind)[:len(c.Up)],
		Down: append(slices.Clone(c.Down), behind, behind, behind)[:len(c.Down)],
	}
}

func wholeCounter(c impl.Counter) impl.Counter {
	return impl.Counter{Up: slices.Clone(c.Up[:cap(c.Up)]), Down: slices.Clone(c.Down[:cap(c.Down)])}
}

// roomyBag is the bag with room behind each list, where adds lie that must not matter.
func roomyBag(b impl.Bag, behind impl.Add) impl.Bag {
	return impl.Bag{
		Adds: append(slices.Clone(b.Adds), behind, behind, behind)[:len(b.Adds)],
		Gone: append(slices.Clone(b.Gone), behind, behind, behind)[:len(b.Gone)],
	}
}

func wholeBag(b impl.Bag) impl.Bag {
	return impl.Bag{Adds: slices.Clone(b.Adds[:cap(b.Adds)]), Gone: slices.Clone(b.Gone[:cap(b.Gone)])}
}

// Whatever lies behind the lengths, good or bad, is neither read nor written nor handed out.
func TestCountersKeepToTheirLengths(t *testing.T) {
	for _, a := range append(goodCounters(), badCounters()...) {
		for _, b := range []impl.Counter{plainCounter(), counterOfLengths(6, 6), counterOfLengths(5, 5)} {
			for _, behind := range []int{-1, 0, 1000000, 1000001} {
				x, y := roomyCounter(a, behind), roomyCounter(b, behind)
				oldX, oldY := wholeCounter(x), wholeCounter(y)
				for _, by := range []int{-1, 1} {
					if got, want := counterAnswers(x, y, 0, by), counterAnswers(a, b, 0, by); got != want {
						t.Fatalf("%v %v: %s, not %s", a, b, got, want)
					}
				}
				if !sameCounter(wholeCounter(x), oldX) || !sameCounter(wholeCounter(y), oldY) {
					t.Fatalf("%v %v: written behind its length", a, b)
				}
			}
		}
	}
}

func TestBagsKeepToTheirLengths(t *testing.T) {
	for _, a := range someGrownBags() {
		for _, b := range otherBags() {
			for _, behind := range append(addsOf("5.1000=z 0.1=v 0.1=w 9.0=v"), impl.Add{}) {
				x, y := roomyBag(a, behind), roomyBag(b, behind)
				oldX, oldY := wholeBag(x), wholeBag(y)
				if got, want := bagAnswers(x, y, 1, "v"), bagAnswers(a, b, 1, "v"); got != want {
					t.Fatalf("%v %v: %s, not %s", a, b, got, want)
				}
				if !sameBag(wholeBag(x), oldX) || !sameBag(wholeBag(y), oldY) {
					t.Fatalf("%v %v: written behind its length", a, b)
				}
			}
		}
	}
}

func counterSpans(c impl.Counter, what string) []span {
	return []span{spanOf(c.Up, what+"'s Up"), spanOf(c.Down, what+"'s Down")}
}

func bagSpans(b impl.Bag, what string) []span {
	spans := []span{spanOf(b.Adds, what+"'s Adds"), spanOf(b.Gone, what+"'s Gone")}
	for _, a := range slices.Concat(b.Adds, b.Gone) {
		spans = append(spans, textSpan(a.Value, what+"'s value"))
	}
	return spans
}

func valueSpans(l []string) []span {
	spans := []span{spanOf(l, "values")}
	for _, value := range l {
		spans = append(spans, textSpan(value, "value"))
	}
	return spans
}

func TestCountersAreNewMemory(t *testing.T) {
	// both lists of one may lie in one memory
	both := make([]int, 12)
	for _, a := range append(goodCounters(), impl.Counter{Up: both[:6], Down: both[:6]}, impl.Counter{Up: both[:6], Down: both[3:9]}) {
		a = roomyCounter(a, 3)
		for _, by := range []int{-1, 0, 1} {
			counted, _ := impl.CountBy(a, 1, by)
			checkNew(t, counterSpans(counted, "counted"), counterSpans(a, "given"))
		}
		for _, b := range append(goodCounters()[:5], a) {
			given := append(counterSpans(a, "given"), counterSpans(b, "other")...)
			merged, _ := impl.MergeCounter(a, b)
			checkNew(t, counterSpans(merged, "merged"), given)
			merged, _ = impl.MergeCounter(b, a)
			checkNew(t, counterSpans(merged, "merged the other way"), given)
		}
	}
	shared := impl.Counter{Up: both[:6], Down: both[:6]}
	left, ok := impl.CountBy(shared, 2, 7)
	if n, _ := impl.ValueOf(left); !ok || n != 7 || left.Down[2] != 0 || both[2] != 0 {
		t.Error(left, ok, both)
	}
}

func TestBagsAreNewMemory(t *testing.T) {
	merged := 0
	for _, a := range someGrownBags() {
		a = roomyBag(a, impl.Add{Value: "z"})
		given := bagSpans(a, "given")
		value := strings.Clone("v")
		for actor := range 6 {
			added, _ := impl.AddTo(a, actor, value)
			checkNew(t, bagSpans(added, "added"), append(given, textSpan(value, "asked value")))
		}
		for _, value := range []string{strings.Clone("v"), strings.Clone("w"), "none"} {
			removed, _ := impl.RemoveFrom(a, value)
			checkNew(t, bagSpans(removed, "removed"), append(given, textSpan(value, "asked value")))
		}
		for _, b := range append(otherBags(), a) {
			all := slices.Concat(given, bagSpans(b, "other"))
			for _, x := range [][2]impl.Bag{{a, b}, {b, a}} {
				both, ok := impl.MergeBag(x[0], x[1])
				checkNew(t, bagSpans(both, "merged"), all)
				if ok {
					merged++
				}
			}
		}
		values, _ := impl.ValuesIn(a)
		checkNew(t, valueSpans(values), given)
	}
	if merged < 200 {
		t.Error(merged)
	}
}

func TestLatestOnesAreNewMemory(t *testing.T) {
	for _, a := range goodLatests() {
		for _, b := range goodLatests() {
			a.Value, b.Value = strings.Clone(a.Value), strings.Clone(b.Value)
			later, _ := impl.MergeLatest(a, b)
			checkNew(t, []span{textSpan(later.Value, "value")}, []span{textSpan(a.Value, "one"), textSpan(b.Value, "other")})
		}
	}
}

// An empty list does not tell where another one lies.
func TestEmptyListsOfBagsAreNewMemory(t *testing.T) {
	l := manyAdds(4, 1)
	for _, none := range [][]impl.Add{l[:0], l[2:2], l[:0:0], l[4:]} {
		b := impl.Bag{Adds: none, Gone: none}
		added, _ := impl.AddTo(b, 0, "v")
		removed, _ := impl.RemoveFrom(b, "v")
		both, _ := impl.MergeBag(b, b)
		values, _ := impl.ValuesIn(b)
		for _, answer := range [][]impl.Add{added.Gone, removed.Adds, removed.Gone, both.Adds, both.Gone} {
			if len(answer) > 0 || cap(answer) > 0 {
				t.Error(answer, cap(answer))
			}
		}
		if len(values) > 0 || cap(values) > 0 {
			t.Error(values, cap(values))
		}
	}
}

// Two answers to one question lie apart: one may be written into.
func TestTwoAnswersOfWhatGrowsShareNoMemory(t *testing.T) {
	for range 2 {
		counted, _ := impl.CountBy(plainCounter(), 0, 1)
		merged, _ := impl.MergeCounter(counted, plainCounter())
		for _, c := range []impl.Counter{counted, merged} {
			if !sameCounter(c, counter([6]int{6, 0, 1000000, 3, 0, 7}, [6]int{0, 2, 999999, 3, 1, 0})) {
				t.Error(c)
			}
		}
		added, _ := impl.AddTo(plainBag(), 1, "a")
		removed, _ := impl.RemoveFrom(plainBag(), "v")
		both, _ := impl.MergeBag(added, removed)
		values, _ := impl.ValuesIn(plainBag())
		if bagText(added) != "0.2=v 1.1=w 1.4=v 1.5=a 5.9=x | 0.1=y 1.2=v 3.1=v" || bagText(removed) != "1.1=w 5.9=x | 0.1=y 0.2=v 1.2=v 1.4=v 3.1=v" {
			t.Error(bagText(added), bagText(removed))
		}
		if bagText(both) != "1.1=w 1.5=a 5.9=x | 0.1=y 0.2=v 1.2=v 1.4=v 3.1=v" || !slices.Equal(values, []string{"v", "w", "x"}) {
			t.Error(bagText(both), values)
		}
		for _, c := range []impl.Counter{counted, merged} {
			clear(c.Up[:cap(c.Up)])
			clear(c.Down[:cap(c.Down)])
		}
		for _, b := range []impl.Bag{added, removed, both} {
			clear(b.Adds[:cap(b.Adds)])
			clear(b.Gone[:cap(b.Gone)])
		}
		clear(values[:cap(values)])
	}
}

// Texts laid over bytes that change later show whether an answer still hangs on them.
func TestWhatGrowsDoesNotHangOnWhatWasGiven(t *testing.T) {
	b := []byte("abc")
	text := unsafe.String(&b[0], len(b))
	x := impl.Bag{Adds: []impl.Add{{Value: text, Actor: 1, N: 1}, {Value: text, Actor: 1, N: 3}}, Gone: []impl.Add{{Value: text, Actor: 2, N: 1}}}
	added, _ := impl.AddTo(x, 0, text)
	removed, _ := impl.RemoveFrom(x, text)
	both, _ := impl.MergeBag(x, impl.Bag{Gone: []impl.Add{{Value: text, Actor: 1, N: 3}}})
	values, _ := impl.ValuesIn(x)
	later, _ := impl.MergeLatest(impl.Latest{Value: text, Time: 2}, impl.Latest{Value: text, Time: 1})
	copy(b, "zzz")
	if bagText(added) != "0.1=abc 1.1=abc 1.3=abc | 2.1=abc" || bagText(removed) != "| 1.1=abc 1.3=abc 2.1=abc" || bagText(both) != "1.1=abc | 1.3=abc 2.1=abc" {
		t.Error(bagText(added), bagText(removed), bagText(both))
	}
	if !slices.Equal(values, []string{"abc"}) || later.Value != "abc" || later.Time != 2 {
		t.Error(values, later)
	}
}

// No order in which something is gone through is to be seen, and nothing is kept from call to call.
func TestWhatGrowsIsAnsweredAlikeAgain(t *testing.T) {
	full := impl.Bag{Adds: manyAdds(30, 1), Gone: manyAdds(40, 501)}
	more := impl.Bag{Adds: manyAdds(10, 801), Gone: full.Adds[:0]}
	want := bagAnswers(full, more, 3, "v3")
	counted := counterAnswers(plainCounter(), counterOfLengths(6, 6), 2, -1)
	for _, b := range someGrownBags() {
		bagAnswers(b, full, 1, "v")
		if got := bagAnswers(full, more, 3, "v3"); got != want {
			t.Fatalf("%s, and %s at first", got, want)
		}
		if got := counterAnswers(plainCounter(), counterOfLengths(6, 6), 2, -1); got != counted {
			t.Fatalf("%s, and %s at first", got, counted)
		}
	}
}

// Counters, latest ones and bags of anything at all are answered, and those that are not good by the zero answer.
func TestWhatGrowsOfAnything(t *testing.T) {
	numbers := []int{math.MinInt, math.MinInt + 1, -1001, -1, 0, 0, 1, 1, 2, 3, 5, 6, 999, 1000, 1001, 999999, 1000000, 1000001, 1 << 32, math.MaxInt - 1, math.MaxInt}
	texts := []string{"", "v", "v", "w", ";", "\xff\x00", strings.Repeat("x", 20), strings.Repeat("x", 21)}
	good, bad := 0, 0
	for seed := range 10000 {
		m := mixer(seed)
		number := func() int { return numbers[m.below(len(numbers))] }
		text := func() string { return texts[m.below(len(texts))] }
		list := func() []int {
			l := make([]int, 6+m.below(9)/8)
			for i := range l {
				if l[i] = m.below(1000001); m.below(12) == 0 {
					l[i] = number()
				}
			}
			return l
		}
		c, other := impl.Counter{Up: list(), Down: list()}, impl.Counter{Up: list(), Down: list()}
		checkCountBy(t, c, m.below(6), m.below(2001)-1000)
		checkCountBy(t, c, number(), number())
		checkMergeCounter(t, c, other)
		if impl.GoodCounter(c) != goodCounterAgain(c) {
			t.Fatalf("%v: %v", c, impl.GoodCounter(c))
		}
		checkMergeLatest(t, impl.Latest{Value: text(), Time: number(), Actor: number()}, impl.Latest{Value: text(), Time: number(), Actor: number()})
		a, b := drawnBag(&m), drawnBag(&m)
		for range m.below(3) {
			spoilBag(&m, &a, number(), text())
		}
		want := goodBagAgain(a)
		if impl.GoodBag(a) != want {
			t.Fatalf("%v: not %v", a, want)
		}
		if want {
			good++
			checkValues(t, a)
		} else {
			bad++
			if l, ok := impl.ValuesIn(a); l != nil || ok {
				t.Fatalf("%v: %v %v", a, l, ok)
			}
		}
		checkMergeBag(t, a, b)
		checkLessBag(t, a, b)
		checkLessBag(t, b, a)
		checkAddTo(t, a, number(), text())
		checkAddTo(t, a, m.below(6), "v")
		checkRemoveFrom(t, a, text())
	}
	if good < 2000 || bad < 2000 {
		t.Error(good, bad)
	}
}

// spoilBag puts a number, a value, or another add at one place.
func spoilBag(m *mixer, b *impl.Bag, number int, value string) {
	l := &b.Adds
	if m.below(2) == 0 {
		l = &b.Gone
	}
	if len(*l) == 0 {
		*l = append(*l, impl.Add{Value: value, Actor: m.below(6), N: number})
		return
	}
	a := &(*l)[m.below(len(*l))]
	switch m.below(6) {
	case 0:
		a.Value = value
	case 1:
		a.Actor = number
	case 2:
		a.N = number
	case 3:
		*l = append(*l, *a)
	case 4:
		*l = append(*l, impl.Add{Value: value, Actor: 5, N: 1000})
	case 5:
		(*l)[0], *a = *a, (*l)[0]
	}
}
