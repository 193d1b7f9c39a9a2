package tests

import (
	"fmt"
	"math"
	"slices"
	"strings"
	"testing"
	"unsafe"

	"loop.example/g00218/impl"
)

// callAnswers asks all functions of calls, and tells what they answered as one text.
func callAnswers(l []impl.Call, key string, order []int) string {
	linear, ok1 := impl.IsLinear(l)
	first, ok2 := impl.LinearOrder(l)
	sequential, ok3 := impl.IsSequential(l)
	of, ok4 := impl.OfKey(l, key)
	fits, ok5 := impl.FitsOrder(l, order)
	return fmt.Sprint(impl.GoodCalls(l), linear, ok1, first, ok2, sequential, ok3, of, ok4, fits, ok5)
}

// someCallLists are good ones, at the edges and mixed ones, and some that are not.
func someCallLists() [][]impl.Call {
	var all [][]impl.Call
	for _, text := range slices.Concat(goodTold(), badTold()) {
		all = append(all, calls(text))
	}
	for _, x := range likeOneCopy {
		all = append(all, calls(x.calls))
	}
	for seed := range 100 {
		all = append(all, someCalls(uint64(seed)))
	}
	return all
}

// ordersFor are some orders of n calls, and lists that are none.
func ordersFor(n int) [][]int {
	down := upTo(n)
	slices.Reverse(down)
	return [][]int{upTo(n), down, nil, {0}, slices.Repeat([]int{0}, n), upTo(n + 1)}
}

func TestNoCallsAreWrittenInto(t *testing.T) {
	for _, l := range someCallLists() {
		for _, order := range ordersFor(len(l)) {
			old, oldOrder := slices.Clone(l), slices.Clone(order)
			for _, key := range []string{"x", "y", "none", "", "?"} {
				callAnswers(l, key, order)
			}
			if !slices.Equal(l, old) || !slices.Equal(order, oldOrder) {
				t.Errorf("%s became %s, %v became %v", callsText(old), callsText(l), oldOrder, order)
			}
		}
	}
}

// Whatever lies behind the lengths, good or bad, is neither read nor written nor handed out.
func TestCallsKeepToTheirLengths(t *testing.T) {
	for _, l := range someCallLists() {
		for _, behind := range append(calls("9w:x=1@500000-500001 8r:x=9@500002-500003"), impl.Call{}) {
			for _, order := range ordersFor(len(l)) {
				long := append(slices.Clone(l), behind, behind, behind, behind)[:len(l)]
				more := append(slices.Clone(order), 0, len(l), -1)[:len(order)]
				old, oldMore := slices.Clone(long[:cap(long)]), slices.Clone(more[:cap(more)])
				if got, want := callAnswers(long, "x", more), callAnswers(l, "x", order); got != want {
					t.Fatalf("%s in %v: %s, not %s", callsText(l), order, got, want)
				}
				if !slices.Equal(long[:cap(long)], old) || !slices.Equal(more[:cap(more)], oldMore) {
					t.Fatalf("%s in %v: written behind its length", callsText(l), order)
				}
			}
		}
	}
}

func callSpans(l []impl.Call, what string) []span {
	spans := []span{spanOf(l, what)}
	for _, c := range l {
		spans = append(spans, textSpan(c.Key, what+"'s key"), textSpan(c.Value, what+"'s value"))
	}
	return spans
}

func TestCallsAreNewMemory(t *testing.T) {
	for _, l := range someCallLists() {
		l = append(slices.Clone(l), plainCall(), plainCall())[:len(l)]
		for _, key := range []string{"x", "y", "none"} {
			given := append(callSpans(l, "calls"), textSpan(key, "key"))
			of, _ := impl.OfKey(l, key)
			checkNew(t, callSpans(of, "calls of a key"), given)
			order, _ := impl.LinearOrder(l)
			checkNew(t, []span{spanOf(order, "order")}, given)
			// and what follows from an answer lies apart from it
			again, _ := impl.OfKey(of, key)
			checkNew(t, callSpans(again, "calls of a key again"), append(given, callSpans(of, "calls of a key")...))
		}
	}
}

// An empty part of a list does not tell where that list lies.
func TestEmptyCallsAreNewMemory(t *testing.T) {
	l := callsInARow(4)
	for _, none := range [][]impl.Call{l[:0], l[2:2], l[:0:0], l[4:], l[:2]} {
		of, ok := impl.OfKey(none, "none")
		if len(of) > 0 || !ok || cap(of) > 0 {
			t.Error(of, ok, cap(of))
		}
		checkNew(t, callSpans(of, "calls of a key"), callSpans(l, "calls"))
	}
	if order, ok := impl.LinearOrder(l[:0]); len(order) > 0 || !ok {
		t.Error(order, ok)
	}
}

// Two answers to one question lie apart: one may be written into.
func TestTwoAnswersOfCallsShareNoMemory(t *testing.T) {
	l := calls("0w:x=1@0-10 1r:x=1@1-3 2r:x=@2-6")
	for range 2 {
		order, _ := impl.LinearOrder(l)
		of, _ := impl.OfKey(l, "x")
		if !slices.Equal(order, []int{2, 0, 1}) || !slices.Equal(of, l) {
			t.Error(order, of)
		}
		clear(order[:cap(order)])
		clear(of[:cap(of)])
	}
}

// Texts laid over bytes that change later show whether an answer still hangs on them.
func TestCallsDoNotHangOnWhatWasGiven(t *testing.T) {
	b, asked := []byte("abcdefgh"), []byte("abcdefgh")
	text := unsafe.String(&b[0], len(b))
	of, ok := impl.OfKey([]impl.Call{{Key: text, Value: text, Start: 1, End: 2}}, unsafe.String(&asked[0], len(asked)))
	clear(b)
	clear(asked)
	if callsText(of) != "0r:abcdefgh=abcdefgh@1-2" || !ok {
		t.Error(of, ok)
	}
}

// What was asked before does not matter: nothing is kept from call to call.
func TestCallsAreAnsweredAlikeAgain(t *testing.T) {
	var first []string
	all := someCallLists()
	for _, l := range all {
		first = append(first, callAnswers(l, "x", upTo(len(l))))
	}
	for i, l := range slices.Backward(all) {
		if got := callAnswers(l, "x", upTo(len(l))); got != first[i] {
			t.Errorf("%s: %s, and %s at first", callsText(l), got, first[i])
		}
	}
}

// Calls of anything at all are answered, and those that are not good by the zero answer.
func TestCallsOfAnything(t *testing.T) {
	numbers := []int{math.MinInt, -1, 0, 0, 1, 2, 3, 4, 5, 6, 7, 9, 10, 999999, 1000000, math.MaxInt}
	texts := []string{"", "x", "x", "x", "y", "y", "1", "?", "\xff\x00", strings.Repeat("x", 1000)}
	good := 0
	for seed := range 40000 {
		m := mixer(seed)
		number := func() int { return numbers[m.below(len(numbers))] }
		text := func() string { return texts[m.below(len(texts))] }
		var l []impl.Call
		for range m.below(4) {
			l = append(l, impl.Call{Proc: number(), Write: m.below(2) == 0, Key: text(), Value: text(), Start: number(), End: number()})
		}
		var order []int
		for range m.below(5) {
			order = append(order, number())
		}
		callAnswers(l, text(), order)
		want := goodCallsAgain(l)
		if impl.GoodCalls(l) != want {
			t.Fatalf("%+v: not %v", l, want)
		}
		if !want {
			checkNoCalls(t, l)
			continue
		}
		checkLikeOneCopy(t, l)
		fits, ok := impl.FitsOrder(l, order)
		if is := isOrderAgain(len(l), order); ok != is || fits != (is && fitsAgain(l, order)) {
			t.Fatalf("%s in %v: %v %v", callsText(l), order, fits, ok)
		}
		if len(l) > 0 {
			good++
		}
	}
	if good < 300 {
		t.Error(good)
	}
}
