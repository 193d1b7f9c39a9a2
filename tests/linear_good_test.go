package tests

import (
	"fmt"
	"math"
	"slices"
	"strings"
	"testing"

	"loop.example/g00218/impl"
)

// calls reads calls that are told like "0w:x=1@2-5": the Proc, w or r, the key, the value, Start and End.
func calls(text string) []impl.Call {
	var l []impl.Call
	for _, word := range strings.Fields(text) {
		var c impl.Call
		var kind rune
		head, rest, _ := strings.Cut(word, ":")
		cell, times, _ := strings.Cut(rest, "@")
		if _, err := fmt.Sscanf(head, "%d%c", &c.Proc, &kind); err != nil || kind != 'w' && kind != 'r' {
			panic(word)
		}
		if _, err := fmt.Sscanf(times, "%d-%d", &c.Start, &c.End); err != nil {
			panic(word)
		}
		c.Write = kind == 'w'
		c.Key, c.Value, _ = strings.Cut(cell, "=")
		l = append(l, c)
	}
	return l
}

// callsText tells calls in the form that calls reads.
func callsText(l []impl.Call) string {
	var words []string
	for _, c := range l {
		kind := "r"
		if c.Write {
			kind = "w"
		}
		words = append(words, fmt.Sprintf("%d%s:%s=%s@%d-%d", c.Proc, kind, c.Key, c.Value, c.Start, c.End))
	}
	return strings.Join(words, " ")
}

func plainCall() impl.Call {
	return impl.Call{Proc: 3, Write: true, Key: "k1", Value: "v 2", Start: 100, End: 200}
}

// callsWith are the plain call with one field put to each of its variants, as a read and as a write.
func callsWith[T any](put func(*impl.Call, T), variants ...T) []impl.Call {
	var l []impl.Call
	for _, v := range variants {
		for _, write := range []bool{false, true} {
			c := plainCall()
			c.Write = write
			put(&c, v)
			l = append(l, c)
		}
	}
	return l
}

func putProc(c *impl.Call, n int)         { c.Proc = n }
func putCallKey(c *impl.Call, key string) { c.Key = key }
func putCallValue(c *impl.Call, s string) { c.Value = s }
func putTimes(c *impl.Call, times [2]int) { c.Start, c.End = times[0], times[1] }

func goodOnes() []impl.Call {
	return slices.Concat(
		callsWith(putProc, 0, 1, 8, 9),
		callsWith(putCallKey, goodKeys()...),
		callsWith(putCallValue, goodValues()...),
		callsWith(putTimes, [][2]int{{0, 1}, {0, 999999}, {1, 2}, {999998, 999999}, {0, 999998}, {7, 8}}...))
}

func badOnes() []impl.Call {
	return slices.Concat(
		callsWith(putProc, -1, 10, 11, math.MinInt, math.MaxInt, 1<<32),
		callsWith(putCallKey, badKeys()...),
		callsWith(putCallValue, badValues()...),
		callsWith(putTimes, [][2]int{
			{-1, 0}, {-1, 1}, {-1, 999999}, {-2, -1}, {math.MinInt, 5}, {math.MinInt, math.MaxInt}, {math.MinInt, math.MinInt},
			{0, 0}, {5, 5}, {999999, 999999}, {1, 0}, {6, 5}, {200, 100}, {999999, 0}, {0, -1},
			{0, 1000000}, {999999, 1000000}, {1000000, 1000001}, {1000000, 0}, {1000000, 1000000}, {0, math.MaxInt}, {math.MaxInt, math.MaxInt}, {0, 1<<32 + 1},
		}...))
}

// goodTold are good calls, each list as a text: the edges of what is good among several.
func goodTold() []string {
	return []string{
		"",
		"0w:x=1@0-1",
		"0r:x=@0-999999",
		// of one Proc, one behind the other, in any order of the list
		"0w:x=1@0-1 0r:x=1@2-3",
		"0w:x=1@2-3 0r:x=1@0-1",
		"5w:x=1@10-20 5w:x=2@21-30 5w:x=3@0-9",
		"9r:a=@999996-999997 9r:b=@999998-999999",
		// of two Procs, in any way
		"0w:x=1@0-2 1w:x=2@1-3",
		"0w:x=1@1-3 1w:x=2@0-2",
		"0w:x=1@0-3 1w:x=2@1-2",
		"0w:x=1@1-2 1w:x=2@0-3",
		"0w:x=1@0-1 1w:x=2@2-3",
		"0w:x=1@2-3 1w:x=2@0-1",
		"0w:x=1@0-10 1r:x=1@1-3 2r:x=@4-6",
		// two of one Proc, and one of another that overlaps both
		"0w:x=1@0-2 1w:x=2@1-5 0r:x=1@3-4",
		"0w:x=1@0-1 1w:x=1@2-3 2w:x=1@4-5 3w:x=1@6-7 4w:x=1@8-9 5w:x=1@10-11 6w:x=1@12-13",
		"0w:x=1@0-1 0w:x=1@2-3 0w:x=1@4-5 0w:x=1@6-7 0w:x=1@8-9 0w:x=1@10-11 0w:x=1@12-13",
		"0w:x=1@0-7 1w:x=1@1-8 2w:x=1@2-9 3w:x=1@3-10 4w:x=1@4-11 5w:x=1@5-12 6w:x=1@6-13",
	}
}

func badTold() []string {
	return []string{
		// eight calls
		"0w:x=1@0-1 0w:x=1@2-3 0w:x=1@4-5 0w:x=1@6-7 0w:x=1@8-9 0w:x=1@10-11 0w:x=1@12-13 0w:x=1@14-15",
		"0r:x=@0-10 1r:x=@1-11 2r:x=@2-12 3r:x=@3-13 4r:x=@4-14 5r:x=@5-15 6r:x=@6-16 7r:x=@7-17",
		// two alike of all Starts and Ends, of two Procs: Start and Start, Start and End, End and Start, End and End
		"0w:x=1@0-2 1w:x=2@0-3",
		"0w:x=1@3-4 1w:x=2@0-3",
		"0w:x=1@0-3 1w:x=2@3-4",
		"0w:x=1@0-3 1w:x=2@1-3",
		"0w:x=1@0-3 1w:x=2@0-3",
		"0w:x=1@0-3 1r:y=2@4-5 2r:z=@6-7 3r:z=@7-8",
		"0w:x=1@0-3 1r:y=2@4-5 2r:z=@6-7 3r:z=@1-4",
		// of one Proc
		"0w:x=1@0-2 0w:x=2@0-3",
		"0w:x=1@0-3 0w:x=2@3-4",
		"0w:x=1@3-4 0w:x=2@0-3",
		"0w:x=1@0-3 0w:x=2@1-3",
		// of one Proc, and they overlap, or lie one within the other
		"0w:x=1@0-2 0w:x=2@1-3",
		"0w:x=1@1-3 0w:x=2@0-2",
		"0w:x=1@0-3 0w:x=2@1-2",
		"0w:x=1@1-2 0w:x=2@0-3",
		"9r:x=@0-2 9r:y=@1-3",
		"0r:x=@0-2 1r:x=@1-4 0r:x=@3-6 1r:x=@5-8 2r:x=@7-10 0r:x=@9-11 1r:x=@2000-3000 2r:x=@8-12",
		"0r:x=@0-2 1r:x=@1-4 2r:x=@3-9 0r:x=@5-6 1r:x=@7-8 0r:x=@10-20 0r:x=@11-19",
		"0r:x=@11-19 1r:x=@1-4 2r:x=@3-9 0r:x=@5-6 1r:x=@7-8 0r:x=@0-2 0r:x=@10-20",
	}
}

func TestLimitOfCalls(t *testing.T) {
	if impl.MaxCalls != 7 {
		t.Error(impl.MaxCalls)
	}
}

func TestGoodCalls(t *testing.T) {
	if !impl.GoodCalls(nil) || !impl.GoodCalls([]impl.Call{}) {
		t.Error("no call is good")
	}
	for _, text := range goodTold() {
		if !impl.GoodCalls(calls(text)) {
			t.Error(text, "is good")
		}
	}
	for _, text := range badTold() {
		if impl.GoodCalls(calls(text)) {
			t.Error(text, "is not good")
		}
	}
	for _, c := range goodOnes() {
		if !impl.GoodCalls([]impl.Call{c}) {
			t.Errorf("%+v is good", c)
		}
	}
}

// A bad call spoils a list wherever it stands.
func TestGoodCallsOfBadOnes(t *testing.T) {
	others := calls("0w:x=1@300-301 1r:y=@302-303")
	for _, c := range badOnes() {
		for at := range len(others) + 1 {
			if l := slices.Insert(slices.Clone(others), at, c); impl.GoodCalls(l) {
				t.Errorf("%+v at %d is not good", c, at)
			}
		}
		if impl.GoodCalls([]impl.Call{c}) {
			t.Errorf("%+v is not good", c)
		}
	}
}

func TestGoodCallsHaveALimit(t *testing.T) {
	for n, good := range []bool{true, true, true, true, true, true, true, true, false, false} {
		if l := callsInARow(n); impl.GoodCalls(l) != good {
			t.Error(n, callsText(l), !good)
		}
	}
	if l := callsInARow(10000); impl.GoodCalls(l) {
		t.Error(len(l), "calls are good")
	}
}

// callsInARow are n writes of one Proc, one behind the other.
func callsInARow(n int) []impl.Call {
	var l []impl.Call
	for i := range n {
		l = append(l, impl.Call{Write: true, Key: "x", Value: "1", Start: 2 * i, End: 2*i + 1})
	}
	return l
}

// goodCallsAgain tells the document's words a second time.
func goodCallsAgain(l []impl.Call) bool {
	times := map[int]int{}
	for i, c := range l {
		if c.Proc < 0 || c.Proc > 9 || !keyAgain(c.Key) || !valueAgain(c.Value) || c.Start < 0 || c.End <= c.Start {
			return false
		}
		times[c.Start]++
		times[c.End]++
		for j, other := range l {
			if i != j && c.Proc == other.Proc && !(c.End < other.Start || other.End < c.Start) {
				return false
			}
		}
	}
	for at, many := range times {
		if many > 1 || at >= 1000000 {
			return false
		}
	}
	return len(l) <= 7
}

// All pairs of calls at times in 0..4, of one Proc and of two.
func TestGoodCallsOfAllPairs(t *testing.T) {
	good := 0
	for i := range 5 * 5 * 5 * 5 * 2 {
		l := []impl.Call{
			{Key: "x", Write: true, Start: i % 5, End: i / 5 % 5},
			{Key: "x", Proc: i / 625, Start: i / 25 % 5, End: i / 125 % 5},
		}
		if want := goodCallsAgain(l); impl.GoodCalls(l) != want {
			t.Fatalf("%s: not %v", callsText(l), want)
		} else if want {
			good++
		}
	}
	// 5 ways to take four of the times: 2 ways to lay two apart, 4 to let them overlap
	if want := 5*2 + 5*6; good != want {
		t.Error(good, want)
	}
}

// Calls that are good, with one thing in them put as it may not be, or as it may.
func TestGoodCallsOfCallsThatAreChanged(t *testing.T) {
	good, bad := 0, 0
	for seed := range 6000 {
		l := someCalls(uint64(seed))
		if !impl.GoodCalls(l) {
			t.Fatal(callsText(l), "is good")
		}
		m := mixer(seed)
		for range min(len(l), m.below(3)+1) {
			spoilCall(&m, &l[m.below(len(l))])
		}
		want := goodCallsAgain(l)
		if want {
			good++
		} else {
			bad++
		}
		if impl.GoodCalls(l) != want {
			t.Fatalf("%s: not %v", callsText(l), want)
		}
	}
	if good < 1000 || bad < 1000 {
		t.Error(good, bad)
	}
}

func spoilCall(m *mixer, c *impl.Call) {
	switch m.below(6) {
	case 0:
		c.Proc = []int{-1, 0, 1, 2, 9, 10}[m.below(6)]
	case 1:
		c.Start = []int{-1, 0, 1, c.End - 1, c.End, 3, 5}[m.below(7)]
	case 2:
		c.End = []int{c.Start, c.Start + 1, c.Start + 2, 999999, 1000000, 9}[m.below(6)]
	case 3:
		c.Key = []string{"", "x", "y", "X", "abcdefghi"}[m.below(5)]
	case 4:
		c.Value = []string{"", "1", "2", ";", "a value of 21 bytes.."}[m.below(5)]
	case 5:
		c.Write = !c.Write
	}
}

// checkNoCalls asks whether all functions give calls that are not good the zero answer.
func checkNoCalls(t *testing.T, l []impl.Call) {
	t.Helper()
	if is, ok := impl.IsLinear(l); is || ok {
		t.Error("IsLinear", callsText(l), is, ok)
	}
	if is, ok := impl.IsSequential(l); is || ok {
		t.Error("IsSequential", callsText(l), is, ok)
	}
	if order, ok := impl.LinearOrder(l); order != nil || ok {
		t.Error("LinearOrder", callsText(l), order, ok)
	}
	for _, key := range []string{"x", "k1", "", "?"} {
		if of, ok := impl.OfKey(l, key); of != nil || ok {
			t.Error("OfKey", callsText(l), key, of, ok)
		}
	}
	for _, order := range [][]int{nil, {0}, {0, 1}, {1, 0}, {0, 1, 2}, upTo(len(l))} {
		if fits, ok := impl.FitsOrder(l, order); fits || ok {
			t.Error("FitsOrder", callsText(l), order, fits, ok)
		}
	}
}

// upTo are the numbers from 0 on, n of them.
func upTo(n int) []int {
	var l []int
	for i := range n {
		l = append(l, i)
	}
	return l
}

func TestBadCallsHaveTheZeroAnswer(t *testing.T) {
	for _, text := range badTold() {
		checkNoCalls(t, calls(text))
	}
	for _, c := range badOnes() {
		checkNoCalls(t, []impl.Call{c})
		checkNoCalls(t, append(calls("0w:x=1@300-301 1r:y=@302-303"), c))
	}
	checkNoCalls(t, callsInARow(8))
	checkNoCalls(t, callsInARow(10000))
}
