package tests

import (
	"math"
	"slices"
	"strings"
	"testing"

	"loop.example/g00218/impl"
)

func plainLatest() impl.Latest {
	return impl.Latest{Value: "v 2", Time: 77, Actor: 3}
}

// latestWith are the plain latest one with one field put to each of its variants.
func latestWith[T any](put func(*impl.Latest, T), variants ...T) []impl.Latest {
	var l []impl.Latest
	for _, v := range variants {
		x := plainLatest()
		put(&x, v)
		l = append(l, x)
	}
	return l
}

func putLatestValue(x *impl.Latest, value string) { x.Value = value }
func putLatestTime(x *impl.Latest, time int)      { x.Time = time }
func putLatestActor(x *impl.Latest, actor int)    { x.Actor = actor }

// edgeValues are values at the limits, and what is just none.
func edgeValues() (good, bad []string) {
	good = []string{"", " ", "~", ":", "<", "a", "v=w", strings.Repeat("v", 20), strings.Repeat(" ", 20)}
	bad = []string{";", "a;", ";a", "\x1f", "\x7f", "\x00", "\xff", "a\n", "é", strings.Repeat("v", 21), strings.Repeat("v", 19) + ";", strings.Repeat("v", 1000)}
	return good, bad
}

func goodLatests() []impl.Latest {
	values, _ := edgeValues()
	return slices.Concat(
		[]impl.Latest{{}, plainLatest()},
		latestWith(putLatestValue, values...),
		latestWith(putLatestTime, 0, 1, 76, 78, 999999, 1000000),
		latestWith(putLatestActor, 0, 1, 2, 4, 5),
	)
}

func badLatests() []impl.Latest {
	_, values := edgeValues()
	return slices.Concat(
		latestWith(putLatestValue, values...),
		latestWith(putLatestTime, -1, 1000001, math.MinInt, math.MaxInt, 1<<32, 1<<32+77),
		latestWith(putLatestActor, -1, 6, 7, math.MinInt, math.MaxInt, 1<<32, 1<<32+3),
	)
}

// mergeLatestAgain tells the document's words a second time.
func mergeLatestAgain(a, b impl.Latest) (impl.Latest, bool) {
	for _, x := range []impl.Latest{a, b} {
		if !valueAgain(x.Value) || x.Time < 0 || x.Time > 1000000 || x.Actor < 0 || x.Actor > 5 {
			return impl.Latest{}, false
		}
	}
	switch {
	case a.Time > b.Time:
		return a, true
	case a.Time == b.Time && a.Actor > b.Actor:
		return a, true
	case a.Time == b.Time && a.Actor == b.Actor && a.Value > b.Value:
		return a, true
	}
	return b, true
}

func checkMergeLatest(t *testing.T, a, b impl.Latest) impl.Latest {
	t.Helper()
	want, can := mergeLatestAgain(a, b)
	if got, ok := impl.MergeLatest(a, b); got != want || ok != can {
		t.Fatalf("%+v with %+v: %+v %v, not %+v %v", a, b, got, ok, want, can)
	}
	return want
}

func TestMergeLatest(t *testing.T) {
	for _, x := range []struct {
		less, more impl.Latest
	}{
		// a greater Time, whatever the Actor and the Value are
		{impl.Latest{Value: "z", Time: 0, Actor: 5}, impl.Latest{Value: "a", Time: 1, Actor: 0}},
		{impl.Latest{Value: "a", Time: 999999, Actor: 0}, impl.Latest{Value: "a", Time: 1000000, Actor: 0}},
		{impl.Latest{Value: "z", Time: 9, Actor: 5}, impl.Latest{Value: "", Time: 10, Actor: 4}},
		// the same Time and a greater Actor, whatever the Value is
		{impl.Latest{Value: "z", Time: 7, Actor: 0}, impl.Latest{Value: "a", Time: 7, Actor: 1}},
		{impl.Latest{Value: "a", Time: 7, Actor: 4}, impl.Latest{Value: "a", Time: 7, Actor: 5}},
		// the same both and a greater Value, by bytes
		{impl.Latest{Value: "", Time: 7, Actor: 2}, impl.Latest{Value: " ", Time: 7, Actor: 2}},
		{impl.Latest{Value: "a", Time: 7, Actor: 2}, impl.Latest{Value: "b", Time: 7, Actor: 2}},
		{impl.Latest{Value: "a", Time: 7, Actor: 2}, impl.Latest{Value: "aa", Time: 7, Actor: 2}},
		{impl.Latest{Value: "aa", Time: 7, Actor: 2}, impl.Latest{Value: "b", Time: 7, Actor: 2}},
		{impl.Latest{Value: "Z", Time: 7, Actor: 2}, impl.Latest{Value: "a", Time: 7, Actor: 2}},
		{impl.Latest{Value: "10", Time: 7, Actor: 2}, impl.Latest{Value: "9", Time: 7, Actor: 2}},
		// all alike
		{plainLatest(), plainLatest()},
		{impl.Latest{}, impl.Latest{}},
	} {
		for _, y := range [][2]impl.Latest{{x.less, x.more}, {x.more, x.less}, {x.more, x.more}} {
			if got := checkMergeLatest(t, y[0], y[1]); got != x.more {
				t.Errorf("%+v: %+v, not %+v", y, got, x.more)
			}
		}
	}
}

func TestMergeLatestAtItsEdges(t *testing.T) {
	good, bad := goodLatests(), badLatests()
	for _, a := range good {
		for _, b := range good {
			checkMergeLatest(t, a, b)
		}
		// in the first and in the second, the later one or not
		for _, b := range bad {
			for _, x := range [][2]impl.Latest{{a, b}, {b, a}, {b, b}} {
				if got, ok := impl.MergeLatest(x[0], x[1]); got != (impl.Latest{}) || ok {
					t.Errorf("%+v: %+v %v", x, got, ok)
				}
			}
		}
	}
}

// Promise 14, of all latest ones that are small: in any order, as often as one likes.
func TestLatestOnesArePutTogetherInAnyOrder(t *testing.T) {
	var all []impl.Latest
	for _, value := range []string{"", "a", "b"} {
		for time := range 3 {
			for actor := range 3 {
				all = append(all, impl.Latest{Value: value, Time: time, Actor: actor})
			}
		}
	}
	for _, a := range all {
		if aa := checkMergeLatest(t, a, a); aa != a {
			t.Fatal(a, aa)
		}
		for _, b := range all {
			ab, ba := checkMergeLatest(t, a, b), checkMergeLatest(t, b, a)
			if ab != ba || ab != a && ab != b {
				t.Fatal(a, b, ab, ba)
			}
			for _, c := range all {
				if x, y := checkMergeLatest(t, ab, c), checkMergeLatest(t, a, checkMergeLatest(t, b, c)); x != y {
					t.Fatal(a, b, c, x, y)
				}
			}
		}
	}
}
