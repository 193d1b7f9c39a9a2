package tests

import (
	"fmt"
	"slices"
	"testing"

	"loop.example/g00218/impl"
)

// mergeBagAgain tells the document's words a second time.
func mergeBagAgain(a, b impl.Bag) (impl.Bag, bool) {
	if !goodBagAgain(a) || !goodBagAgain(b) || areUnlikeAgain(a, b) {
		return impl.Bag{}, false
	}
	var both impl.Bag
	both.Gone = slices.Concat(a.Gone, b.Gone)
	for _, x := range slices.Concat(a.Adds, b.Adds) {
		if !slices.Contains(both.Gone, x) {
			both.Adds = append(both.Adds, x)
		}
	}
	slices.SortStableFunc(both.Adds, compareAddAgain)
	slices.SortStableFunc(both.Gone, compareAddAgain)
	both.Adds, both.Gone = slices.Compact(both.Adds), slices.Compact(both.Gone)
	if !goodBagAgain(both) {
		return impl.Bag{}, false
	}
	return both, true
}

// areUnlikeAgain tells whether one Actor and N has unlike values in both bags.
func areUnlikeAgain(a, b impl.Bag) bool {
	for _, x := range slices.Concat(a.Adds, a.Gone) {
		for _, y := range slices.Concat(b.Adds, b.Gone) {
			if x.Actor == y.Actor && x.N == y.N && x.Value != y.Value {
				return true
			}
		}
	}
	return false
}

func lessBagAgain(a, b impl.Bag) (bool, bool) {
	if !goodBagAgain(a) || !goodBagAgain(b) {
		return false, false
	}
	for _, x := range a.Gone {
		if !slices.Contains(b.Gone, x) {
			return false, true
		}
	}
	for _, x := range a.Adds {
		if !slices.Contains(b.Adds, x) && !slices.Contains(b.Gone, x) {
			return false, true
		}
	}
	return true, true
}

func checkLessBag(t *testing.T, a, b impl.Bag) bool {
	t.Helper()
	want, can := lessBagAgain(a, b)
	less, ok := impl.LessBag(a, b)
	if less != want || ok != can {
		t.Fatalf("%s less than %s: %v %v, not %v %v", bagText(a), bagText(b), less, ok, want, can)
	}
	return less
}

// checkMergeBag asks also for what is so of all that are put together: the other way round, again, and what is less.
func checkMergeBag(t *testing.T, a, b impl.Bag) (impl.Bag, bool) {
	t.Helper()
	want, can := mergeBagAgain(a, b)
	got, ok := impl.MergeBag(a, b)
	if ok != can || !sameBag(got, want) || !ok && !isZeroBag(got) {
		t.Fatalf("%s with %s: %s %v, not %s %v", bagText(a), bagText(b), bagText(got), ok, bagText(want), can)
	}
	if other, can := impl.MergeBag(b, a); can != ok || !sameBag(other, got) {
		t.Fatalf("%s with %s: %s %v, the other way round %s %v", bagText(a), bagText(b), bagText(got), ok, bagText(other), can)
	}
	if !ok {
		return got, false
	}
	for _, x := range []impl.Bag{a, b, got} {
		if less, ok := impl.LessBag(x, got); !less || !ok {
			t.Fatalf("%s is not less than %s: %v %v", bagText(x), bagText(got), less, ok)
		}
		if again, ok := impl.MergeBag(got, x); !ok || !sameBag(again, got) {
			t.Fatalf("%s with %s again: %s %v", bagText(got), bagText(x), bagText(again), ok)
		}
	}
	return got, true
}

func TestMergeBag(t *testing.T) {
	for _, x := range []struct {
		a, b, want string
	}{
		{"|", "|", "|"},
		{"0.1=v |", "|", "0.1=v |"},
		{"| 0.1=v", "|", "| 0.1=v"},
		// adds in one, in the other, in both
		{"0.1=v |", "1.1=v |", "0.1=v 1.1=v |"},
		{"0.1=v |", "0.2=v |", "0.1=v 0.2=v |"},
		{"0.1=v |", "0.1=v |", "0.1=v |"},
		{"0.1=v 0.3=w 2.1=x |", "0.2=y 0.3=w 1.9=z |", "0.1=v 0.2=y 0.3=w 1.9=z 2.1=x |"},
		// gone in one, in the other, in both
		{"| 0.1=v 2.2=w", "| 0.1=v 1.1=x", "| 0.1=v 1.1=x 2.2=w"},
		{"0.1=v | 0.2=v", "| 0.3=v", "0.1=v | 0.2=v 0.3=v"},
		// gone in one that is among the adds of the other
		{"0.1=v |", "| 0.1=v", "| 0.1=v"},
		{"0.1=v 0.2=v |", "| 0.1=v", "0.2=v | 0.1=v"},
		{"0.1=v | 0.2=w", "0.2=w | 0.1=v", "| 0.1=v 0.2=w"},
		{"0.1=v 1.1=v |", "0.1=v 2.1=v | 1.1=v", "0.1=v 2.1=v | 1.1=v"},
		{"0.1=v 0.2=v 0.3=v 0.4=v |", "0.5=v | 0.2=v 0.4=v", "0.1=v 0.3=v 0.5=v | 0.2=v 0.4=v"},
	} {
		for _, y := range [][2]string{{x.a, x.b}, {x.b, x.a}} {
			if got, ok := checkMergeBag(t, bag(y[0]), bag(y[1])); !ok || bagText(got) != bagText(bag(x.want)) {
				t.Errorf("%s with %s: %s %v, not %s", y[0], y[1], bagText(got), ok, x.want)
			}
		}
	}
}

// Unlike values of one Actor and N, in each pair of lists, among others or alone.
func TestMergeBagOfUnlikeValues(t *testing.T) {
	for _, x := range [][2]string{
		{"0.1=v |", "0.1=w |"}, {"0.1=v |", "| 0.1=w"}, {"| 0.1=v", "0.1=w |"}, {"| 0.1=v", "| 0.1=w"},
		{"0.1=v |", "0.1= |"}, {"0.1=v |", "| 0.1="}, {"| 0.1=v", "0.1= |"}, {"| 0.1=v", "| 0.1="},
		{"5.1000=v |", "5.1000=V |"}, {"5.1000=v |", "| 5.1000=vv"},
		{"0.1=a 1.1=v 2.1=c |", "0.1=a 1.1=w 2.1=c |"}, {"0.1=a 1.1=v 2.1=c |", "0.2=a | 1.1=w 2.2=c"},
		{"0.1=a | 1.1=v 2.1=c", "1.1=w 2.1=c | 0.1=a"}, {"0.1=a | 1.1=v 2.1=c", "0.1=a | 1.1=w 2.1=c"},
		// twice
		{"0.1=v 1.1=v |", "0.1=w 1.1=w |"}, {"0.1=v 1.1=v |", "| 0.1=w 1.1=w"}, {"0.1=v | 1.1=v", "1.1=w | 0.1=w"}, {"| 0.1=v 1.1=v", "| 0.1=w 1.1=w"},
	} {
		for _, y := range [][2]string{{x[0], x[1]}, {x[1], x[0]}} {
			a, b := bag(y[0]), bag(y[1])
			if got, ok := checkMergeBag(t, a, b); ok {
				t.Errorf("%v: %s", y, bagText(got))
			}
			if checkLessBag(t, a, b) {
				t.Errorf("%v: less", y)
			}
		}
	}
}

// There is room for 40 Adds and for 40 that are gone, whichever bag they come from.
func TestMergeBagUpToItsLimits(t *testing.T) {
	for mine := 0; mine <= 40; mine += 5 {
		for others := 34 - mine; others <= 43-mine; others++ {
			if others < 0 || others > 40 {
				continue
			}
			x, y := manyAdds(mine, 1), manyAdds(others, 501)
			for _, bags := range [][2]impl.Bag{
				{{Adds: x}, {Adds: y}}, {{Gone: x}, {Gone: y}},
				{{Adds: x, Gone: manyAdds(40, 801)}, {Adds: y}}, {{Gone: x, Adds: manyAdds(40, 801)}, {Gone: y}},
			} {
				if both, ok := checkMergeBag(t, bags[0], bags[1]); ok != (mine+others <= 40) {
					t.Error(mine, others, both, ok)
				}
			}
		}
	}
	full := manyAdds(40, 1)
	if both, ok := checkMergeBag(t, impl.Bag{Adds: full}, impl.Bag{Adds: full}); !ok || len(both.Adds) != 40 {
		t.Error(both, ok)
	}
	if both, ok := checkMergeBag(t, impl.Bag{Adds: full}, impl.Bag{Gone: full}); !ok || len(both.Gone) != 40 || len(both.Adds) != 0 {
		t.Error(both, ok)
	}
	// one too many, but for one of them that is gone
	one := addsOf("5.900=v")
	if both, ok := checkMergeBag(t, impl.Bag{Adds: full}, impl.Bag{Adds: one, Gone: full[7:8]}); !ok || len(both.Adds) != 40 {
		t.Error(both, ok)
	}
	if both, ok := checkMergeBag(t, impl.Bag{Adds: full, Gone: one}, impl.Bag{Adds: one}); !ok || len(both.Adds) != 40 {
		t.Error(both, ok)
	}
	if both, ok := checkMergeBag(t, impl.Bag{Gone: full}, impl.Bag{Adds: full[:1], Gone: one}); ok {
		t.Error(both)
	}
}

func TestMergeBagOfManyBags(t *testing.T) {
	merged, refused := 0, 0
	all := append(goodBags(), badBags()...)
	for i, a := range all {
		for j, b := range all {
			if i%7 != 0 && j%7 != 0 {
				continue
			}
			if _, ok := checkMergeBag(t, a, b); ok {
				merged++
			} else {
				refused++
			}
			checkLessBag(t, a, b)
		}
	}
	if merged < 5000 || refused < 5000 {
		t.Error(merged, refused)
	}
}

func TestMergeBagOfAllThatAreSmall(t *testing.T) {
	merged, refused, less := 0, 0, 0
	all := smallBags(2)
	for _, a := range all {
		for _, b := range all {
			if _, ok := checkMergeBag(t, a, b); ok {
				merged++
			} else {
				refused++
			}
			if checkLessBag(t, a, b) {
				less++
			}
		}
	}
	if merged < 10000 || refused < 10000 || less < 1000 {
		t.Error(merged, refused, less)
	}
}

// Promise 14, of all bags that are small and three that come together: in any order.
func TestThreeBagsArePutTogetherInAnyOrder(t *testing.T) {
	all := smallBags(1)
	together := 0
	for _, a := range all {
		for _, b := range all {
			ab, ok1 := impl.MergeBag(a, b)
			for _, c := range all {
				bc, ok2 := impl.MergeBag(b, c)
				x, ok3 := impl.MergeBag(ab, c)
				y, ok4 := impl.MergeBag(a, bc)
				if (ok1 && ok3) != (ok2 && ok4) {
					t.Fatalf("%s, %s, %s: %v %v %v %v", bagText(a), bagText(b), bagText(c), ok1, ok2, ok3, ok4)
				}
				if !ok1 || !ok3 {
					continue
				}
				together++
				if !sameBag(x, y) {
					t.Fatalf("%s, %s, %s: %s, or %s", bagText(a), bagText(b), bagText(c), bagText(x), bagText(y))
				}
			}
		}
	}
	if together < 10000 {
		t.Error(together)
	}
}

func TestLessBag(t *testing.T) {
	for _, x := range []struct {
		a, b string
		want bool
	}{
		{"|", "|", true},
		{"|", "0.1=v | 0.2=w", true},
		{"0.1=v | 0.2=w", "0.1=v | 0.2=w", true},
		{"0.1=v |", "0.1=v 0.2=w |", true},
		{"0.1=v |", "| 0.1=v", true},
		{"0.1=v 0.2=v |", "0.1=v | 0.2=v", true},
		{"0.1=v | 0.2=w", "| 0.1=v 0.2=w 0.3=x", true},
		// something of a's Gone is among b's Adds, or unknown to it
		{"| 0.1=v", "|", false},
		{"| 0.1=v", "0.1=v |", false},
		{"| 0.1=v 0.2=v", "0.2=v | 0.1=v", false},
		{"| 0.1=v 0.2=v", "0.3=v | 0.1=v", false},
		{"0.1=v | 0.2=v", "0.1=v |", false},
		// something of a's Adds is unknown to b
		{"0.1=v |", "|", false},
		{"0.1=v |", "0.2=v |", false},
		{"0.1=v |", "1.1=v |", false},
		{"0.1=v |", "| 0.2=v", false},
		{"0.1=v 0.2=v |", "0.1=v |", false},
		{"0.1=v 0.2=v |", "| 0.1=v", false},
		{"0.1=v 5.1000=v | 0.2=w", "0.1=v | 0.2=w", false},
		// one of an Actor and an N with another value
		{"0.1=v |", "0.1=w |", false},
		{"0.1=v |", "| 0.1=w", false},
		{"| 0.1=v", "| 0.1=w", false},
		{"| 0.1=v", "0.1=w |", false},
	} {
		a, b := bag(x.a), bag(x.b)
		if less := checkLessBag(t, a, b); less != x.want {
			t.Errorf("%s less than %s: %v", x.a, x.b, less)
		}
	}
}

// What both know together may be more than a bag can have: nothing is told of it.
func TestLessBagOfFullBags(t *testing.T) {
	for _, gone := range []int{0, 1, 40} {
		a := impl.Bag{Adds: manyAdds(40, 1), Gone: manyAdds(gone, 401)}
		b := impl.Bag{Adds: manyAdds(40, 201), Gone: manyAdds(40, 601)}
		for _, x := range [][2]impl.Bag{{a, b}, {b, a}} {
			if less, ok := impl.LessBag(x[0], x[1]); less || !ok {
				t.Error(gone, less, ok)
			}
		}
		if !checkLessBag(t, a, a) || !checkLessBag(t, impl.Bag{Adds: a.Adds[3:9]}, a) {
			t.Error(gone, "is as much as itself")
		}
		for i := range 40 {
			less := deepBag(a)
			less.Adds[i].Value += "?"
			if checkLessBag(t, less, a) || checkLessBag(t, a, less) {
				t.Error(fmt.Sprint(gone, ": another value at ", i))
			}
			less = deepBag(a)
			less.Adds = slices.Delete(less.Adds, i, i+1)
			if !checkLessBag(t, less, a) || checkLessBag(t, a, less) {
				t.Error(fmt.Sprint(gone, ": one less at ", i))
			}
		}
	}
}
