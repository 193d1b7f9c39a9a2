package tests

import (
	"fmt"
	"math"
	"slices"
	"strings"
	"testing"

	"loop.example/g00218/impl"
)

// bag reads a bag that is told like "0.1=v 2.3=w | 0.2=x": Adds, then Gone, each add as Actor, N and value.
func bag(text string) impl.Bag {
	adds, gone, _ := strings.Cut(text, "|")
	return impl.Bag{Adds: addsOf(adds), Gone: addsOf(gone)}
}

func addsOf(text string) []impl.Add {
	var l []impl.Add
	for _, word := range strings.Fields(text) {
		var a impl.Add
		place, value, _ := strings.Cut(word, "=")
		if _, err := fmt.Sscanf(place, "%d.%d", &a.Actor, &a.N); err != nil {
			panic(word)
		}
		a.Value = value
		l = append(l, a)
	}
	return l
}

func deepBag(b impl.Bag) impl.Bag {
	return impl.Bag{Adds: slices.Clone(b.Adds), Gone: slices.Clone(b.Gone)}
}

func sameBag(a, b impl.Bag) bool {
	return slices.Equal(a.Adds, b.Adds) && slices.Equal(a.Gone, b.Gone)
}

func isZeroBag(b impl.Bag) bool {
	return b.Adds == nil && b.Gone == nil
}

// plainBag has adds of four actors, and gone ones of three of them.
func plainBag() impl.Bag {
	return bag("0.2=v 1.1=w 1.4=v 5.9=x | 0.1=y 1.2=v 3.1=v")
}

// manyAdds are so many adds of one actor after another, from an N on.
func manyAdds(many, from int) []impl.Add {
	var l []impl.Add
	for i := range many {
		l = append(l, impl.Add{Value: fmt.Sprint("v", i), Actor: i * 6 / max(many, 6), N: from + i})
	}
	return l
}

// bagsWithAdds are bags of a list as Adds and as Gone, alone and beside another list.
func bagsWithAdds(l []impl.Add) []impl.Bag {
	other := addsOf("0.900=o 4.900=o 5.900=o")
	return []impl.Bag{{Adds: l}, {Gone: l}, {Adds: l, Gone: other}, {Adds: other, Gone: l}}
}

// bagsWithAdd are bags with an add that is put first, in the middle and last in either list.
func bagsWithAdd(actor, n int, value string) []impl.Bag {
	a := impl.Add{Value: value, Actor: actor, N: n}
	var l []impl.Bag
	for _, around := range []string{"", "0.1=v 0.2=v", "4.998=v 5.1000=v", "0.1=v 5.1000=v"} {
		rest := addsOf(around)
		for at := range len(rest) + 1 {
			with := slices.Insert(slices.Clone(rest), at, a)
			if slices.IsSortedFunc(with, compareAddAgain) {
				l = append(l, bagsWithAdds(with)...)
			}
		}
	}
	return l
}

func compareAddAgain(a, b impl.Add) int {
	if a.Actor != b.Actor {
		return sign(a.Actor > b.Actor)
	}
	if a.N != b.N {
		return sign(a.N > b.N)
	}
	return 0
}

func sign(greater bool) int {
	if greater {
		return 1
	}
	return -1
}

func goodBags() []impl.Bag {
	l := []impl.Bag{{}, {Adds: []impl.Add{}, Gone: []impl.Add{}}, plainBag()}
	for _, actor := range []int{0, 1, 4, 5} {
		l = append(l, bagsWithAdd(actor, 500, "v")...)
	}
	for _, n := range []int{1, 2, 999, 1000} {
		l = append(l, bagsWithAdd(3, n, "v")...)
	}
	values, _ := edgeValues()
	for _, value := range values {
		l = append(l, bagsWithAdd(3, 500, value)...)
	}
	for _, many := range []int{1, 2, 39, 40} {
		l = append(l, bagsWithAdds(manyAdds(many, 1))...)
		l = append(l, impl.Bag{Adds: manyAdds(many, 1), Gone: manyAdds(40, 101)}, impl.Bag{Adds: manyAdds(40, 1), Gone: manyAdds(many, 101)})
	}
	for _, text := range []string{
		"0.1=v 0.2=v 0.3=v", "0.9=v 1.8=v 2.7=v", "0.1000=v 1.1=v", "0.1=v 1.1=v 5.1=v", "0.1=z 0.2=a 1.1=",
		"0.1=v | 0.2=v", "0.2=v | 0.1=v", "0.1=v | 1.1=v", "1.1=v | 0.1=v", "0.1=v 0.3=v | 0.2=w 0.4=w", "0.2=v | 0.1=v 0.3=v",
	} {
		l = append(l, bag(text))
	}
	return l
}

func badBags() []impl.Bag {
	var l []impl.Bag
	for _, actor := range []int{-1, 6, 7, math.MinInt, math.MaxInt, 1 << 32, 1<<32 + 3} {
		l = append(l, bagsWithAdd(actor, 500, "v")...)
	}
	for _, n := range []int{-1, 0, 1001, 1002, math.MinInt, math.MaxInt, 1 << 32, 1<<32 + 500} {
		l = append(l, bagsWithAdd(3, n, "v")...)
	}
	_, values := edgeValues()
	for _, value := range values {
		l = append(l, bagsWithAdd(3, 500, value)...)
	}
	for _, many := range []int{41, 42, 80, 500} {
		l = append(l, bagsWithAdds(manyAdds(many, 1))...)
		l = append(l, impl.Bag{Adds: manyAdds(many, 1), Gone: manyAdds(40, 501)}, impl.Bag{Adds: manyAdds(40, 501), Gone: manyAdds(many, 1)})
	}
	// lists that fall, or have two alike, by Actor and by N, whatever the values are
	for _, text := range []string{
		"1.1=v 0.1=v", "1.1=v 0.2=w", "5.1=v 4.1=v", "0.1=v 2.1=v 1.1=v", "2.1=v 0.1=v 1.1=v", "1.1=v 2.1=v 0.1=v",
		"0.2=v 0.1=v", "0.1000=v 0.1=w", "0.1=v 0.3=v 0.2=v", "0.3=v 0.1=v 0.2=v", "0.1=v 1.2=v 1.1=v", "1.1=v 1.3=v 1.2=v 2.1=v",
		"0.1=v 0.1=v", "0.1=v 0.1=w", "5.1000=v 5.1000=v", "0.1=v 0.2=v 0.2=v", "0.1=v 0.1=v 0.2=v", "0.1=v 1.1=w 1.1=v 2.1=v",
	} {
		l = append(l, bagsWithAdds(addsOf(text))...)
	}
	// one of an Actor and an N in both lists
	for _, text := range []string{
		"0.1=v | 0.1=v", "0.1=v | 0.1=w", "5.1000=v | 5.1000=v", "0.1=v 0.2=v | 0.2=v", "0.1=v 0.2=v | 0.1=w", "0.1= | 0.1=v", "0.1=v | 0.1=",
		"1.2=v | 0.1=v 1.1=v 1.2=v", "0.1=v 1.1=v 2.1=v | 0.2=v 1.1=v 2.2=v", "0.1=v 1.1=v 2.1=v | 0.2=v 1.2=v 2.1=w", "0.1=v 1.1=v | 0.1=v 1.1=v", "0.1=v 1.1=w | 0.1=w 1.1=v",
	} {
		l = append(l, bag(text))
	}
	return l
}

// goodBagAgain tells the document's words a second time.
func goodBagAgain(b impl.Bag) bool {
	for _, l := range [][]impl.Add{b.Adds, b.Gone} {
		if len(l) > 40 {
			return false
		}
		for i, x := range l {
			if !valueAgain(x.Value) || x.Actor < 0 || x.Actor > 5 || x.N < 1 || x.N > 1000 {
				return false
			}
			for _, y := range l[:i] {
				if y.Actor > x.Actor || y.Actor == x.Actor && y.N >= x.N {
					return false
				}
			}
		}
	}
	for _, x := range b.Adds {
		for _, y := range b.Gone {
			if x.Actor == y.Actor && x.N == y.N {
				return false
			}
		}
	}
	return true
}

func TestGoodBag(t *testing.T) {
	good, bad := goodBags(), badBags()
	for _, b := range good {
		if !impl.GoodBag(b) || !goodBagAgain(b) {
			t.Errorf("%v is good", b)
		}
	}
	for _, b := range bad {
		if impl.GoodBag(b) || goodBagAgain(b) {
			t.Errorf("%v is not good", b)
		}
	}
	if len(good) < 200 || len(bad) < 200 {
		t.Error(len(good), len(bad))
	}
}

// smallLists are all lists of at most so many of these adds, in any order and with any alike.
func smallLists(many int, of []impl.Add) [][]impl.Add {
	all := [][]impl.Add{nil}
	for from := 0; many > 0; many-- {
		upTo := len(all)
		for _, l := range all[from:upTo] {
			for _, a := range of {
				all = append(all, append(slices.Clone(l), a))
			}
		}
		from = upTo
	}
	return all
}

func TestGoodBagOfAllThatAreSmall(t *testing.T) {
	lists := smallLists(2, append(addsOf("0.1=v 0.1=w 0.2=v 0.2=w 1.1=v 1.1=w 1.2=v 1.2=w 0.0=v 6.1=v"), impl.Add{}))
	good, bad := 0, 0
	for _, adds := range lists {
		for _, gone := range lists {
			b := impl.Bag{Adds: adds, Gone: gone}
			want := goodBagAgain(b)
			if impl.GoodBag(b) != want {
				t.Fatalf("%v: not %v", b, want)
			}
			if want {
				good++
			} else {
				bad++
			}
		}
	}
	if good < 300 || bad < 10000 {
		t.Error(good, bad)
	}
}

func TestBagsThatAreNotGoodHaveTheZeroAnswer(t *testing.T) {
	for _, b := range badBags() {
		if left, ok := impl.AddTo(b, 0, "v"); ok || !isZeroBag(left) {
			t.Errorf("%v: %v", b, left)
		}
		for _, value := range []string{"v", "none"} {
			if left, ok := impl.RemoveFrom(b, value); ok || !isZeroBag(left) {
				t.Errorf("%v: %v", b, left)
			}
		}
		if l, ok := impl.ValuesIn(b); ok || l != nil {
			t.Errorf("%v: %v", b, l)
		}
		for _, other := range []impl.Bag{{}, plainBag(), b, bag("0.1=v | 0.2=w")} {
			for _, x := range [][2]impl.Bag{{b, other}, {other, b}} {
				if both, ok := impl.MergeBag(x[0], x[1]); ok || !isZeroBag(both) {
					t.Errorf("%v: %v", x, both)
				}
				if less, ok := impl.LessBag(x[0], x[1]); less || ok {
					t.Errorf("%v: %v %v", x, less, ok)
				}
			}
		}
	}
}
