package tests

import (
	"fmt"
	"math"
	"slices"
	"strings"
	"testing"

	"loop.example/g00218/impl"
)

// bagText tells a bag in the form that bag reads.
func bagText(b impl.Bag) string {
	var words []string
	for _, a := range b.Adds {
		words = append(words, fmt.Sprintf("%d.%d=%s", a.Actor, a.N, a.Value))
	}
	words = append(words, "|")
	for _, a := range b.Gone {
		words = append(words, fmt.Sprintf("%d.%d=%s", a.Actor, a.N, a.Value))
	}
	return strings.Join(words, " ")
}

// smallBags are all good bags of at most so many adds in either list, of two actors, two numbers and two values.
func smallBags(many int) []impl.Bag {
	lists := smallLists(many, addsOf("0.1=v 0.1=w 0.2=v 0.2=w 1.1=v 1.1=w 1.2=v 1.2=w"))
	var l []impl.Bag
	for _, adds := range lists {
		for _, gone := range lists {
			if b := (impl.Bag{Adds: adds, Gone: gone}); goodBagAgain(b) {
				l = append(l, b)
			}
		}
	}
	return l
}

// addToAgain tells the document's words a second time.
func addToAgain(b impl.Bag, actor int, value string) (impl.Bag, bool) {
	if !goodBagAgain(b) || actor < 0 || actor > 5 || !valueAgain(value) {
		return impl.Bag{}, false
	}
	n := 1
	for slices.ContainsFunc(slices.Concat(b.Adds, b.Gone), func(a impl.Add) bool { return a.Actor == actor && a.N >= n }) {
		n++
	}
	b = deepBag(b)
	b.Adds = append(b.Adds, impl.Add{Value: value, Actor: actor, N: n})
	slices.SortStableFunc(b.Adds, compareAddAgain)
	if !goodBagAgain(b) {
		return impl.Bag{}, false
	}
	return b, true
}

func removeFromAgain(b impl.Bag, value string) (impl.Bag, bool) {
	if !goodBagAgain(b) || !valueAgain(value) {
		return impl.Bag{}, false
	}
	b = deepBag(b)
	for i := 0; i < len(b.Adds); {
		if b.Adds[i].Value != value {
			i++
			continue
		}
		b.Gone = append(b.Gone, b.Adds[i])
		b.Adds = slices.Delete(b.Adds, i, i+1)
	}
	slices.SortStableFunc(b.Gone, compareAddAgain)
	if !goodBagAgain(b) {
		return impl.Bag{}, false
	}
	return b, true
}

func checkAddTo(t *testing.T, b impl.Bag, actor int, value string) (impl.Bag, bool) {
	t.Helper()
	want, can := addToAgain(b, actor, value)
	got, ok := impl.AddTo(b, actor, value)
	if ok != can || !sameBag(got, want) || !ok && !isZeroBag(got) {
		t.Fatalf("%s with %d %q: %s %v, not %s %v", bagText(b), actor, value, bagText(got), ok, bagText(want), can)
	}
	return got, ok
}

func checkRemoveFrom(t *testing.T, b impl.Bag, value string) (impl.Bag, bool) {
	t.Helper()
	want, can := removeFromAgain(b, value)
	got, ok := impl.RemoveFrom(b, value)
	if ok != can || !sameBag(got, want) || !ok && !isZeroBag(got) {
		t.Fatalf("%s without %q: %s %v, not %s %v", bagText(b), value, bagText(got), ok, bagText(want), can)
	}
	return got, ok
}

func TestAddTo(t *testing.T) {
	for _, x := range []struct {
		b     string
		actor int
		value string
		want  string
	}{
		{"|", 0, "v", "0.1=v |"},
		{"|", 5, "", "5.1= |"},
		// the greatest N is in Adds, in Gone, of neither; numbers between are not taken again
		{"0.3=v | 0.2=v", 0, "w", "0.3=v 0.4=w | 0.2=v"},
		{"0.2=v | 0.3=v", 0, "w", "0.2=v 0.4=w | 0.3=v"},
		{"| 0.7=v", 0, "v", "0.8=v | 0.7=v"},
		{"0.7=v |", 0, "v", "0.7=v 0.8=v |"},
		{"0.7=v | 2.9=v", 1, "v", "0.7=v 1.1=v | 2.9=v"},
		{"0.2=v 0.9=v | 0.4=v", 0, "v", "0.2=v 0.9=v 0.10=v | 0.4=v"},
		// the new one stands behind those of its actor, ahead of those of greater ones, whatever its value is
		{"1.5=v 1.6=v 3.1=v", 1, "a", "1.5=v 1.6=v 1.7=a 3.1=v |"},
		{"1.5=v 1.6=v 3.1=v", 0, "z", "0.1=z 1.5=v 1.6=v 3.1=v |"},
		{"1.5=v 1.6=v 3.1=v", 2, "v", "1.5=v 1.6=v 2.1=v 3.1=v |"},
		{"1.5=v 1.6=v 3.1=v", 3, "v", "1.5=v 1.6=v 3.1=v 3.2=v |"},
		{"1.5=v 1.6=v 3.1=v", 5, "v", "1.5=v 1.6=v 3.1=v 5.1=v |"},
		// up to 1000, and the numbers of others do not matter
		{"0.999=v |", 0, "v", "0.999=v 0.1000=v |"},
		{"| 0.999=v", 0, "v", "0.1000=v | 0.999=v"},
		{"0.1000=v | 2.1000=v", 1, "v", "0.1000=v 1.1=v | 2.1000=v"},
	} {
		if got, ok := checkAddTo(t, bag(x.b), x.actor, x.value); !ok || bagText(got) != x.want {
			t.Errorf("%s with %d %s: %s %v, not %s", x.b, x.actor, x.value, bagText(got), ok, x.want)
		}
	}
	for _, x := range []struct {
		b     string
		actor int
		value string
	}{
		{"|", -1, "v"}, {"|", 6, "v"}, {"0.1=v |", 6, "v"}, {"0.1=v |", -1, "v"}, {"|", 0, "v;"}, {"0.1=v |", 0, "\x7f"},
		{"0.1000=v |", 0, "v"}, {"| 0.1000=v", 0, "v"}, {"0.1=v | 0.1000=w", 0, "v"}, {"5.1000=v | 5.1=v", 5, "v"},
	} {
		if got, ok := checkAddTo(t, bag(x.b), x.actor, x.value); ok {
			t.Errorf("%s with %d %s: %s", x.b, x.actor, x.value, bagText(got))
		}
	}
}

func TestAddToAtItsEdges(t *testing.T) {
	values, none := edgeValues()
	actors := []int{-1, 0, 1, 2, 3, 4, 5, 6, 7, math.MinInt, math.MaxInt, 1 << 32, 1<<32 + 3}
	for _, b := range append(goodBags(), smallBags(2)...) {
		for _, actor := range actors {
			checkAddTo(t, b, actor, "v")
		}
		for _, value := range slices.Concat(values, none) {
			checkAddTo(t, b, 2, value)
		}
	}
}

// There is room for 40 Adds, however many are gone.
func TestAddToABagThatIsFull(t *testing.T) {
	for _, gone := range [][]impl.Add{nil, manyAdds(1, 501), manyAdds(40, 501)} {
		for actor := range 6 {
			for _, many := range []int{38, 39} {
				b := impl.Bag{Adds: manyAdds(many, 1), Gone: gone}
				if left, ok := checkAddTo(t, b, actor, "v"); !ok || len(left.Adds) != many+1 {
					t.Error(many, actor, left, ok)
				}
			}
			if left, ok := checkAddTo(t, impl.Bag{Adds: manyAdds(40, 1), Gone: gone}, actor, "v"); ok {
				t.Error(actor, left)
			}
		}
	}
	var b impl.Bag
	for i := range 45 {
		left, ok := checkAddTo(t, b, i%7%6, fmt.Sprint(i))
		if ok != (i < 40) {
			t.Fatal(i, ok)
		}
		if ok {
			b = left
		}
	}
}

func TestRemoveFrom(t *testing.T) {
	for _, x := range []struct {
		b, value, want string
	}{
		// no add of the value: nothing changes, whether it is gone already or never was
		{"|", "v", "|"},
		{"0.1=v |", "w", "0.1=v |"},
		{"0.1=v | 0.2=w", "w", "0.1=v | 0.2=w"},
		{"| 0.2=w", "w", "| 0.2=w"},
		{"0.1=v |", "V", "0.1=v |"},
		{"0.1=v |", "v ", "0.1=v |"},
		{"0.1=vv |", "v", "0.1=vv |"},
		// of one actor, of several, several of one
		{"0.1=v |", "v", "| 0.1=v"},
		{"0.1=v 0.2=w |", "w", "0.1=v | 0.2=w"},
		{"0.1=v 2.1=v 5.1=v |", "v", "| 0.1=v 2.1=v 5.1=v"},
		{"0.1=v 0.2=v 0.3=v |", "v", "| 0.1=v 0.2=v 0.3=v"},
		{"0.1=v 0.2=w 0.3=v 1.1=w 1.2=v |", "v", "0.2=w 1.1=w | 0.1=v 0.3=v 1.2=v"},
		{"0.1= 1.1=v |", "", "1.1=v | 0.1="},
		// they stand among those that are gone already
		{"0.2=v 1.1=v | 0.1=w 0.3=v 1.2=w", "v", "| 0.1=w 0.2=v 0.3=v 1.1=v 1.2=w"},
		{"0.2=v 2.1=v | 1.1=w", "v", "| 0.2=v 1.1=w 2.1=v"},
		{"0.1000=v | 1.1=v", "v", "| 0.1000=v 1.1=v"},
	} {
		if got, ok := checkRemoveFrom(t, bag(x.b), x.value); !ok || bagText(got) != x.want {
			t.Errorf("%s without %s: %s %v, not %s", x.b, x.value, bagText(got), ok, x.want)
		}
	}
	_, none := edgeValues()
	for _, value := range none {
		for _, b := range []impl.Bag{{}, plainBag()} {
			if got, ok := checkRemoveFrom(t, b, value); ok {
				t.Errorf("%s without %q: %s", bagText(b), value, bagText(got))
			}
		}
	}
}

func TestRemoveFromManyBags(t *testing.T) {
	values, _ := edgeValues()
	for _, b := range append(goodBags(), smallBags(2)...) {
		for _, value := range append(values, "v", "w", "x", "o", "v1", "v39") {
			left, ok := checkRemoveFrom(t, b, value)
			if told, _ := impl.ValuesIn(left); ok && slices.Contains(told, value) {
				t.Fatalf("%s without %q: %s", bagText(b), value, bagText(left))
			}
		}
	}
}

// There is room for 40 that are gone.
func TestRemoveFromABagWhereManyAreGone(t *testing.T) {
	for many := range 5 {
		for gone := 34; gone <= 40; gone++ {
			b := impl.Bag{Adds: addsOf("5.900=v 5.901=w"), Gone: manyAdds(gone, 1)}
			for i := range many {
				b.Adds = append(b.Adds, impl.Add{Value: "x", Actor: 5, N: 950 + i})
			}
			left, ok := checkRemoveFrom(t, b, "x")
			if ok != (gone+many <= 40) || ok && len(left.Gone) != gone+many {
				t.Error(many, gone, left, ok)
			}
			if left, ok := checkRemoveFrom(t, b, "v"); ok != (gone < 40) {
				t.Error(many, gone, left, ok)
			}
		}
	}
	all := impl.Bag{Adds: manyAdds(40, 1)}
	for i := range all.Adds {
		all.Adds[i].Value = "same"
	}
	if left, ok := checkRemoveFrom(t, all, "same"); !ok || len(left.Gone) != 40 || len(left.Adds) != 0 {
		t.Error(left, ok)
	}
}

func TestValuesIn(t *testing.T) {
	for _, x := range []struct {
		b    string
		want []string
	}{
		{"|", nil},
		{"| 0.1=v 1.1=w", nil},
		{"0.1=v |", []string{"v"}},
		{"0.1= |", []string{""}},
		{"0.1=v 0.2=v |", []string{"v"}},
		{"0.1=v 3.7=v |", []string{"v"}},
		{"0.1=v 1.1=w 2.1=v |", []string{"v", "w"}},
		{"0.1=z 1.1=y 2.1=x |", []string{"x", "y", "z"}},
		{"0.1=b 0.2=a |", []string{"a", "b"}},
		{"0.1=b 1.1= 2.1=ab 3.1=a 4.1=b 5.1=B |", []string{"", "B", "a", "ab", "b"}},
		{"0.1=10 0.2=9 0.3=1 |", []string{"1", "10", "9"}},
		// another add of a value that is gone
		{"0.1=v | 0.2=v 0.3=w", []string{"v"}},
	} {
		if got, ok := impl.ValuesIn(bag(x.b)); !ok || !slices.Equal(got, x.want) {
			t.Errorf("%s: %q %v, not %q", x.b, got, ok, x.want)
		}
	}
	for _, b := range append(goodBags(), smallBags(2)...) {
		checkValues(t, b)
	}
}

// checkValues asks whether what is told are the values of the Adds, rising.
func checkValues(t *testing.T, b impl.Bag) []string {
	t.Helper()
	got, ok := impl.ValuesIn(b)
	for i, value := range got {
		has := slices.ContainsFunc(b.Adds, func(a impl.Add) bool { return a.Value == value })
		if !has || i > 0 && got[i-1] >= value {
			t.Fatalf("%s: %q", bagText(b), got)
		}
	}
	for _, a := range b.Adds {
		if !slices.Contains(got, a.Value) {
			t.Fatalf("%s: %q", bagText(b), got)
		}
	}
	if !ok {
		t.Fatalf("%s: no values", bagText(b))
	}
	return got
}
