package tests

import (
	"fmt"
	"math"
	"slices"
	"strconv"
	"strings"
	"testing"

	"loop.example/g00218/impl"
)

// parcels are told as a text: amounts, and M for a mark.
func parcels(text string) []impl.Parcel {
	var l []impl.Parcel
	for _, word := range strings.Fields(text) {
		if word == "M" {
			l = append(l, impl.Parcel{Mark: true})
			continue
		}
		amount, err := strconv.Atoi(word)
		if err != nil {
			panic(word)
		}
		l = append(l, impl.Parcel{Amount: amount})
	}
	return l
}

func way(from, to int, on string) impl.Way {
	return impl.Way{From: from, To: to, Parcels: parcels(on)}
}

func watchedWay(from, to int, on string, seen ...int) impl.Way {
	return impl.Way{From: from, To: to, Parcels: parcels(on), Watched: true, Seen: seen}
}

// plainNet has two banks that are Marked and one that is not: a way of each kind.
func plainNet() impl.Net {
	brought := way(2, 0, "8")
	brought.Seen = []int{3, 3}
	return impl.Net{
		Banks: []impl.Bank{{Amount: 10, Marked: true, Noted: 7}, {Amount: 20}, {Amount: 30, Marked: true, Noted: 31}},
		Ways: []impl.Way{
			way(0, 1, "5 M 3"),
			watchedWay(0, 2, "4 M", 2, 6),
			watchedWay(1, 0, "9 1", 1),
			watchedWay(1, 2, ""),
			brought,
			way(2, 1, "M"),
		},
	}
}

// freshNet has so many banks with an amount each, and nothing on any way.
func freshNet(many, amount int) impl.Net {
	var n impl.Net
	for from := range many {
		n.Banks = append(n.Banks, impl.Bank{Amount: amount})
		for to := range many {
			if to != from {
				n.Ways = append(n.Ways, impl.Way{From: from, To: to})
			}
		}
	}
	return n
}

func deepNet(n impl.Net) impl.Net {
	n.Banks, n.Ways = slices.Clone(n.Banks), slices.Clone(n.Ways)
	for i := range n.Ways {
		n.Ways[i].Parcels, n.Ways[i].Seen = slices.Clone(n.Ways[i].Parcels), slices.Clone(n.Ways[i].Seen)
	}
	return n
}

func sameWay(a, b impl.Way) bool {
	return a.From == b.From && a.To == b.To && a.Watched == b.Watched && slices.Equal(a.Parcels, b.Parcels) && slices.Equal(a.Seen, b.Seen)
}

func sameNet(a, b impl.Net) bool {
	return slices.Equal(a.Banks, b.Banks) && slices.EqualFunc(a.Ways, b.Ways, sameWay)
}

func isZeroNet(n impl.Net) bool {
	return n.Banks == nil && n.Ways == nil
}

// A netChange is put to the net of plainNet, and has a name.
type netChange struct {
	name string
	put  func(n *impl.Net)
}

func netChanges[T any](name string, put func(n *impl.Net, x T), things ...T) []netChange {
	var changes []netChange
	for _, x := range things {
		changes = append(changes, netChange{fmt.Sprintf("%s %v", name, x), func(n *impl.Net) { put(n, x) }})
	}
	return changes
}

func changedNet(c netChange) impl.Net {
	n := plainNet()
	c.put(&n)
	return n
}

func putBanks(n *impl.Net, many int) { *n = freshNet(many, 3) }

func putAmountOfFirst(n *impl.Net, amount int) { n.Banks[0].Amount = amount }

func putAmountOfUnmarked(n *impl.Net, amount int) { n.Banks[1].Amount = amount }

func putAmountOfLastBank(n *impl.Net, amount int) { n.Banks[2].Amount = amount }

func putNotedOfFirst(n *impl.Net, noted int) { n.Banks[0].Noted = noted }

func putNotedOfUnmarked(n *impl.Net, noted int) { n.Banks[1].Noted = noted }

func putNotedOfLast(n *impl.Net, noted int) { n.Banks[2].Noted = noted }

// putOnMarked puts what is on the way whose mark is on it still, from a bank that is Marked to another one.
func putOnMarked(n *impl.Net, on string) { n.Ways[1].Parcels = parcels(on) }

// putOnUnmarked puts what is on a way to the bank that is not Marked, from one that is.
func putOnUnmarked(n *impl.Net, on string) { n.Ways[5].Parcels = parcels(on) }

// putOnEarly puts what is on a way from the bank that is not Marked to one that is.
func putOnEarly(n *impl.Net, on string) { n.Ways[2].Parcels = parcels(on) }

// putOnBrought puts what is on the way that has brought its mark.
func putOnBrought(n *impl.Net, on string) { n.Ways[4].Parcels = parcels(on) }

func putParcelAtEnd(n *impl.Net, p impl.Parcel) { n.Ways[5].Parcels = append(n.Ways[5].Parcels, p) }

func putParcelAhead(n *impl.Net, p impl.Parcel) {
	n.Ways[0].Parcels = append([]impl.Parcel{p}, n.Ways[0].Parcels...)
}

func putManyParcels(n *impl.Net, many int) {
	n.Ways[2].Parcels = slices.Repeat(parcels("1"), many)
}

// putManyBehindMark puts so many parcels, one of them a mark, in the place of all that is on a way.
func putManyBehindMark(n *impl.Net, many int) {
	n.Ways[0].Parcels = append(parcels("M"), slices.Repeat(parcels("2"), many-1)...)
}

func putSeenWatched(n *impl.Net, seen []int) { n.Ways[3].Seen = seen }

func putSeenBrought(n *impl.Net, seen []int) { n.Ways[4].Seen = seen }

func putSeenUnmarked(n *impl.Net, seen []int) { n.Ways[0].Seen = seen }

func putManySeenWatched(n *impl.Net, many int) { n.Ways[1].Seen = slices.Repeat([]int{4}, many) }

func putManySeenBrought(n *impl.Net, many int) { n.Ways[4].Seen = slices.Repeat([]int{4}, many) }

// turnWatched turns round whether a way is Watched.
func turnWatched(n *impl.Net, at int) { n.Ways[at].Watched = !n.Ways[at].Watched }

// turnMarked turns round whether a bank is Marked, with all else as it was.
func turnMarked(n *impl.Net, at int) { n.Banks[at].Marked = !n.Banks[at].Marked }

func putEnds(n *impl.Net, at [3]int) { n.Ways[at[0]].From, n.Ways[at[0]].To = at[1], at[2] }

func swapWays(n *impl.Net, at [2]int) {
	n.Ways[at[0]], n.Ways[at[1]] = n.Ways[at[1]], n.Ways[at[0]]
}

func dropWay(n *impl.Net, at int) { n.Ways = slices.Delete(n.Ways, at, at+1) }

func doubleWay(n *impl.Net, at int) { n.Ways = slices.Insert(n.Ways, at, n.Ways[at]) }

func goodNetChanges() []netChange {
	seen := [][]int{nil, {}, {1}, {2, 1}, {1000000}, {1, 1000000, 1, 1}}
	return slices.Concat(
		netChanges("banks", putBanks, 2, 3, 4, 5),
		netChanges("Amount of the first", putAmountOfFirst, 0, 1, 999999, 1000000),
		netChanges("Amount of the one between", putAmountOfUnmarked, 0, 1, 999999, 1000000),
		netChanges("Amount of the last", putAmountOfLastBank, 0, 1, 999999, 1000000),
		netChanges("Noted of the first", putNotedOfFirst, 0, 1, 999999, 1000000),
		netChanges("Noted of the last", putNotedOfLast, 0, 1, 999999, 1000000),
		netChanges("on a way with its mark", putOnMarked, "M", "M 1", "1 M", "1 2 M 3", "1000000 M 1000000"),
		netChanges("on a way to a bank not Marked", putOnUnmarked, "M", "M 1", "1 M", "1 2 M 3", "1000000 M"),
		netChanges("on a way from a bank not Marked", putOnEarly, "", "1", "1 1", "3 2 1", "1000000 1"),
		netChanges("on a way that has brought its mark", putOnBrought, "", "1", "1 1", "3 2 1", "1000000 1"),
		netChanges("a parcel at the end", putParcelAtEnd, impl.Parcel{Amount: 1}, impl.Parcel{Amount: 1000000}),
		netChanges("a parcel ahead", putParcelAhead, impl.Parcel{Amount: 1}, impl.Parcel{Amount: 1000000}),
		netChanges("so many parcels", putManyParcels, 0, 1, 19, 20),
		netChanges("so many with the mark", putManyBehindMark, 1, 2, 19, 20),
		netChanges("Seen and Watched", putSeenWatched, seen...),
		netChanges("Seen and not Watched", putSeenBrought, seen...),
		netChanges("Seen of a bank not Marked", putSeenUnmarked, nil, []int{}),
		netChanges("so many Seen", putManySeenWatched, 0, 1, 199, 200),
		netChanges("so many Seen, not Watched", putManySeenBrought, 0, 1, 199, 200),
	)
}

func badNetChanges() []netChange {
	const least, greatest = math.MinInt, math.MaxInt
	beyond := []int{-1, 1000001, 1000002, least, greatest, 1<<32 + 5}
	seen := [][]int{{0}, {-1}, {1000001}, {1, 0}, {0, 1}, {1, 1000001, 1}, {least}, {greatest}, {1<<32 + 1}}
	return slices.Concat(
		netChanges("banks", putBanks, 0, 1, 6, 7, 10),
		netChanges("Amount of the first", putAmountOfFirst, beyond...),
		netChanges("Amount of the one between", putAmountOfUnmarked, beyond...),
		netChanges("Amount of the last", putAmountOfLastBank, beyond...),
		netChanges("Noted of the first", putNotedOfFirst, beyond...),
		netChanges("Noted of the last", putNotedOfLast, beyond...),
		netChanges("Noted, not Marked", putNotedOfUnmarked, append(beyond, 1, 20, 1000000)...),
		netChanges("on a way with its mark", putOnMarked, "", "1", "1 2", "M M", "M 1 M", "1 M M", "M 0", "0 M", "M -1", "1000001 M"),
		netChanges("on a way to a bank not Marked", putOnUnmarked, "", "1", "M M", "M 1 M", "M 0", "-1 M", "M 1000001"),
		netChanges("on a way from a bank not Marked", putOnEarly, "M", "1 M", "M 1", "0", "1 0", "-1", "1000001", "M M"),
		netChanges("on a way that has brought its mark", putOnBrought, "M", "1 M", "0", "1 0", "-1", "1000001", "M M"),
		netChanges("a parcel at the end", putParcelAtEnd, badParcels()...),
		netChanges("a parcel ahead", putParcelAhead, badParcels()...),
		netChanges("so many parcels", putManyParcels, 21, 22, 200),
		netChanges("so many with the mark", putManyBehindMark, 21, 22, 200),
		netChanges("Seen and Watched", putSeenWatched, seen...),
		netChanges("Seen and not Watched", putSeenBrought, seen...),
		netChanges("Seen of a bank not Marked", putSeenUnmarked, []int{1}, []int{0}, []int{1, 2}),
		netChanges("so many Seen", putManySeenWatched, 201, 202, 1000),
		netChanges("so many Seen, not Watched", putManySeenBrought, 201, 202, 1000),
		netChanges("Watched turned round", turnWatched, 0, 1, 2, 3, 4, 5),
		netChanges("Marked turned round", turnMarked, 0, 1, 2),
		netChanges("ends", putEnds, [][3]int{
			{0, 0, 0}, {0, 0, 2}, {0, 1, 0}, {0, -1, 1}, {0, 0, -1}, {0, 3, 1}, {0, 0, 3}, {5, 2, 2}, {5, 2, 3}, {5, 3, 0}, {5, 3, 1}, {3, 1, 1},
			{2, 0, 0}, {2, 1, -1}, {2, -1, 0}, {0, least, 1}, {0, 0, greatest}, {0, 1 << 32, 1}, {0, 0, 1<<32 + 1},
		}...),
		netChanges("other order", swapWays, [][2]int{{0, 1}, {0, 5}, {0, 2}, {2, 3}, {4, 5}, {1, 2}}...),
		netChanges("without", dropWay, 0, 1, 2, 3, 4, 5),
		netChanges("twice", doubleWay, 0, 1, 2, 3, 4, 5),
	)
}

// badParcels are none, anywhere.
func badParcels() []impl.Parcel {
	return []impl.Parcel{
		{}, {Amount: -1}, {Amount: 1000001}, {Amount: math.MinInt}, {Amount: math.MaxInt}, {Amount: 1<<32 + 1},
		{Mark: true}, {Mark: true, Amount: 1}, {Mark: true, Amount: -1}, {Mark: true, Amount: 1000000},
	}
}

// goodNetAgain tells the document's words a second time.
func goodNetAgain(n impl.Net) bool {
	if len(n.Banks) < 2 || len(n.Banks) > 5 {
		return false
	}
	for _, b := range n.Banks {
		if b.Amount < 0 || b.Amount > 1000000 || b.Noted < 0 || b.Noted > 1000000 || b.Noted != 0 && !b.Marked {
			return false
		}
	}
	at := 0
	for from := range n.Banks {
		for to := range n.Banks {
			if from == to {
				continue
			}
			if at >= len(n.Ways) || n.Ways[at].From != from || n.Ways[at].To != to || !goodWayAgain(n.Ways[at], n.Banks) {
				return false
			}
			at++
		}
	}
	return at == len(n.Ways)
}

func goodWayAgain(w impl.Way, banks []impl.Bank) bool {
	from, to, marks := banks[w.From].Marked, banks[w.To].Marked, 0
	for _, p := range w.Parcels {
		switch {
		case p.Mark && p.Amount == 0:
			marks++
		case p.Mark || p.Amount < 1 || p.Amount > 1000000:
			return false
		}
	}
	for _, amount := range w.Seen {
		if amount < 1 || amount > 1000000 || !to {
			return false
		}
	}
	switch {
	case len(w.Parcels) > 20 || len(w.Seen) > 200 || marks > 1 || marks == 1 && !from || w.Watched && !to:
		return false
	case from && to:
		return w.Watched == (marks == 1)
	case to:
		return w.Watched
	case from:
		return marks == 1
	}
	return true
}

func TestLimitsOfNets(t *testing.T) {
	if impl.MaxBanks != 5 || impl.MaxWay != 20 || impl.MaxBankSteps != 120 {
		t.Error(impl.MaxBanks, impl.MaxWay, impl.MaxBankSteps)
	}
	if kinds := []int{impl.BankSend, impl.BankTake, impl.BankMark}; !slices.Equal(kinds, []int{1, 2, 3}) {
		t.Error(kinds)
	}
}

func TestGoodNet(t *testing.T) {
	if n := plainNet(); !impl.GoodNet(n) || !goodNetAgain(n) {
		t.Error(n, "is good")
	}
	if impl.GoodNet(impl.Net{}) || impl.GoodNet(impl.Net{Banks: make([]impl.Bank, 2)}) || impl.GoodNet(impl.Net{Ways: freshNet(2, 0).Ways}) {
		t.Error("a net without banks, or without ways, is not good")
	}
	for _, c := range goodNetChanges() {
		if n := changedNet(c); !impl.GoodNet(n) || !goodNetAgain(n) {
			t.Errorf("%s: %v is good", c.name, n)
		}
	}
	for _, c := range badNetChanges() {
		if n := changedNet(c); impl.GoodNet(n) || goodNetAgain(n) {
			t.Errorf("%s: %v is not good", c.name, n)
		}
	}
}

// Each case of who is Marked, of what is on the way, and of whether it is Watched.
func TestGoodNetHoldsMarksAgainstWays(t *testing.T) {
	for _, c := range []struct {
		from, to bool
		on       string
		watched  bool
		seen     []int
		good     bool
	}{
		{false, false, "", false, nil, true}, {false, false, "3", false, nil, true},
		{false, false, "", true, nil, false}, {false, false, "M", false, nil, false},
		{false, false, "M", true, nil, false}, {false, false, "", false, []int{3}, false},
		{false, true, "", true, nil, true}, {false, true, "3", true, []int{3}, true},
		{false, true, "", false, nil, false}, {false, true, "3", false, []int{3}, false},
		{false, true, "M", true, nil, false}, {false, true, "M", false, nil, false},
		{true, false, "M", false, nil, true}, {true, false, "3 M 4", false, nil, true},
		{true, false, "M", true, nil, false}, {true, false, "", false, nil, false}, {true, false, "3", false, nil, false},
		{true, false, "", true, nil, false}, {true, false, "M", false, []int{3}, false}, {true, false, "M M", false, nil, false},
		{true, true, "M", true, nil, true}, {true, true, "3 M 4", true, []int{3}, true},
		{true, true, "M", false, nil, false}, {true, true, "", false, nil, true}, {true, true, "3", false, []int{3}, true},
		{true, true, "", true, nil, false}, {true, true, "3", true, []int{3}, false}, {true, true, "M M", true, nil, false},
	} {
		n := freshNet(2, 10)
		n.Banks[0].Marked, n.Banks[1].Marked = c.from, c.to
		n.Ways[0] = impl.Way{From: 0, To: 1, Parcels: parcels(c.on), Watched: c.watched, Seen: c.seen}
		if n.Ways[1].Watched = c.from; c.to {
			n.Ways[1].Parcels = parcels("M")
		}
		if impl.GoodNet(n) != c.good || goodNetAgain(n) != c.good {
			t.Errorf("%v: not %v", n, c.good)
		}
	}
}

// Each of five banks and each of twenty ways is looked at.
func TestGoodNetLooksAtEachBankAndEachWay(t *testing.T) {
	for at := range 5 {
		for _, amount := range []int{-1, 0, 1, 1000000, 1000001} {
			n := freshNet(5, 3)
			n.Banks[at].Amount = amount
			if good := amount >= 0 && amount <= 1000000; impl.GoodNet(n) != good {
				t.Errorf("%v: not %v", n, good)
			}
		}
		n := freshNet(5, 3)
		if n.Banks[at].Noted = 1; impl.GoodNet(n) {
			t.Error(n)
		}
	}
	for at := range 20 {
		for _, c := range []struct {
			put  func(w *impl.Way)
			good bool
		}{
			{func(w *impl.Way) {}, true},
			{func(w *impl.Way) { w.Parcels = parcels("1000000") }, true},
			{func(w *impl.Way) { w.Parcels = parcels("1 1000001") }, false},
			{func(w *impl.Way) { w.Parcels = slices.Repeat(parcels("7"), 20) }, true},
			{func(w *impl.Way) { w.Parcels = slices.Repeat(parcels("7"), 21) }, false},
			{func(w *impl.Way) { w.Parcels = parcels("M") }, false},
			{func(w *impl.Way) { w.Watched = true }, false},
			{func(w *impl.Way) { w.Seen = []int{1} }, false},
			{func(w *impl.Way) { w.From, w.To = w.To, w.From }, false},
			{func(w *impl.Way) { w.From = w.To }, false},
			{func(w *impl.Way) { w.To = w.From }, false},
			{func(w *impl.Way) { w.To++ }, false},
			{func(w *impl.Way) { w.From-- }, false},
		} {
			n := freshNet(5, 3)
			c.put(&n.Ways[at])
			if impl.GoodNet(n) != c.good || goodNetAgain(n) != c.good {
				t.Errorf("%d: %v: not %v", at, n, c.good)
			}
		}
	}
}

// smallNets goes through all nets of two banks with little in them.
func smallNets(see func(n impl.Net)) {
	var ways []impl.Way
	for _, on := range []string{"", "M", "1", "1 M", "M 1", "M M", "0"} {
		for _, seen := range [][]int{nil, {1}} {
			ways = append(ways, impl.Way{Parcels: parcels(on), Seen: seen}, impl.Way{Parcels: parcels(on), Seen: seen, Watched: true})
		}
	}
	banks := []impl.Bank{{}, {Amount: 1}, {Amount: 1, Marked: true}, {Amount: 2, Marked: true, Noted: 1}, {Noted: 1}}
	for _, a := range banks {
		for _, b := range banks {
			for _, there := range ways {
				for _, back := range ways {
					there.From, there.To, back.From, back.To = 0, 1, 1, 0
					see(impl.Net{Banks: []impl.Bank{a, b}, Ways: []impl.Way{there, back}})
				}
			}
		}
	}
}

func TestGoodNetOfAllThatAreSmall(t *testing.T) {
	good, bad := 0, 0
	smallNets(func(n impl.Net) {
		want := goodNetAgain(n)
		if impl.GoodNet(n) != want {
			t.Fatalf("%v: not %v", n, want)
		}
		if want {
			good++
		} else {
			bad++
		}
	})
	if good < 100 || bad < 10000 {
		t.Error(good, bad)
	}
}

// checkNoNet asks whether all functions give a net that is not good the zero answer.
func checkNoNet(t *testing.T, n impl.Net) {
	t.Helper()
	if total, ok := impl.TotalOf(n); ok || total != 0 {
		t.Errorf("%v: %d %v", n, total, ok)
	}
	if sum, whole, ok := impl.PictureOf(n); ok || whole || sum != 0 {
		t.Errorf("%v: %d %v %v", n, sum, whole, ok)
	}
	if left, ok := impl.FinishNet(n); ok || !isZeroNet(left) {
		t.Errorf("%v: %v %v", n, left, ok)
	}
	for _, s := range manyBankSteps() {
		if left, ok := impl.StepNet(n, s); ok || !isZeroNet(left) {
			t.Errorf("%v: %v: %v %v", n, s, left, ok)
		}
	}
}

func TestNetsThatAreNotGoodHaveTheZeroAnswer(t *testing.T) {
	checkNoNet(t, impl.Net{})
	for _, c := range badNetChanges() {
		checkNoNet(t, changedNet(c))
	}
}
