package tests

import (
	"fmt"
	"slices"
	"testing"

	"loop.example/g00218/impl"
)

// pictureAgain tells the document's words a second time.
func pictureAgain(n impl.Net) (int, bool) {
	sum, whole := 0, true
	for _, b := range n.Banks {
		sum, whole = sum+b.Noted, whole && b.Marked
	}
	for _, w := range n.Ways {
		whole = whole && !w.Watched
		for _, amount := range w.Seen {
			sum += amount
		}
	}
	return sum, whole
}

// finishAgain tells the document's words a second time.
func finishAgain(n impl.Net) (impl.Net, bool) {
	if !goodNetAgain(n) || !slices.ContainsFunc(n.Banks, func(b impl.Bank) bool { return b.Marked }) {
		return impl.Net{}, false
	}
	for at := 0; at < len(n.Ways); at++ {
		if left, ok := netStepAgain(n, impl.BankStep{Kind: impl.BankTake, From: n.Ways[at].From, To: n.Ways[at].To}); ok {
			n, at = left, -1
		}
	}
	if _, whole := pictureAgain(n); !whole {
		return impl.Net{}, false
	}
	return deepNet(n), true
}

// checkPicture asks of a good net whether all is told as it is; it tells whether the picture is whole.
func checkPicture(t *testing.T, n impl.Net) bool {
	t.Helper()
	total, ok := impl.TotalOf(n)
	if !ok || total != totalAgain(n) {
		t.Fatalf("%v: %d %v", n, total, ok)
	}
	sum, whole, ok := impl.PictureOf(n)
	wantSum, wantWhole := pictureAgain(n)
	if !ok || sum != wantSum || whole != wantWhole {
		t.Fatalf("%v: %d %v %v, not %d %v", n, sum, whole, ok, wantSum, wantWhole)
	}
	return whole
}

// checkFinish holds what is finished against the document's words; it tells whether that could be done.
func checkFinish(t *testing.T, n impl.Net) (impl.Net, bool) {
	t.Helper()
	left, ok := impl.FinishNet(n)
	want, wantOk := finishAgain(n)
	if ok != wantOk || !sameNet(left, want) || !ok && !isZeroNet(left) {
		t.Fatalf("%v: %v %v, not %v %v", n, left, ok, want, wantOk)
	}
	if ok && (!impl.GoodNet(left) || !checkPicture(t, left) || totalAgain(left) != totalAgain(n)) {
		t.Fatalf("%v: %v", n, left)
	}
	return left, ok
}

// checkPlayed is promise 13: a picture of a net that a play made has just what there is, once it is whole.
func checkPlayed(t *testing.T, n impl.Net) (whole, finished bool) {
	t.Helper()
	if whole = checkPicture(t, n); whole {
		if sum, _, _ := impl.PictureOf(n); sum != totalAgain(n) {
			t.Fatalf("%v: a picture of %d, and there is %d", n, sum, totalAgain(n))
		}
	}
	left, finished := checkFinish(t, n)
	if finished {
		sum, inTheEnd, ok := impl.PictureOf(left)
		if total, _ := impl.TotalOf(left); sum != total || !inTheEnd || !ok {
			t.Fatalf("%v: %v: a picture of %d, and there is %d", n, left, sum, total)
		}
	}
	return whole, finished
}

func TestTotalOf(t *testing.T) {
	rich := freshNet(5, 1000000)
	for i := range rich.Ways {
		rich.Ways[i].Parcels = slices.Repeat(parcels("1000000"), 20)
	}
	for _, c := range []struct {
		n     impl.Net
		total int
	}{
		{plainNet(), 60 + 5 + 3 + 4 + 9 + 1 + 8}, {freshNet(2, 0), 0}, {freshNet(5, 7), 35}, {rich, 405000000},
		{withNet(func(n *impl.Net) { n.Ways[0].Parcels = parcels("M") }), 82},
		{withNet(func(n *impl.Net) { n.Banks[1].Amount = 0 }), 70},
		// what was noted or seen is no money
		{withNet(func(n *impl.Net) { n.Banks[0].Noted = 1000 }), 90}, {withNet(func(n *impl.Net) { n.Ways[4].Seen = []int{500} }), 90},
	} {
		if total, ok := impl.TotalOf(c.n); !ok || total != c.total {
			t.Errorf("%v: %d %v, not %d", c.n, total, ok, c.total)
		}
	}
	for at := range 20 {
		n := freshNet(5, 1)
		if n.Ways[at].Parcels = parcels("3 4"); totalAgain(n) != 12 {
			t.Fatal(n)
		}
		if total, ok := impl.TotalOf(n); total != 12 || !ok {
			t.Error(n, total, ok)
		}
	}
}

// wholeNet is one whose picture is whole, with something on its ways that is not in it.
func wholeNet() impl.Net {
	n := freshNet(3, 100)
	for i := range n.Banks {
		n.Banks[i].Marked, n.Banks[i].Noted = true, 90+i
	}
	for i := range n.Ways {
		n.Ways[i].Seen = slices.Repeat([]int{i + 1}, i)
	}
	n.Ways[1].Parcels, n.Ways[4].Parcels = parcels("7 8"), parcels("9")
	return n
}

func TestPictureOf(t *testing.T) {
	with := func(put func(n *impl.Net)) impl.Net {
		n := wholeNet()
		put(&n)
		return n
	}
	watching := func(at int) impl.Net {
		return with(func(n *impl.Net) { n.Ways[at].Parcels, n.Ways[at].Watched = parcels("M"), true })
	}
	rich := wholeNet()
	for i := range rich.Ways {
		rich.Ways[i].Seen = slices.Repeat([]int{1000000}, 200)
	}
	const seen = 2 + 2*3 + 3*4 + 4*5 + 5*6
	type pictureCase struct {
		n     impl.Net
		sum   int
		whole bool
	}
	cases := []pictureCase{
		{freshNet(2, 100), 0, false}, {freshNet(5, 0), 0, false},
		{plainNet(), 38 + 2 + 6 + 1 + 3 + 3, false},
		{wholeNet(), 273 + seen, true}, {rich, 273 + 1200000000, true},
		{with(func(n *impl.Net) { n.Banks[0].Noted = 0 }), 183 + seen, true},
		{with(func(n *impl.Net) { n.Banks[0].Amount, n.Ways[1].Parcels = 0, nil }), 273 + seen, true},
	}
	for at := range 6 {
		cases = append(cases, pictureCase{watching(at), 273 + seen, false})
	}
	// all but one are Marked, and no way is Watched: its own mark is still to come from it, so that each way from it is
	for bank := range 5 {
		n := freshNet(5, 10)
		for i, w := range n.Ways {
			n.Banks[w.From].Marked = w.From != bank
			n.Ways[i].Watched = w.From == bank
			if w.To == bank {
				n.Ways[i].Parcels = parcels("M")
			}
		}
		cases = append(cases, pictureCase{n, 0, false})
	}
	for _, c := range cases {
		if sum, whole, ok := impl.PictureOf(c.n); !ok || sum != c.sum || whole != c.whole {
			t.Errorf("%v: %d %v %v, not %d %v", c.n, sum, whole, ok, c.sum, c.whole)
		}
	}
}

func TestFinishNet(t *testing.T) {
	marked := func(amount, noted int) impl.Bank { return impl.Bank{Amount: amount, Marked: true, Noted: noted} }
	brought := func(from, to int, on string, seen ...int) impl.Way {
		return impl.Way{From: from, To: to, Parcels: parcels(on), Seen: seen}
	}
	two := func(a, b impl.Bank, ways ...impl.Way) impl.Net {
		return impl.Net{Banks: []impl.Bank{a, b}, Ways: ways}
	}
	full := slices.Repeat([]int{1}, 200)
	for _, c := range []struct {
		why  string
		n    impl.Net
		left impl.Net
	}{
		{"no bank is Marked", two(impl.Bank{Amount: 3}, impl.Bank{Amount: 4}, way(0, 1, "5"), way(1, 0, "")), impl.Net{}},
		{"it is whole already", two(marked(3, 3), marked(4, 4), brought(0, 1, "", 2), way(1, 0, "")), two(marked(3, 3), marked(4, 4), brought(0, 1, "", 2), way(1, 0, ""))},
		{"it is whole already, and all that comes is taken", two(marked(3, 3), marked(4, 4), brought(0, 1, "1 2", 2), way(1, 0, "6")), two(marked(9, 3), marked(7, 4), brought(0, 1, "", 2), way(1, 0, ""))},
		{"it is whole already, and not all can be taken", two(marked(3, 3), marked(999998, 4), way(0, 1, "1 2 1"), way(1, 0, "6")), two(marked(9, 3), marked(999999, 4), way(0, 1, "2 1"), way(1, 0, ""))},
		{"it is whole already, and nothing can be taken", two(marked(3, 3), marked(1000000, 4), way(0, 1, "1"), way(1, 0, "")), two(marked(3, 3), marked(1000000, 4), way(0, 1, "1"), way(1, 0, ""))},
		{"one mark runs", two(marked(3, 3), impl.Bank{Amount: 4}, way(0, 1, "1 M 2"), watchedWay(1, 0, "6")), two(marked(9, 3), marked(7, 5), way(0, 1, ""), brought(1, 0, "", 6))},
		{"both marks run", two(marked(3, 3), marked(4, 4), watchedWay(0, 1, "1 M 2"), watchedWay(1, 0, "6 M")), two(marked(9, 3), marked(7, 4), brought(0, 1, "", 1), brought(1, 0, "", 6))},
		{"bank 1 is full till the mark has come, and stays so", two(marked(3, 3), impl.Bank{Amount: 1000000}, way(0, 1, "M 2"), watchedWay(1, 0, "6")), two(marked(9, 3), marked(1000000, 1000000), way(0, 1, "2"), brought(1, 0, "", 6))},
		{"bank 1 is full, and the mark is behind", two(marked(3, 3), impl.Bank{Amount: 1000000}, way(0, 1, "2 M"), watchedWay(1, 0, "6")), impl.Net{}},
		{"bank 0 is full, and the mark is behind", two(marked(1000000, 3), marked(4, 4), watchedWay(0, 1, "1 M"), watchedWay(1, 0, "6 M")), impl.Net{}},
		{"as many are seen as there may be", two(marked(3, 3), marked(4, 4), watchedWay(0, 1, "1 M", full...), way(1, 0, "")), impl.Net{}},
		{"the last one that there may be is seen", two(marked(3, 3), marked(4, 4), watchedWay(0, 1, "1 M 2", full[1:]...), way(1, 0, "")), two(marked(3, 3), marked(7, 4), brought(0, 1, "", full...), way(1, 0, ""))},
		{"a way from bank 1 is full, and is emptied", two(marked(3, 3), impl.Bank{Amount: 4}, way(0, 1, "M"), impl.Way{From: 1, To: 0, Parcels: slices.Repeat(parcels("1"), 20), Watched: true}), two(marked(23, 3), marked(4, 4), way(0, 1, ""), brought(1, 0, "", slices.Repeat([]int{1}, 20)...))},
		{"a way from bank 1 is full, and cannot be emptied", two(marked(1000000, 3), impl.Bank{Amount: 4}, way(0, 1, "M"), impl.Way{From: 1, To: 0, Parcels: slices.Repeat(parcels("1"), 20), Watched: true}), impl.Net{}},
	} {
		if !impl.GoodNet(c.n) {
			t.Fatalf("%s: %v is not good", c.why, c.n)
		}
		left, ok := checkFinish(t, c.n)
		if ok != (c.left.Banks != nil) || !sameNet(left, c.left) {
			t.Errorf("%s: %v: %v %v, not %v", c.why, c.n, left, ok, c.left)
		}
	}
}

// Of the ways in order the first one counts, again and again: that decides what is noted, what is seen, and what is left.
func TestFinishNetTakesFromTheFirstWay(t *testing.T) {
	// bank 2 alone is Marked: its marks are on ways 4 and 5
	begun := func(put func(n *impl.Net)) impl.Net {
		n := freshNet(3, 10)
		n.Banks[2] = impl.Bank{Amount: 10, Marked: true, Noted: 10}
		n.Ways[1].Watched, n.Ways[3].Watched = true, true
		n.Ways[4].Parcels, n.Ways[5].Parcels = parcels("M"), parcels("M")
		put(&n)
		return n
	}
	check := func(why string, n impl.Net, noted []int, put func(n *impl.Net)) {
		want := freshNet(3, 0)
		for i := range want.Banks {
			want.Banks[i] = impl.Bank{Amount: 10, Marked: true, Noted: noted[i]}
		}
		put(&want)
		left, ok := checkFinish(t, n)
		if !ok || !sameNet(left, want) {
			t.Errorf("%s: %v: %v %v, not %v", why, n, left, ok, want)
		}
	}
	check("the first way has all taken that comes on it", begun(func(n *impl.Net) {
		n.Ways[0].Parcels = parcels("1 2")
	}), []int{10, 13, 10}, func(n *impl.Net) {
		n.Banks[1].Amount = 13
	})
	check("a mark that was just put on the first way comes ahead of what is on the last one", begun(func(n *impl.Net) {
		n.Ways[5].Parcels = parcels("4 M")
	}), []int{10, 10, 10}, func(n *impl.Net) {
		n.Banks[1].Amount, n.Ways[5].Seen = 14, []int{4}
	})
	check("a mark comes from the first of two ways that bring one", begun(func(n *impl.Net) {
		n.Ways[0].Parcels, n.Ways[3].Parcels, n.Ways[4].Parcels = parcels("1"), parcels("5"), parcels("7 M")
	}), []int{17, 11, 10}, func(n *impl.Net) {
		n.Banks[0].Amount, n.Banks[1].Amount, n.Banks[2].Amount = 17, 11, 15
		n.Ways[3].Seen = []int{5}
	})
	// bank 2 has room for one of two
	n := wholeNet()
	n.Banks[2].Amount = 999999
	n.Ways[1].Parcels, n.Ways[3].Parcels, n.Ways[4].Parcels = parcels("1 1"), parcels("1"), nil
	left, ok := checkFinish(t, n)
	if !ok || left.Banks[2].Amount != 1000000 || !slices.Equal(left.Ways[1].Parcels, parcels("1")) || len(left.Ways[3].Parcels) != 1 {
		t.Error(n, left, ok)
	}
	// what the first way brings is too much, and the ways behind it go on
	n.Ways[1].Parcels, n.Ways[4].Parcels = parcels("2 1"), parcels("3")
	left, ok = checkFinish(t, n)
	if !ok || left.Banks[2].Amount != 1000000 || !slices.Equal(left.Ways[1].Parcels, parcels("2 1")) || len(left.Ways[3].Parcels)+len(left.Ways[4].Parcels) != 0 {
		t.Error(n, left, ok)
	}
}

// drawnNet is good, and need not come of any play.
func drawnNet(m *mixer) impl.Net {
	n := freshNet(2+m.below(4), 0)
	atEdges, marks := m.below(3) == 0, 1+m.below(4)
	amount := func() int {
		if atEdges {
			return []int{0, 1, 2, 999998, 999999, 1000000}[m.below(6)]
		}
		return m.below(400000)
	}
	for i := range n.Banks {
		n.Banks[i].Amount = amount()
		if m.below(4) < marks {
			n.Banks[i].Marked, n.Banks[i].Noted = true, amount()
		}
	}
	for i := range n.Ways {
		drawWay(m, &n.Ways[i], n.Banks)
	}
	return n
}

// drawWay puts as much on a way as its ends let it have.
func drawWay(m *mixer, w *impl.Way, banks []impl.Bank) {
	from, to := banks[w.From].Marked, banks[w.To].Marked
	many := []int{0, 0, 0, 1, 2, 3, 18, 19, 20}[m.below(9)]
	marked := from && (!to || m.below(2) == 0)
	for i := range many {
		if marked && i == many-1 {
			break
		}
		w.Parcels = append(w.Parcels, impl.Parcel{Amount: 1 + m.below([]int{3, 1000, 1000000}[m.below(3)])})
	}
	if marked {
		w.Parcels = slices.Insert(w.Parcels, m.below(len(w.Parcels)+1), impl.Parcel{Mark: true})
	}
	if !to {
		return
	}
	w.Watched = marked || !from
	for range []int{0, 0, 1, 2, 198, 199, 200}[m.below(7)] {
		w.Seen = append(w.Seen, 1+m.below(1000000))
	}
}

// drawnBankStep is mostly one that can be done.
func drawnBankStep(m *mixer, n impl.Net) impl.BankStep {
	w := n.Ways[m.below(len(n.Ways))]
	s := impl.BankStep{Kind: 1 + m.below(3), From: w.From, To: w.To}
	if has := n.Banks[w.From].Amount; s.Kind == impl.BankSend {
		s.Amount = []int{1, has, has + 1, 1 + m.below(has+1)}[m.below(4)]
	}
	if m.below(20) == 0 {
		s.From = m.below(7) - 1
	}
	return s
}

// Promise 13, for good nets that no play made: what is done makes and loses nothing, and is good.
func TestOfGoodNetsNoStepMakesOrLosesAnything(t *testing.T) {
	did := make([]int, 4)
	finished, unfinished, whole := 0, 0, 0
	for seed := range 8000 {
		m := mixer(seed)
		n := drawnNet(&m)
		if !impl.GoodNet(n) || !goodNetAgain(n) {
			t.Fatal(n, "is good")
		}
		for range 4 {
			s := drawnBankStep(&m, n)
			left, ok := checkNetStep(t, n, s)
			if ok {
				did[s.Kind]++
				n = left
			}
		}
		if checkPicture(t, n) {
			whole++
		}
		if seed%6 == 0 {
			if _, ok := checkFinish(t, n); ok {
				finished++
			} else {
				unfinished++
			}
		}
	}
	if slices.Min(did[1:]) < 1000 || finished < 100 || unfinished < 100 || whole < 100 {
		t.Error(did, finished, unfinished, whole)
	}
}

// Promise 13, for many drawn plays of several banks, behind each step.
func TestAWholePictureHasJustWhatThereIs(t *testing.T) {
	refused, wholes, finishes, unfinished, seen, moved := 0, 0, 0, 0, 0, 0
	for seed := range 2000 {
		amounts, l := somePlayOfNet(uint64(seed) + 9000)
		n, _ := impl.NewNet(amounts)
		start := totalAgain(n)
		var want []bool
		for i, s := range l {
			left, ok := checkNetStep(t, n, s)
			if want = append(want, ok); ok {
				n = left
			} else {
				refused++
			}
			if total, ok := impl.TotalOf(n); total != start || !ok {
				t.Fatalf("%v: %d %v, and %d at first", n, total, ok, start)
			}
			if checkPicture(t, n) {
				if sum, _, _ := impl.PictureOf(n); sum != start {
					t.Fatalf("%v: a picture of %d, and there is %d", n, sum, start)
				}
			}
			if i%20 == 13 {
				checkPlayed(t, n)
			}
		}
		played, did, ok := impl.PlayNet(amounts, l)
		if !ok || !sameNet(played, n) || !slices.Equal(did, want) || !impl.GoodNet(played) {
			t.Fatalf("%v: %v %v, not %v %v", l, played, did, n, want)
		}
		whole, finished := checkPlayed(t, n)
		for _, w := range n.Ways {
			seen += len(w.Seen)
			if whole {
				moved += len(w.Parcels)
			}
		}
		switch {
		case whole:
			wholes++
		case finished:
			finishes++
		case slices.ContainsFunc(n.Banks, func(b impl.Bank) bool { return b.Marked }):
			unfinished++
		}
	}
	// the plays are no plays if no picture comes to be whole, nothing is seen or goes on meanwhile, or all can be done
	if refused < 10000 || wholes < 400 || finishes < 500 || unfinished < 50 || seen < 3000 || moved < 1000 {
		t.Error(refused, wholes, finishes, unfinished, seen, moved)
	}
}

// allNets goes through all that may come of banks with small amounts that send all or one, with at most so many parcels on a way.
func allNets(t *testing.T, amounts []int, most int, see func(n impl.Net)) int {
	start, ok := impl.NewNet(amounts)
	if !ok {
		t.Fatal(amounts)
	}
	seen := map[string]int{fmt.Sprint(start): 1}
	work := []impl.Net{start}
	for len(work) > 0 {
		n := work[len(work)-1]
		work = work[:len(work)-1]
		see(n)
		var l []impl.BankStep
		for _, w := range n.Ways {
			l = append(l, impl.BankStep{Kind: impl.BankTake, From: w.From, To: w.To}, impl.BankStep{Kind: impl.BankMark, From: w.From})
			if len(w.Parcels) < most {
				l = append(l, impl.BankStep{Kind: impl.BankSend, From: w.From, To: w.To, Amount: 1})
			}
		}
		for _, s := range l {
			left, ok := checkNetStep(t, n, s)
			if text := fmt.Sprint(left); ok && seen[text] == 0 {
				seen[text] = 1
				work = append(work, left)
			}
		}
	}
	return len(seen)
}

// Promise 13, for all that may come of a few banks with little in them.
func TestOfAllSmallPlaysAWholePictureHasJustWhatThereIs(t *testing.T) {
	for _, c := range []struct {
		amounts []int
		most    int
	}{
		{[]int{1, 0}, 3}, {[]int{1, 1}, 2}, {[]int{2, 1}, 2}, {[]int{1, 0, 0}, 1},
	} {
		wholes, finishes := 0, 0
		many := allNets(t, c.amounts, c.most, func(n impl.Net) {
			whole, finished := checkPlayed(t, n)
			if whole {
				wholes++
			}
			if finished {
				finishes++
			}
			// nothing is ever too much here, so that whatever has begun can be finished
			if begun := slices.ContainsFunc(n.Banks, func(b impl.Bank) bool { return b.Marked }); begun != finished {
				t.Fatal(n, finished)
			}
		})
		if many < 50 || wholes < 10 || finishes < 50 {
			t.Error(c, many, wholes, finishes)
		}
	}
}
