package tests

import (
	"fmt"
	"math"
	"slices"
	"strings"
	"testing"

	"loop.example/g00218/impl"
)

// bankSteps are steps as a text: s0>1:5 sends 5 from bank 0 to bank 1, t0>1 takes what comes first on that way, m0 marks bank 0.
func bankSteps(text string) []impl.BankStep {
	var l []impl.BankStep
	for _, word := range strings.Fields(text) {
		s := impl.BankStep{Kind: 1 + strings.IndexByte("stm", word[0])}
		var err error
		switch s.Kind {
		case impl.BankSend:
			_, err = fmt.Sscanf(word[1:], "%d>%d:%d", &s.From, &s.To, &s.Amount)
		case impl.BankTake:
			_, err = fmt.Sscanf(word[1:], "%d>%d", &s.From, &s.To)
		default:
			_, err = fmt.Sscanf(word[1:], "%d", &s.From)
		}
		if err != nil || s.Kind == 0 {
			panic(word)
		}
		l = append(l, s)
	}
	return l
}

func bankStep(text string) impl.BankStep {
	return bankSteps(text)[0]
}

// manyBankSteps are steps of all kinds between any banks with any amount, good ones and others.
func manyBankSteps() []impl.BankStep {
	var l []impl.BankStep
	for _, kind := range []int{-1, 0, 1, 2, 3, 4} {
		for _, from := range []int{math.MinInt, -1, 0, 1, 2, 3, math.MaxInt} {
			for _, to := range []int{math.MinInt, -1, 0, 1, 2, 3, math.MaxInt} {
				for _, amount := range []int{math.MinInt, -1, 0, 1, 10, 1000001} {
					l = append(l, impl.BankStep{Kind: kind, From: from, To: to, Amount: amount})
				}
			}
		}
	}
	return l
}

// netStepAgain tells the document's words a second time.
func netStepAgain(n impl.Net, s impl.BankStep) (impl.Net, bool) {
	if !goodNetAgain(n) {
		return impl.Net{}, false
	}
	n = deepNet(n)
	at := slices.IndexFunc(n.Ways, func(w impl.Way) bool { return w.From == s.From && w.To == s.To })
	ok := false
	switch {
	case s.Kind == 3:
		ok = markAgain(n, s.From)
	case at < 0:
	case s.Kind == 1:
		ok = s.Amount > 0 && n.Banks[s.From].Amount >= s.Amount && len(n.Ways[at].Parcels) < 20
		if ok {
			n.Banks[s.From].Amount -= s.Amount
			n.Ways[at].Parcels = append(n.Ways[at].Parcels, impl.Parcel{Amount: s.Amount})
		}
	case s.Kind == 2 && len(n.Ways[at].Parcels) > 0:
		ok = takeAgain(n, &n.Ways[at])
	}
	if !ok {
		return impl.Net{}, false
	}
	return n, true
}

func takeAgain(n impl.Net, w *impl.Way) bool {
	first := w.Parcels[0]
	w.Parcels = w.Parcels[1:]
	if first.Mark {
		ok := n.Banks[w.To].Marked || markAgain(n, w.To)
		w.Watched = false
		return ok
	}
	n.Banks[w.To].Amount += first.Amount
	if w.Watched {
		w.Seen = append(w.Seen, first.Amount)
	}
	return n.Banks[w.To].Amount <= 1000000 && len(w.Seen) <= 200
}

func markAgain(n impl.Net, bank int) bool {
	full := func(w impl.Way) bool { return w.From == bank && len(w.Parcels) == 20 }
	if bank < 0 || bank >= len(n.Banks) || n.Banks[bank].Marked || slices.ContainsFunc(n.Ways, full) {
		return false
	}
	n.Banks[bank].Marked, n.Banks[bank].Noted = true, n.Banks[bank].Amount
	for i, w := range n.Ways {
		n.Ways[i].Watched = w.Watched || w.To == bank
		if w.From == bank {
			n.Ways[i].Parcels = append(w.Parcels, impl.Parcel{Mark: true})
		}
	}
	return true
}

// totalAgain is all that there is, in banks and on ways.
func totalAgain(n impl.Net) int {
	total := 0
	for _, b := range n.Banks {
		total += b.Amount
	}
	for _, w := range n.Ways {
		for _, p := range w.Parcels {
			total += p.Amount
		}
	}
	return total
}

// checkNetStep holds a step against the document's words, and against promise 13: what is left is good, and nothing is made or lost.
func checkNetStep(t *testing.T, n impl.Net, s impl.BankStep) (impl.Net, bool) {
	t.Helper()
	left, ok := impl.StepNet(n, s)
	want, wantOk := netStepAgain(n, s)
	if ok != wantOk || !sameNet(left, want) {
		t.Fatalf("%v: %v: %v %v, not %v %v", n, s, left, ok, want, wantOk)
	}
	if !ok {
		if !isZeroNet(left) {
			t.Fatalf("%v: %v: %v", n, s, left)
		}
		return left, ok
	}
	ahead, ok1 := impl.TotalOf(n)
	behind, ok2 := impl.TotalOf(left)
	if !impl.GoodNet(left) || !ok1 || !ok2 || ahead != behind || ahead != totalAgain(n) {
		t.Fatalf("%v: %v: %v: %d, then %d", n, s, left, ahead, behind)
	}
	return left, ok
}

// A netCase is a step, and what it does to a net: nothing where put is nil.
type netCase struct {
	why   string
	given impl.Net
	step  impl.BankStep
	put   func(n *impl.Net)
}

func checkNetCases(t *testing.T, cases []netCase) {
	t.Helper()
	for _, c := range cases {
		if !impl.GoodNet(c.given) {
			t.Fatalf("%s: %v is not good", c.why, c.given)
		}
		left, ok := checkNetStep(t, c.given, c.step)
		want := impl.Net{}
		if c.put != nil {
			want = deepNet(c.given)
			c.put(&want)
		}
		if ok != (c.put != nil) || !sameNet(left, want) {
			t.Errorf("%s: %v: %v: %v %v, not %v", c.why, c.given, c.step, left, ok, want)
		}
	}
}

// withNet is the plain net with a change put to it.
func withNet(put func(n *impl.Net)) impl.Net {
	n := plainNet()
	put(&n)
	return n
}

func TestStepNetOfNoKind(t *testing.T) {
	for _, n := range []impl.Net{plainNet(), freshNet(3, 10)} {
		for _, kind := range []int{math.MinInt, -1, 0, 4, 5, math.MaxInt, 1 << 32, 1<<32 + 1, 1<<32 + 3} {
			for from := -1; from <= 3; from++ {
				for to := -1; to <= 3; to++ {
					if left, ok := checkNetStep(t, n, impl.BankStep{Kind: kind, From: from, To: to, Amount: 1}); ok {
						t.Error(kind, from, to, left)
					}
				}
			}
		}
	}
}

func TestStepNetOfNoWay(t *testing.T) {
	full := freshNet(5, 10)
	for i := range full.Ways {
		full.Ways[i].Parcels = parcels("1")
	}
	for _, n := range []impl.Net{plainNet(), full} {
		last := len(n.Banks) - 1
		for _, kind := range []int{impl.BankSend, impl.BankTake} {
			for _, none := range []int{math.MinInt, -2, -1, last + 1, last + 2, 1 << 32, 1<<32 + 1, math.MaxInt} {
				for at := 0; at <= last; at++ {
					for _, s := range []impl.BankStep{{From: none, To: at}, {From: at, To: none}, {From: at, To: at}, {From: none, To: none}} {
						s.Kind, s.Amount = kind, 1
						if left, ok := checkNetStep(t, n, s); ok {
							t.Error(s, left)
						}
					}
				}
			}
		}
	}
	for _, none := range []int{math.MinInt, -2, -1, 3, 4, 1 << 32, 1<<32 + 1, math.MaxInt} {
		if left, ok := checkNetStep(t, freshNet(3, 10), impl.BankStep{Kind: impl.BankMark, From: none}); ok {
			t.Error(none, left)
		}
	}
}

func TestStepNetSends(t *testing.T) {
	sent := func(at, from, amount int) func(n *impl.Net) {
		return func(n *impl.Net) {
			n.Banks[from].Amount -= amount
			n.Ways[at].Parcels = append(n.Ways[at].Parcels, impl.Parcel{Amount: amount})
		}
	}
	rich := freshNet(2, 1000000)
	richest := freshNet(2, 1000000)
	richest.Banks[1].Amount = 0
	many := func(on int) impl.Net {
		return withNet(func(n *impl.Net) { putManyBehindMark(n, on) })
	}
	elsewhere := withNet(func(n *impl.Net) { putManyParcels(n, 20) })
	send := func(amount int) impl.BankStep {
		return impl.BankStep{Kind: impl.BankSend, From: 0, To: 1, Amount: amount}
	}
	checkNetCases(t, []netCase{
		{"behind a mark", plainNet(), bankStep("s0>1:1"), sent(0, 0, 1)},
		{"behind a mark, on a way that is Watched", plainNet(), bankStep("s0>2:4"), sent(1, 0, 4)},
		{"from a bank that is not Marked", plainNet(), bankStep("s1>0:9"), sent(2, 1, 9)},
		{"nothing is on the way", plainNet(), bankStep("s1>2:2"), sent(3, 1, 2)},
		{"the way has brought its mark", plainNet(), bankStep("s2>0:30"), sent(4, 2, 30)},
		{"the last way", plainNet(), bankStep("s2>1:29"), sent(5, 2, 29)},
		{"as much as the bank has", plainNet(), send(10), sent(0, 0, 10)},
		{"one less", plainNet(), send(9), sent(0, 0, 9)},
		{"one more", plainNet(), send(11), nil},
		{"nothing", plainNet(), send(0), nil},
		{"less than nothing", plainNet(), send(-1), nil},
		{"far less than nothing", plainNet(), send(math.MinInt), nil},
		{"far more", plainNet(), send(math.MaxInt), nil},
		{"far more, and just as much in 32 bits", plainNet(), send(1<<32 + 5), nil},
		{"the most there may be", rich, send(1000000), sent(0, 0, 1000000)},
		{"one more than there may be", rich, send(1000001), nil},
		{"one less than there may be", richest, send(999999), sent(0, 0, 999999)},
		{"a bank that has nothing", freshNet(2, 0), send(1), nil},
		{"a bank that has nothing sends nothing", freshNet(2, 0), send(0), nil},
		{"a bank that has one", freshNet(2, 1), send(1), sent(0, 0, 1)},
		{"one less than a way has room for", many(19), send(1), sent(0, 0, 1)},
		{"as much as a way has room for", many(20), send(1), nil},
		{"another way from the bank", many(20), bankStep("s0>2:1"), sent(1, 0, 1)},
		{"the way back is full", elsewhere, send(1), sent(0, 0, 1)},
		{"the bank To is full", withNet(func(n *impl.Net) { n.Banks[1].Amount = 1000000 }), send(3), sent(0, 0, 3)},
	})
}

func TestStepNetTakesAmounts(t *testing.T) {
	took := func(at, to, amount int, seen ...int) func(n *impl.Net) {
		return func(n *impl.Net) {
			n.Banks[to].Amount += amount
			n.Ways[at].Parcels = n.Ways[at].Parcels[1:]
			n.Ways[at].Seen = append(n.Ways[at].Seen, seen...)
		}
	}
	has := func(bank, amount int) impl.Net {
		return withNet(func(n *impl.Net) { n.Banks[bank].Amount = amount })
	}
	seenWatched := func(many int) impl.Net { return withNet(func(n *impl.Net) { putManySeenWatched(n, many) }) }
	seenBrought := func(many int) impl.Net { return withNet(func(n *impl.Net) { putManySeenBrought(n, many) }) }
	full := withNet(func(n *impl.Net) { putManyParcels(n, 20) })
	great := withNet(func(n *impl.Net) { n.Ways[4].Parcels, n.Banks[0].Amount = parcels("1000000 1"), 0 })
	checkNetCases(t, []netCase{
		{"ahead of the mark, the bank To is not Marked", plainNet(), bankStep("t0>1"), took(0, 1, 5)},
		{"ahead of the mark, it is seen behind all", plainNet(), bankStep("t0>2"), took(1, 2, 4, 4)},
		{"from a bank that is not Marked", plainNet(), bankStep("t1>0"), took(2, 0, 9, 9)},
		{"no mark comes any more", plainNet(), bankStep("t2>0"), took(4, 0, 8)},
		{"nothing comes", plainNet(), bankStep("t1>2"), nil},
		{"nothing comes, and nobody is Marked", freshNet(2, 3), bankStep("t0>1"), nil},
		{"as much as there may be", has(0, 999991), bankStep("t1>0"), took(2, 0, 9, 9)},
		{"one more than there may be", has(0, 999992), bankStep("t1>0"), nil},
		{"the bank To is full", has(0, 1000000), bankStep("t1>0"), nil},
		{"another bank is full", has(1, 1000000), bankStep("t1>0"), took(2, 0, 9, 9)},
		{"not Watched, as much as there may be", has(1, 999995), bankStep("t0>1"), took(0, 1, 5)},
		{"not Watched, one more", has(1, 999996), bankStep("t0>1"), nil},
		{"all at once", great, bankStep("t2>0"), took(4, 0, 1000000)},
		{"a way that was full", full, bankStep("t1>0"), took(2, 0, 1, 1)},
		{"199 are seen", seenWatched(199), bankStep("t0>2"), took(1, 2, 4, 4)},
		{"200 are seen", seenWatched(200), bankStep("t0>2"), nil},
		{"200 are seen on another way", seenWatched(200), bankStep("t1>0"), took(2, 0, 9, 9)},
		{"199 are seen, and it is not Watched", seenBrought(199), bankStep("t2>0"), took(4, 0, 8)},
		{"200 are seen, and it is not Watched", seenBrought(200), bankStep("t2>0"), took(4, 0, 8)},
		{"its Amount does not matter", plainNet(), impl.BankStep{Kind: impl.BankTake, From: 0, To: 2, Amount: 77}, took(1, 2, 4, 4)},
		{"its Amount does not matter", plainNet(), impl.BankStep{Kind: impl.BankTake, From: 0, To: 2, Amount: -1}, took(1, 2, 4, 4)},
	})
}

// markIn puts a mark to a bank as the document says it, with all that is watched and all that gets a mark named by their places.
func markIn(n *impl.Net, bank int, watched []int, marked []int) {
	n.Banks[bank].Marked, n.Banks[bank].Noted = true, n.Banks[bank].Amount
	for _, at := range watched {
		n.Ways[at].Watched = true
	}
	for _, at := range marked {
		n.Ways[at].Parcels = append(n.Ways[at].Parcels, impl.Parcel{Mark: true})
	}
}

// fiveNet has five banks, of which the third is Marked; its marks are behind an amount each.
func fiveNet() impl.Net {
	n := freshNet(5, 40)
	n.Banks[2] = impl.Bank{Amount: 38, Marked: true, Noted: 41}
	for i, w := range n.Ways {
		n.Ways[i].Watched = w.To == 2
		if w.From == 2 {
			n.Ways[i].Parcels = parcels("1 M")
		}
	}
	n.Ways[9].Parcels = parcels("M 7") // from 2 to 1
	return n
}

func TestStepNetTakesMarks(t *testing.T) {
	next := func(at int) func(n *impl.Net) {
		return func(n *impl.Net) { n.Ways[at].Parcels = n.Ways[at].Parcels[1:] }
	}
	over := func(at int) func(n *impl.Net) {
		return func(n *impl.Net) { next(at)(n); n.Ways[at].Watched = false }
	}
	ahead := withNet(func(n *impl.Net) { putOnMarked(n, "M 4 3") })
	seen := withNet(func(n *impl.Net) { putOnMarked(n, "M"); putManySeenWatched(n, 200) })
	room := func(at, many int) impl.Net {
		return withNet(func(n *impl.Net) { n.Ways[at].Parcels = slices.Repeat(parcels("1"), many) })
	}
	full := withNet(func(n *impl.Net) { n.Banks[1].Amount = 1000000 })
	empty := withNet(func(n *impl.Net) { n.Banks[1].Amount = 0 })
	otherFull := withNet(func(n *impl.Net) { putManyBehindMark(n, 20) })
	// bank 1 is not Marked, both ways to it bring a mark, and those from it are 2 and 3
	marked := func(n *impl.Net) {
		next(5)(n)
		markIn(n, 1, []int{0}, []int{2, 3})
	}
	checkNetCases(t, []netCase{
		{"To is Marked: the way is not Watched any more", ahead, bankStep("t0>2"), over(1)},
		{"To is Marked, and as many are seen as there may be", seen, bankStep("t0>2"), over(1)},
		{"To is not Marked: it is, and this way is not Watched", plainNet(), bankStep("t2>1"), marked},
		{"To is not Marked, and is full", full, bankStep("t2>1"), marked},
		{"To is not Marked, and has nothing", empty, bankStep("t2>1"), marked},
		{"the first way from it has 19", room(2, 19), bankStep("t2>1"), marked},
		{"the first way from it has 20", room(2, 20), bankStep("t2>1"), nil},
		{"the last way from it has 19", room(3, 19), bankStep("t2>1"), marked},
		{"the last way from it has 20", room(3, 20), bankStep("t2>1"), nil},
		{"another way has 20", otherFull, bankStep("t2>1"), marked},
		{"of five", fiveNet(), bankStep("t2>1"), func(n *impl.Net) {
			next(9)(n)
			markIn(n, 1, []int{0, 13, 17}, []int{4, 5, 6, 7})
		}},
	})
	// whoever is Marked already needs no room
	crowded := withNet(func(n *impl.Net) {
		n.Ways[1].Parcels = parcels("M")
		n.Ways[4].Parcels = slices.Repeat(parcels("2"), 20)
	})
	checkNetCases(t, []netCase{{"To is Marked, a way from it is full", crowded, bankStep("t0>2"), over(1)}})
}

func TestStepNetMarks(t *testing.T) {
	marks := func(bank int, watched []int, marked []int) func(n *impl.Net) {
		return func(n *impl.Net) { markIn(n, bank, watched, marked) }
	}
	room := func(at, many int) impl.Net {
		return withNet(func(n *impl.Net) { n.Ways[at].Parcels = slices.Repeat(parcels("1"), many) })
	}
	plain := marks(1, []int{0, 5}, []int{2, 3})
	running := freshNet(2, 3)
	running.Ways[0].Parcels, running.Ways[1].Parcels = parcels("4 5"), parcels("6")
	checkNetCases(t, []netCase{
		{"the first mark", freshNet(2, 3), bankStep("m0"), marks(0, []int{1}, []int{0})},
		{"the first mark, at the last bank", freshNet(2, 3), bankStep("m1"), marks(1, []int{0}, []int{1})},
		{"behind all that is on its way", running, bankStep("m0"), marks(0, []int{1}, []int{0})},
		{"a bank that has nothing", freshNet(2, 0), bankStep("m1"), marks(1, []int{0}, []int{1})},
		{"a bank that is full", freshNet(2, 1000000), bankStep("m1"), marks(1, []int{0}, []int{1})},
		{"of five, the first one", freshNet(5, 3), bankStep("m0"), marks(0, []int{4, 8, 12, 16}, []int{0, 1, 2, 3})},
		{"of five, the one between", freshNet(5, 3), bankStep("m2"), marks(2, []int{1, 5, 14, 18}, []int{8, 9, 10, 11})},
		{"of five, the last one", freshNet(5, 3), bankStep("m4"), marks(4, []int{3, 7, 11, 15}, []int{16, 17, 18, 19})},
		{"beside others that are Marked", plainNet(), bankStep("m1"), plain},
		{"beside another one of five", fiveNet(), bankStep("m4"), marks(4, []int{3, 7, 11, 15}, []int{16, 17, 18, 19})},
		{"it is Marked", plainNet(), bankStep("m0"), nil},
		{"it is Marked, the last one", plainNet(), bankStep("m2"), nil},
		{"the first way from it has 19", room(2, 19), bankStep("m1"), plain},
		{"the first way from it has 20", room(2, 20), bankStep("m1"), nil},
		{"the last way from it has 19", room(3, 19), bankStep("m1"), plain},
		{"the last way from it has 20", room(3, 20), bankStep("m1"), nil},
		{"a way to it has 20", withNet(func(n *impl.Net) { putManyBehindMark(n, 20) }), bankStep("m1"), plain},
		{"To does not matter", plainNet(), impl.BankStep{Kind: impl.BankMark, From: 1, To: 1}, plain},
		{"To does not matter", plainNet(), impl.BankStep{Kind: impl.BankMark, From: 1, To: -1}, plain},
		{"To does not matter", plainNet(), impl.BankStep{Kind: impl.BankMark, From: 1, To: math.MaxInt}, plain},
		{"nor does the Amount", plainNet(), impl.BankStep{Kind: impl.BankMark, From: 1, Amount: -1}, plain},
		{"nor does the Amount", plainNet(), impl.BankStep{Kind: impl.BankMark, From: 1, Amount: 1000001}, plain},
	})
}

// What comes first on a way is what was put there first.
func TestParcelsComeInTheirOrder(t *testing.T) {
	n := freshNet(2, 1000)
	for amount := 1; amount <= 20; amount++ {
		s := impl.BankStep{Kind: impl.BankSend, From: 1, To: 0, Amount: amount}
		if amount == 11 {
			s = bankStep("m1")
		}
		n, _ = checkNetStep(t, n, s)
	}
	had := n.Banks[0].Amount
	for amount := 1; amount <= 20; amount++ {
		var ok bool
		if n, ok = checkNetStep(t, n, bankStep("t1>0")); !ok {
			t.Fatal(amount, n)
		}
		if amount != 11 {
			had += amount
		}
		if n.Banks[0].Amount != had || n.Banks[0].Marked != (amount >= 11) || len(n.Ways[1].Parcels) != 20-amount {
			t.Fatal(amount, n)
		}
	}
	if _, ok := checkNetStep(t, n, bankStep("t1>0")); ok {
		t.Error(n)
	}
}

// All that steps may do to all good nets that are small.
func TestStepNetOfAllThatAreSmall(t *testing.T) {
	did := make([]int, 5)
	smallNets(func(n impl.Net) {
		if !goodNetAgain(n) {
			return
		}
		for kind := range did {
			for from := -1; from <= 2; from++ {
				for to := -1; to <= 2; to++ {
					for amount := -1; amount <= 3; amount++ {
						if _, ok := checkNetStep(t, n, impl.BankStep{Kind: kind, From: from, To: to, Amount: amount}); ok {
							did[kind]++
						}
					}
				}
			}
		}
	})
	if did[0] > 0 || did[4] > 0 || slices.Min(did[1:4]) < 100 {
		t.Error(did)
	}
}

func TestStepNetOfManySteps(t *testing.T) {
	did := make([]int, 5)
	for _, c := range append(goodNetChanges(), netChange{"", func(*impl.Net) {}}) {
		for _, s := range manyBankSteps() {
			if _, ok := checkNetStep(t, changedNet(c), s); ok {
				did[s.Kind]++
			}
		}
	}
	if slices.Min(did[1:4]) < 200 {
		t.Error(did)
	}
}
