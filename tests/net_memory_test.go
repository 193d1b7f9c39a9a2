package tests

import (
	"fmt"
	"math"
	"slices"
	"testing"

	"loop.example/g00218/impl"
)

// netAnswers asks all functions of a net, and tells what they answered as one text.
func netAnswers(n impl.Net, s impl.BankStep) string {
	left, ok1 := impl.StepNet(n, s)
	total, ok2 := impl.TotalOf(n)
	sum, whole, ok3 := impl.PictureOf(n)
	finished, ok4 := impl.FinishNet(n)
	return fmt.Sprint(impl.GoodNet(n), left, ok1, total, ok2, sum, whole, ok3, finished, ok4)
}

// someNets are good ones, at the edges, played and drawn ones, and some that are not.
func someNets() []impl.Net {
	l := []impl.Net{{}, plainNet(), wholeNet(), fiveNet(), freshNet(2, 1000000)}
	for _, c := range append(goodNetChanges(), badNetChanges()...) {
		l = append(l, changedNet(c))
	}
	for seed := range 30 {
		amounts, steps := somePlayOfNet(uint64(seed))
		n, _, _ := impl.PlayNet(amounts, steps)
		half, _, _ := impl.PlayNet(amounts, steps[:len(steps)/4])
		m := mixer(seed)
		l = append(l, n, half, drawnNet(&m))
	}
	return l
}

// someBankSteps are a few of each kind, that most nets can do and that none can.
func someBankSteps() []impl.BankStep {
	return append(bankSteps("s0>1:1 s1>0:3 s2>1:10 s0>1:1000001 t0>1 t1>0 t0>2 t2>1 t2>0 m0 m1 m2 m9 t0>9 s9>0:1"), impl.BankStep{}, impl.BankStep{Kind: 4, To: 1})
}

// wholeMemoryOf is the net with all that lies behind the lengths of its lists.
func wholeMemoryOf(n impl.Net) impl.Net {
	n.Banks, n.Ways = slices.Clone(n.Banks[:cap(n.Banks)]), slices.Clone(n.Ways[:cap(n.Ways)])
	for i, w := range n.Ways {
		n.Ways[i].Parcels, n.Ways[i].Seen = slices.Clone(w.Parcels[:cap(w.Parcels)]), slices.Clone(w.Seen[:cap(w.Seen)])
	}
	return n
}

// roomyNet is the net with room behind each list, where something lies that must not matter.
func roomyNet(n impl.Net, amount int) impl.Net {
	n = deepNet(n)
	p := impl.Parcel{Mark: amount%2 == 0, Amount: amount}
	for i, w := range n.Ways {
		n.Ways[i].Parcels = append(w.Parcels, p, p, p)[:len(w.Parcels)]
		n.Ways[i].Seen = append(w.Seen, amount, amount, amount)[:len(w.Seen)]
	}
	b := impl.Bank{Amount: amount, Marked: true, Noted: amount}
	n.Banks = append(n.Banks, b, b)[:len(n.Banks)]
	other := impl.Way{From: 1, To: amount, Parcels: []impl.Parcel{p}, Watched: true, Seen: []int{amount}}
	n.Ways = append(n.Ways, other, other)[:len(n.Ways)]
	return n
}

func netSpans(n impl.Net, what string) []span {
	spans := []span{spanOf(n.Banks, what+"'s banks"), spanOf(n.Ways, what+"'s ways")}
	for i, w := range n.Ways {
		spans = append(spans, spanOf(w.Parcels, fmt.Sprint(what, "'s parcels on way ", i)), spanOf(w.Seen, fmt.Sprint(what, "'s seen on way ", i)))
	}
	return spans
}

func TestNoNetIsWrittenInto(t *testing.T) {
	for _, n := range someNets() {
		old := deepNet(n)
		for _, s := range someBankSteps() {
			netAnswers(n, s)
		}
		for _, s := range stepsOfWays(n) {
			impl.StepNet(n, s)
		}
		if !sameNet(n, old) {
			t.Errorf("%v became %v", old, n)
		}
	}
}

func TestNoAmountAndNoStepOfANetIsWrittenInto(t *testing.T) {
	for seed := range 100 {
		amounts, l := somePlayOfNet(uint64(seed))
		oldAmounts, old := slices.Clone(amounts), slices.Clone(l)
		impl.NewNet(amounts)
		impl.PlayNet(amounts, l)
		if !slices.Equal(l, old) || !slices.Equal(amounts, oldAmounts) {
			t.Errorf("%v %v became %v %v", oldAmounts, old, amounts, l)
		}
	}
}

// Whatever lies behind the lengths, good or bad, is neither read nor written nor handed out.
func TestNetsKeepToTheirLengths(t *testing.T) {
	for _, n := range someNets() {
		l := append(someBankSteps(), stepsOfWays(n)...)
		var want []string
		for _, s := range l {
			want = append(want, netAnswers(n, s))
		}
		for _, amount := range []int{-1, 0, 5, 2000000} {
			long := roomyNet(n, amount)
			old := wholeMemoryOf(long)
			for i, s := range l {
				if got := netAnswers(long, s); got != want[i] {
					t.Fatalf("%v: %s, not %s", n, got, want[i])
				}
			}
			if !sameNet(wholeMemoryOf(long), old) {
				t.Fatalf("%v became %v", old, wholeMemoryOf(long))
			}
		}
	}
	amounts, steps := []int{5, 6, 7, -1}, bankSteps("m0 t0>1 m7")
	if n, did, ok := impl.PlayNet(amounts[:3], steps[:2]); !ok || len(n.Banks) != 3 || !slices.Equal(did, []bool{true, true}) {
		t.Error(n, did, ok)
	}
	if _, did, ok := impl.PlayNet(amounts[:2], slices.Repeat(steps, 50)[:120]); len(did) != 120 || !ok {
		t.Error(did, ok)
	}
}

// stepsOfWays are a step of each kind along each way, and one at each bank.
func stepsOfWays(n impl.Net) []impl.BankStep {
	var l []impl.BankStep
	for i := range n.Banks {
		l = append(l, impl.BankStep{Kind: impl.BankMark, From: i})
	}
	for _, w := range n.Ways {
		l = append(l, impl.BankStep{Kind: impl.BankTake, From: w.From, To: w.To}, impl.BankStep{Kind: impl.BankSend, From: w.From, To: w.To, Amount: 1})
	}
	return l
}

func TestNetsAreNewMemory(t *testing.T) {
	did, finishes := 0, 0
	for _, n := range someNets() {
		given := roomyNet(n, 5)
		spans := netSpans(given, "given")
		for _, s := range stepsOfWays(given) {
			left, ok := impl.StepNet(given, s)
			if !ok {
				continue
			}
			did++
			checkNew(t, netSpans(left, "left"), spans)
			// and what follows from an answer lies apart from it
			for _, s := range stepsOfWays(left)[:5] {
				if next, ok := impl.StepNet(left, s); ok {
					checkNew(t, netSpans(next, "next"), netSpans(left, "left"))
				}
			}
		}
		if finished, ok := impl.FinishNet(given); ok {
			finishes++
			checkNew(t, netSpans(finished, "finished"), spans)
			again, _ := impl.FinishNet(finished)
			checkNew(t, netSpans(again, "again"), netSpans(finished, "finished"))
		}
	}
	if did < 500 || finishes < 50 {
		t.Error(did, finishes)
	}
}

func TestWhatPlayNetTellsIsNewMemory(t *testing.T) {
	for seed := range 100 {
		amounts, l := somePlayOfNet(uint64(seed))
		n, did, _ := impl.PlayNet(amounts, l)
		other, otherDid, _ := impl.PlayNet(amounts, l)
		given := append(netSpans(other, "other"), spanOf(amounts, "amounts"), spanOf(l, "steps"), spanOf(otherDid, "other did"))
		checkNew(t, append(netSpans(n, "net"), spanOf(did, "did")), given)
		a, _ := impl.NewNet(amounts)
		b, _ := impl.NewNet(amounts)
		checkNew(t, netSpans(a, "new"), append(netSpans(b, "another"), spanOf(amounts, "amounts")))
	}
}

// Lists of the argument that lie in one memory do not bring those of the answer together.
func TestNetsThatShareMemoryAreParted(t *testing.T) {
	on, seen := parcels("4 4 4 M 4 4 4"), []int{6, 6, 6, 6, 6, 6, 6}
	n := freshNet(3, 50)
	for i := range n.Banks {
		n.Banks[i].Marked = i != 1
	}
	for i, w := range n.Ways {
		switch {
		case w.From == 1:
			n.Ways[i].Parcels, n.Ways[i].Watched = on[:2+i%2], true
		default:
			n.Ways[i].Parcels, n.Ways[i].Watched = on[i%4:4+i%3], w.To != 1
		}
		if w.To != 1 {
			n.Ways[i].Seen = seen[i%3 : i%3+3]
		}
	}
	old := deepNet(n)
	for _, s := range bankSteps("m1 s0>1:2 s1>2:3 s2>0:4 t0>1 t0>2 t1>0 t1>2 t2>0 t2>1") {
		left, ok := checkNetStep(t, n, s)
		if checkNew(t, netSpans(left, "left"), append(netSpans(n, "given"), spanOf(on, "on"), spanOf(seen, "seen"))); !ok {
			t.Error(s, ok)
		}
	}
	left, ok := checkFinish(t, n)
	if checkNew(t, netSpans(left, "left"), append(netSpans(n, "given"), spanOf(on, "on"), spanOf(seen, "seen"))); !ok {
		t.Error(left, ok)
	}
	if !sameNet(n, old) || !slices.Equal(on, parcels("4 4 4 M 4 4 4")) || !slices.Equal(seen, slices.Repeat([]int{6}, 7)) {
		t.Error(n, on, seen)
	}
}

// Two answers to one question lie apart: one may be written into.
func TestTwoAnswersOfNetsShareNoMemory(t *testing.T) {
	steps := bankSteps("s0>1:3 m1 t0>1 t1>0")
	for range 2 {
		fresh, _ := impl.NewNet([]int{5, 6})
		left, _ := impl.StepNet(plainNet(), bankStep("t0>2"))
		played, did, _ := impl.PlayNet([]int{10, 5}, steps)
		finished, ok := impl.FinishNet(played)
		if fresh.Banks[1].Amount != 6 || len(fresh.Ways) != 2 || !impl.GoodNet(fresh) {
			t.Error(fresh)
		}
		if !slices.Equal(left.Ways[1].Seen, []int{2, 6, 4}) || !slices.Equal(left.Ways[1].Parcels, parcels("M")) || !slices.Equal(left.Ways[2].Parcels, parcels("9 1")) {
			t.Error(left)
		}
		if !slices.Equal(did, []bool{true, true, true, true}) || !slices.Equal(played.Ways[0].Parcels, parcels("M")) || !slices.Equal(played.Ways[0].Seen, []int{3}) {
			t.Error(played, did)
		}
		if !ok || len(finished.Ways[0].Parcels) != 0 || !slices.Equal(finished.Ways[0].Seen, []int{3}) || finished.Banks[1].Amount != 8 {
			t.Error(finished, ok)
		}
		for _, n := range []impl.Net{fresh, left, played, finished} {
			spoilNetLists(n)
		}
		clear(did)
	}
}

// spoilNetLists writes into all that a net has, and into the room behind it.
func spoilNetLists(n impl.Net) {
	for _, w := range n.Ways {
		on, seen := w.Parcels[:cap(w.Parcels)], w.Seen[:cap(w.Seen)]
		for i := range on {
			on[i] = impl.Parcel{Amount: -7}
		}
		for i := range seen {
			seen[i] = -7
		}
	}
	banks, ways := n.Banks[:cap(n.Banks)], n.Ways[:cap(n.Ways)]
	clear(ways)
	for i := range banks {
		banks[i] = impl.Bank{Amount: -7}
	}
}

// What was asked before does not matter: nothing is kept from call to call.
func TestNetsAreAnsweredAlikeAgain(t *testing.T) {
	var first []string
	all := someNets()
	for _, n := range all {
		first = append(first, netAnswers(n, bankStep("t0>1")))
	}
	for i, n := range slices.Backward(all) {
		if got := netAnswers(n, bankStep("t0>1")); got != first[i] {
			t.Errorf("%v: %s, and %s at first", n, got, first[i])
		}
	}
}

// No choice among ways that are ready, and nothing of what runs beside, is to be seen: plays at once are answered as one alone.
func TestNetsAreAnsweredAlikeAtOnce(t *testing.T) {
	busy := fiveNet()
	for i := range busy.Ways {
		busy.Ways[i].Parcels = append(parcels("1 2"), busy.Ways[i].Parcels...)
	}
	for _, n := range []impl.Net{busy, plainNet(), wholeNet()} {
		want := netAnswers(n, bankStep("t2>1"))
		answers := make(chan string)
		for range 50 {
			go func() { answers <- netAnswers(n, bankStep("t2>1")) }()
		}
		for range 50 {
			if got := <-answers; got != want {
				t.Fatalf("%v: %s, and %s at first", n, got, want)
			}
		}
	}
}

// Nets of anything at all are answered, and those that are not good by the zero answer.
func TestNetsOfAnything(t *testing.T) {
	numbers := []int{math.MinInt, math.MinInt + 1, -2, -1, 0, 1, 2, 3, 4, 5, 6, 19, 20, 199, 200, 999999, 1000000, 1000001, 1 << 32, math.MaxInt - 1, math.MaxInt}
	good, bad, did := 0, 0, 0
	for seed := range 8000 {
		m := mixer(seed)
		number := func() int { return numbers[m.below(len(numbers))] }
		n := drawnNet(&m)
		s := drawnBankStep(&m, n)
		for range m.below(3) {
			spoilNet(&m, &n, number())
		}
		if m.below(4) == 0 {
			s = impl.BankStep{Kind: number(), From: number(), To: number(), Amount: number()}
		}
		want := goodNetAgain(n)
		if impl.GoodNet(n) != want {
			t.Fatalf("%v: not %v", n, want)
		}
		if want {
			good++
			checkPicture(t, n)
			if seed%3 == 0 {
				checkFinish(t, n)
			}
		} else {
			bad++
			total, ok1 := impl.TotalOf(n)
			sum, whole, ok2 := impl.PictureOf(n)
			left, ok3 := impl.FinishNet(n)
			if ok1 || ok2 || ok3 || whole || total != 0 || sum != 0 || !isZeroNet(left) {
				t.Fatalf("%v: %d %v %d %v %v %v %v", n, total, ok1, sum, whole, ok2, left, ok3)
			}
		}
		if _, ok := checkNetStep(t, n, s); ok {
			did++
		}
		impl.NewNet([]int{number(), number()})
		impl.PlayNet([]int{m.below(5), number(), m.below(9)}, slices.Repeat([]impl.BankStep{s}, m.below(130)))
	}
	if good < 2000 || bad < 2000 || did < 1000 {
		t.Error(good, bad, did)
	}
}

// spoilNet puts a number, or another length, at one place.
func spoilNet(m *mixer, n *impl.Net, number int) {
	b, w := &n.Banks[m.below(len(n.Banks))], &n.Ways[m.below(len(n.Ways))]
	switch m.below(12) {
	case 0:
		b.Amount = number
	case 1:
		b.Noted = number
	case 2:
		b.Marked = !b.Marked
	case 3:
		w.From = number
	case 4:
		w.To = number
	case 5:
		w.Watched = !w.Watched
	case 6:
		w.Seen = append(w.Seen, number)
	case 7:
		w.Parcels = append(w.Parcels, impl.Parcel{Amount: number})
	case 8:
		w.Parcels = append(w.Parcels, impl.Parcel{Mark: true, Amount: min(0, number)})
	case 9:
		n.Ways = append(n.Ways, *w)
	case 10:
		n.Banks = append(n.Banks, *b)
	case 11:
		if len(w.Parcels) > 0 {
			w.Parcels = w.Parcels[1:]
		}
	}
}
