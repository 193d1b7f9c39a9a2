package tests

import (
	"math"
	"slices"
	"testing"

	"loop.example/g00218/impl"
)

// somePlayOfNet is a play of several banks that send and take while marks run: most steps are done, and pictures come to be whole.
func somePlayOfNet(seed uint64) ([]int, []impl.BankStep) {
	m := mixer(seed)
	var amounts []int
	for range 2 + m.below(4) {
		amounts = append(amounts, []int{0, 1, 10, 40, 100, 1000, 999990, 1000000}[m.below(8)])
	}
	n, _ := impl.NewNet(amounts)
	var l []impl.BankStep
	begin := m.below(40)
	takes := 4 + m.below(11)
	for i := range 40 + m.below(81) {
		s := nextBankStep(&m, n, i >= begin, takes)
		l = append(l, s)
		if left, ok := impl.StepNet(n, s); ok {
			n = left
		}
	}
	return amounts, l
}

// nextBankStep is mostly one that can be done; of a bank's own will there are few marks.
func nextBankStep(m *mixer, n impl.Net, begun bool, takes int) impl.BankStep {
	w := n.Ways[m.below(len(n.Ways))]
	s := impl.BankStep{From: w.From, To: w.To}
	switch draw := m.below(20); {
	case draw == 0:
		return impl.BankStep{Kind: m.below(5), From: m.below(len(n.Banks)+1) - 1, To: m.below(len(n.Banks) + 1), Amount: m.below(30) - 1}
	case draw == 1 && begun && m.below(3) == 0:
		s.Kind = impl.BankMark
	case draw < 2+takes:
		s.Kind = impl.BankTake
		busy := slices.IndexFunc(n.Ways, func(other impl.Way) bool { return len(other.Parcels) > 0 && m.below(3) == 0 })
		if len(w.Parcels) == 0 && busy >= 0 {
			s.From, s.To = n.Ways[busy].From, n.Ways[busy].To
		}
	default:
		s.Kind, s.Amount = impl.BankSend, 1+m.below(min(50, n.Banks[w.From].Amount+1))
	}
	return s
}

func TestNewNet(t *testing.T) {
	for _, amounts := range [][]int{
		nil, {}, {0}, {5}, {1, 2, 3, 4, 5, 6}, make([]int, 6), make([]int, 7), make([]int, 100),
		{-1, 5}, {5, -1}, {1000001, 5}, {5, 1000001}, {5, 5, 5, 5, -1}, {5, 5, 1000001, 5, 5}, {5, 5, 5, -1, 5},
		{math.MinInt, 5}, {5, math.MaxInt}, {5, 1<<32 + 5}, {-1, -1}, {1000001, 1000001},
	} {
		if n, ok := impl.NewNet(amounts); ok || !isZeroNet(n) {
			t.Error(amounts, n, ok)
		}
	}
	for _, amounts := range [][]int{
		{5, 7}, {0, 0}, {1000000, 1000000}, {0, 1000000}, {999999, 1}, {1, 2, 3}, {4, 3, 2, 1}, {1, 1, 1, 1, 1}, {0, 1000000, 0, 1000000, 7},
	} {
		n, ok := impl.NewNet(amounts)
		want := freshNet(len(amounts), 0)
		total := 0
		for i, amount := range amounts {
			want.Banks[i].Amount = amount
			total += amount
		}
		if !ok || !sameNet(n, want) || !impl.GoodNet(n) || totalAgain(n) != total {
			t.Error(amounts, n, ok)
		}
		checkPicture(t, n)
	}
	if n, _ := impl.NewNet([]int{5, 6, 7}); !slices.EqualFunc(n.Ways, [][2]int{{0, 1}, {0, 2}, {1, 0}, {1, 2}, {2, 0}, {2, 1}}, func(w impl.Way, ends [2]int) bool {
		return w.From == ends[0] && w.To == ends[1] && len(w.Parcels) == 0 && !w.Watched && len(w.Seen) == 0
	}) {
		t.Error(n)
	}
}

func TestPlayNet(t *testing.T) {
	const yes, no = true, false
	brought := func(from, to int, on string, seen ...int) impl.Way {
		return impl.Way{From: from, To: to, Parcels: parcels(on), Seen: seen}
	}
	marked := func(amount, noted int) impl.Bank { return impl.Bank{Amount: amount, Marked: true, Noted: noted} }
	for _, c := range []struct {
		amounts []int
		steps   string
		did     []bool
		left    impl.Net
	}{
		{[]int{10, 5}, "", nil, impl.Net{Banks: []impl.Bank{{Amount: 10}, {Amount: 5}}, Ways: []impl.Way{way(0, 1, ""), way(1, 0, "")}}},
		// what is on its way while both are marked is seen
		{[]int{10, 5}, "s0>1:3 m1 t0>1 t1>0 t0>1", []bool{yes, yes, yes, yes, yes}, impl.Net{
			Banks: []impl.Bank{marked(7, 7), marked(8, 5)}, Ways: []impl.Way{brought(0, 1, "", 3), brought(1, 0, "")},
		}},
		// what is sent ahead of a mark is noted or seen, what is sent behind it is neither
		{[]int{10, 5}, "m0 s0>1:4 s1>0:2 t0>1 t0>1 t1>0 t1>0", []bool{yes, yes, yes, yes, yes, yes, yes}, impl.Net{
			Banks: []impl.Bank{marked(8, 10), marked(7, 3)}, Ways: []impl.Way{brought(0, 1, ""), brought(1, 0, "", 2)},
		}},
		// marks of two that began at once meet
		{[]int{10, 5}, "m0 m1 t1>0", []bool{yes, yes, yes}, impl.Net{
			Banks: []impl.Bank{marked(10, 10), marked(5, 5)}, Ways: []impl.Way{watchedWay(0, 1, "M"), brought(1, 0, "")},
		}},
		// steps that cannot be done, behind which all goes on as it was
		{[]int{10, 5}, "t0>1 s0>1:11 s0>0:1 m2 m0 m0 s0>1:0 t1>0 t0>1 t0>1 m1 t1>0 s2>0:1 t0>2", []bool{no, no, no, no, yes, no, no, no, yes, no, no, yes, no, no}, impl.Net{
			Banks: []impl.Bank{marked(10, 10), marked(5, 5)}, Ways: []impl.Way{brought(0, 1, ""), brought(1, 0, "")},
		}},
		// a bank that is full takes nothing till it has sent
		{[]int{10, 1000000}, "s0>1:1 t0>1 s1>0:1 t0>1 t0>1", []bool{yes, no, yes, yes, no}, impl.Net{
			Banks: []impl.Bank{{Amount: 9}, {Amount: 1000000}}, Ways: []impl.Way{way(0, 1, ""), way(1, 0, "1")},
		}},
		// three of them: the mark goes on from bank to bank
		{[]int{1, 2, 3}, "s2>1:3 m0 t0>1 t1>2 s2>0:1 t2>1 t2>1", []bool{yes, yes, yes, yes, no, yes, yes}, impl.Net{
			Banks: []impl.Bank{marked(1, 1), marked(5, 2), marked(0, 0)},
			Ways: []impl.Way{
				brought(0, 1, ""), watchedWay(0, 2, "M"), watchedWay(1, 0, "M"), brought(1, 2, ""), watchedWay(2, 0, "M"), brought(2, 1, "", 3),
			},
		}},
	} {
		n, did, ok := impl.PlayNet(c.amounts, bankSteps(c.steps))
		if !ok || !slices.Equal(did, c.did) || !sameNet(n, c.left) {
			t.Errorf("%s: %v %v, %+v is left", c.steps, did, ok, n)
		}
	}
}

func TestPlayNetOfWhatNewNetRefuses(t *testing.T) {
	for _, amounts := range [][]int{nil, {5}, {5, 5}, {0, 1000000}, {-1, 5}, {5, 1000001}, {1, 2, 3, 4, 5}, {1, 2, 3, 4, 5, 6}} {
		for _, l := range [][]impl.BankStep{nil, bankSteps("m0"), bankSteps("s1>0:1 m1 t1>0 m9")} {
			n, did, ok := impl.PlayNet(amounts, l)
			start, can := impl.NewNet(amounts)
			if ok != can || !can && (did != nil || !isZeroNet(n)) {
				t.Error(amounts, n, did, ok)
			}
			if can && (len(did) != len(l) || len(l) == 0 && !sameNet(n, start) || len(l) > 0 && totalAgain(n) != totalAgain(start)) {
				t.Error(amounts, n, did, ok)
			}
		}
	}
}

func TestPlayNetHasALimit(t *testing.T) {
	for _, text := range []string{"m0", "t0>1", "s0>1:1 t0>1", "s0>1:1 s1>0:1 t0>1 m1 t1>0", "m7"} {
		l := slices.Repeat(bankSteps(text), 130)
		for _, many := range []int{0, 1, 119, 120} {
			if n, did, ok := impl.PlayNet([]int{900, 800}, l[:many]); !ok || len(did) != many || totalAgain(n) != 1700 {
				t.Error(many, n, did, ok)
			}
		}
		for _, many := range []int{121, 122, 130} {
			if n, did, ok := impl.PlayNet([]int{900, 800}, l[:many]); ok || did != nil || !isZeroNet(n) {
				t.Error(many, n, did, ok)
			}
		}
	}
	// the last step that there is room for counts
	l := append(slices.Repeat(bankSteps("t0>1"), 119), bankSteps("m1")...)
	if n, did, ok := impl.PlayNet([]int{1, 2}, l); !ok || len(l) != 120 || !did[119] || did[118] || !n.Banks[1].Marked {
		t.Error(n, did, ok)
	}
}

// A way has at most 20 parcels, marks among them.
func TestPlayNetPutsAtMostTwentyOnAWay(t *testing.T) {
	n, did, ok := impl.PlayNet([]int{100, 100}, slices.Repeat(bankSteps("s0>1:2"), 25))
	if !ok || len(n.Ways[0].Parcels) != 20 || n.Banks[0].Amount != 60 || !did[19] || did[20] || did[24] {
		t.Error(n, did, ok)
	}
	n, did, ok = impl.PlayNet([]int{100, 100}, append(slices.Repeat(bankSteps("s0>1:2"), 20), bankSteps("m0 t0>1 m0 s0>1:2 t0>1 s0>1:2 t0>1")...))
	if !ok || len(n.Ways[0].Parcels) != 19 || !slices.Equal(did[20:], []bool{false, true, true, false, true, true, true}) {
		t.Error(n, did, ok)
	}
}

// A play is its steps one by one, each that can be done.
func TestPlayNetIsItsSteps(t *testing.T) {
	for seed := range 1000 {
		amounts, l := somePlayOfNet(uint64(seed))
		n, _ := impl.NewNet(amounts)
		var want []bool
		for i, s := range l {
			left, ok := checkNetStep(t, n, s)
			if ok {
				n = left
			}
			want = append(want, ok)
			if i%40 == 7 || i == len(l)-1 {
				played, did, ok := impl.PlayNet(amounts, l[:i+1])
				if !ok || !sameNet(played, n) || !slices.Equal(did, want) {
					t.Fatalf("%v: %v %v, not %v %v", l[:i+1], played, did, n, want)
				}
			}
		}
	}
}
