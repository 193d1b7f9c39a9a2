package tests

import (
	"math"
	"slices"
	"testing"

	"loop.example/g00218/impl"
)

func local(proc int) impl.Event {
	return impl.Event{Kind: impl.EventLocal, Proc: proc}
}

func send(proc, msg int) impl.Event {
	return impl.Event{Kind: impl.EventSend, Proc: proc, Msg: msg}
}

func take(proc, msg int) impl.Event {
	return impl.Event{Kind: impl.EventTake, Proc: proc, Msg: msg}
}

// locals are n events without messages, on all Procs in turn.
func locals(n int) []impl.Event {
	var l []impl.Event
	for i := range n {
		l = append(l, local(i%impl.MaxProcs))
	}
	return l
}

// mayFollow tells, by going through all of them, whether an event may stand behind good ones.
func mayFollow(l []impl.Event, e impl.Event) bool {
	wasSent := slices.ContainsFunc(l, func(x impl.Event) bool { return x.Kind == impl.EventSend && x.Msg == e.Msg })
	wasTaken := slices.ContainsFunc(l, func(x impl.Event) bool { return x.Kind == impl.EventTake && x.Msg == e.Msg })
	switch e.Kind {
	case impl.EventSend:
		return !wasSent
	case impl.EventTake:
		return wasSent && !wasTaken
	}
	return true
}

// smallHistories are all good events, at most n, of some Procs and two messages.
func smallHistories(n, procs int) [][]impl.Event {
	all := [][]impl.Event{nil}
	for from, size := 0, 0; size < n; size++ {
		end := len(all)
		for _, l := range all[from:end] {
			for p := range procs {
				for _, e := range []impl.Event{local(p), send(p, 1), take(p, 1), send(p, 2), take(p, 2)} {
					if mayFollow(l, e) {
						all = append(all, append(slices.Clone(l), e))
					}
				}
			}
		}
		from = end
	}
	return all
}

// longHistory has MaxEvents events, mixed by a fixed rule that the seed sets going; messages are taken in any order.
func longHistory(seed uint64) []impl.Event {
	var l []impl.Event
	var open []int
	next := func(n int) int {
		seed = seed*6364136223846793005 + 1442695040888963407
		return int(seed>>33) % n
	}
	for len(l) < impl.MaxEvents {
		p := next(impl.MaxProcs)
		switch next(3) {
		case 0:
			l = append(l, local(p))
		case 1:
			msg := 1000 - len(l)
			l = append(l, send(p, msg))
			open = append(open, msg)
		default:
			if len(open) > 0 {
				i := next(len(open))
				l = append(l, take(p, open[i]))
				open = slices.Delete(open, i, i+1)
			}
		}
	}
	return l
}

func longHistories() [][]impl.Event {
	var all [][]impl.Event
	for seed := range 40 {
		all = append(all, longHistory(uint64(seed)))
	}
	return all
}

// goodHistories stand at the edges that the document names.
func goodHistories() [][]impl.Event {
	return [][]impl.Event{
		nil,
		{},
		locals(1),
		locals(impl.MaxEvents),
		{local(0)},
		{local(impl.MaxProcs - 1)},
		{send(0, 1)},
		{send(5, 1000)},
		{send(5, 1000), take(0, 1000)},
		{send(0, 1), take(0, 1)},
		{send(0, 1), take(1, 1), send(1, 2), take(0, 2)},
		{send(0, 2), send(0, 1), take(1, 1), take(1, 2)},
		append(locals(58), send(2, 7), take(2, 7)),
		append([]impl.Event{send(3, 9)}, append(locals(58), take(4, 9))...),
	}
}

// badHistories break one rule each.
func badHistories() [][]impl.Event {
	all := [][]impl.Event{
		locals(impl.MaxEvents + 1),
		locals(5000),
		append(locals(59), send(2, 7), take(2, 7)),
		{send(0, 1), send(0, 1)},
		{send(0, 1), send(1, 1)},
		{send(0, 1), take(1, 1), send(0, 1)},
		{send(0, 1), take(1, 1), take(1, 1)},
		{send(0, 1), take(1, 1), take(2, 1)},
		{send(0, 1), take(1, 1), send(0, 1), take(1, 1)},
		{take(0, 1)},
		{take(1, 1), send(0, 1)},
		{send(0, 1), take(1, 2)},
		{send(0, 1), take(1, 2), send(0, 2)},
		append(locals(59), impl.Event{}),
		append([]impl.Event{{}}, locals(3)...),
	}
	for _, n := range []int{-1, 6, 7, 64, math.MinInt, math.MaxInt} {
		all = append(all,
			[]impl.Event{local(n)},
			[]impl.Event{local(0), send(n, 1)},
			[]impl.Event{send(0, 1), take(n, 1)})
	}
	for _, n := range []int{-1, 0, 4, 5, math.MinInt, math.MaxInt} {
		all = append(all,
			[]impl.Event{{Kind: n}},
			[]impl.Event{{Kind: n, Msg: 1}},
			[]impl.Event{send(0, 1), {Kind: n, Msg: 1}})
	}
	for _, n := range []int{-1, 1, 1000, 1001, math.MinInt, math.MaxInt} {
		all = append(all,
			[]impl.Event{{Kind: impl.EventLocal, Msg: n}},
			[]impl.Event{send(0, 1), {Kind: impl.EventLocal, Msg: n}})
	}
	for _, n := range []int{-1, 0, 1001, math.MinInt, math.MaxInt} {
		all = append(all,
			[]impl.Event{send(0, n)},
			[]impl.Event{send(0, 1), take(0, n)},
			[]impl.Event{send(0, n), take(0, n)})
	}
	return all
}

func TestLimitsOfEvents(t *testing.T) {
	if impl.MaxEvents != 60 || impl.MaxProcs != 6 {
		t.Error(impl.MaxEvents, impl.MaxProcs)
	}
	if impl.EventLocal != 1 || impl.EventSend != 2 || impl.EventTake != 3 {
		t.Error(impl.EventLocal, impl.EventSend, impl.EventTake)
	}
}

func TestGoodEvents(t *testing.T) {
	for _, l := range slices.Concat(goodHistories(), smallHistories(4, 2), longHistories()) {
		if !impl.GoodEvents(l) {
			t.Errorf("%+v is good", l)
		}
	}
	for _, l := range badHistories() {
		if impl.GoodEvents(l) {
			t.Errorf("%+v is not good", l)
		}
	}
}

// Each event behind each small history, also where it may not stand there.
func TestGoodEventsAtEachNextEvent(t *testing.T) {
	for _, l := range smallHistories(4, 2) {
		for _, e := range []impl.Event{local(0), send(0, 1), take(0, 1), send(1, 2), take(1, 2), send(1, 3), take(1, 3)} {
			if good := impl.GoodEvents(append(slices.Clone(l), e)); good != mayFollow(l, e) {
				t.Errorf("%+v and %+v: %v", l, e, good)
			}
		}
	}
}

func TestBadEventsHaveTheZeroAnswer(t *testing.T) {
	for _, l := range badHistories() {
		if x, ok := impl.LamportOf(l); len(x) != 0 || ok {
			t.Errorf("LamportOf %+v: %v %v", l, x, ok)
		}
		if x, ok := impl.VectorOf(l); len(x) != 0 || ok {
			t.Errorf("VectorOf %+v: %v %v", l, x, ok)
		}
		for _, i := range []int{0, 1, len(l) - 1} {
			if ahead, ok := impl.AheadOf(l, 0, i); ahead || ok {
				t.Errorf("AheadOf %+v, 0, %d: %v %v", l, i, ahead, ok)
			}
		}
		for _, n := range []int{0, 1} {
			if good, ok := impl.GoodCut(l, []int{n, 0, 0, 0, 0, 0}); good || ok {
				t.Errorf("GoodCut %+v, %d: %v %v", l, n, good, ok)
			}
		}
	}
}
