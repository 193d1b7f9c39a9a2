package tests

import (
	"fmt"
	"math"
	"slices"
	"strings"
	"testing"

	"loop.example/g00218/impl"
)

func askPromise(ballot, node int) impl.SynodStep {
	return impl.SynodStep{Ballot: ballot, Node: node}
}

func askVote(ballot, node int) impl.SynodStep {
	return impl.SynodStep{Accept: true, Ballot: ballot, Node: node}
}

// synodSteps are steps as a text: p1:0 asks node 0 to promise ballot 1, a1:0 to accept it.
func synodSteps(text string) []impl.SynodStep {
	var l []impl.SynodStep
	for _, word := range strings.Fields(text) {
		x := impl.SynodStep{Accept: word[0] == 'a'}
		if _, err := fmt.Sscanf(word[1:], "%d:%d", &x.Ballot, &x.Node); err != nil {
			panic(err)
		}
		l = append(l, x)
	}
	return l
}

// manySynodSteps are steps of both kinds of any ballot at any node, good ones and others.
func manySynodSteps() []impl.SynodStep {
	var l []impl.SynodStep
	for _, ballot := range []int{math.MinInt, -1, 0, 1, 2, 3, 4, 5, 8, 9, math.MaxInt} {
		for _, node := range []int{math.MinInt, -1, 0, 1, 2, 3, 4, 5, 11, 12, math.MaxInt} {
			l = append(l, askPromise(ballot, node), askVote(ballot, node))
		}
	}
	return l
}

// synodStepAgain tells the document's words a second time.
func synodStepAgain(s impl.Synod, x impl.SynodStep) (impl.Synod, bool) {
	if !goodSynodAgain(s) || x.Ballot < 1 || x.Ballot > len(s.Proposers) || x.Node < 0 || x.Node >= len(s.Acceptors) {
		return impl.Synod{}, false
	}
	s = deepSynod(s)
	a, p := s.Acceptors[x.Node], s.Proposers[x.Ballot-1]
	if x.Accept {
		if !p.Fixed || a.Promised > x.Ballot || slices.Contains(p.Votes, x.Node) {
			return impl.Synod{}, false
		}
		s.Acceptors[x.Node] = accepted(x.Ballot, x.Ballot, p.Value)
		p.Votes = append(p.Votes, x.Node)
		slices.Sort(p.Votes)
	} else {
		if p.Fixed || a.Promised >= x.Ballot {
			return impl.Synod{}, false
		}
		s.Acceptors[x.Node].Promised = x.Ballot
		p.Promises = slices.DeleteFunc(p.Promises, func(y impl.Promise) bool { return y.Node == x.Node })
		p.Promises = append(p.Promises, toldOf(x.Node, a.Ballot, a.Value))
		slices.SortFunc(p.Promises, func(y, z impl.Promise) int { return y.Node - z.Node })
		p.Fixed, p.Value = fixedAgain(p, len(s.Acceptors))
	}
	s.Proposers[x.Ballot-1] = p
	return s, true
}

// checkSynodStep holds a step against the document's words, and against what they say of all steps: what is left is good, another one, and no node's numbers are less.
func checkSynodStep(t *testing.T, s impl.Synod, x impl.SynodStep) (impl.Synod, bool) {
	t.Helper()
	left, ok := impl.StepSynod(s, x)
	want, wantOk := synodStepAgain(s, x)
	if ok != wantOk || !sameSynod(left, want) {
		t.Fatalf("%s: %+v: %s %v, not %s %v", synodText(s), x, synodText(left), ok, synodText(want), wantOk)
	}
	if !ok {
		return left, false
	}
	if !impl.GoodSynod(left) || sameSynod(s, left) || len(left.Acceptors) != len(s.Acceptors) || len(left.Proposers) != len(s.Proposers) {
		t.Fatalf("%s: %+v: %s", synodText(s), x, synodText(left))
	}
	for i, a := range s.Acceptors {
		if b := left.Acceptors[i]; b.Promised < a.Promised || b.Ballot < a.Ballot {
			t.Fatalf("%s: %+v: node %d went back in %s", synodText(s), x, i, synodText(left))
		}
	}
	return left, true
}

// Each reason that a step does nothing, in a synod in which it would do something but for that.
func TestStepSynodRefuses(t *testing.T) {
	for _, c := range []struct {
		why  string
		step impl.SynodStep
	}{
		{"no ballot", askPromise(0, 0)}, {"no ballot", askPromise(-1, 0)}, {"no ballot", askPromise(math.MinInt, 0)},
		{"a ballot past the last", askPromise(5, 0)}, {"a ballot past the last", askPromise(8, 0)}, {"a ballot past the last", askPromise(math.MaxInt, 0)},
		{"no ballot", askVote(0, 3)}, {"no ballot", askVote(-1, 3)}, {"no ballot", askVote(math.MinInt, 3)},
		{"a ballot past the last", askVote(5, 3)}, {"a ballot past the last", askVote(8, 3)}, {"a ballot past the last", askVote(math.MaxInt, 3)},
		{"no node", askPromise(4, -1)}, {"no node", askPromise(4, math.MinInt)},
		{"a node past the last", askPromise(4, 5)}, {"a node past the last", askPromise(4, 11)}, {"a node past the last", askPromise(4, math.MaxInt)},
		{"no node", askVote(2, -1)}, {"no node", askVote(2, math.MinInt)},
		{"a node past the last", askVote(2, 5)}, {"a node past the last", askVote(2, 11)}, {"a node past the last", askVote(2, math.MaxInt)},
		{"promised already", askPromise(3, 0)}, {"promised already", askPromise(3, 4)},
		{"not Fixed", askVote(3, 0)}, {"not Fixed", askVote(3, 1)}, {"not Fixed", askVote(4, 0)},
		{"a greater one is promised", askVote(1, 2)}, {"a greater one is promised", askVote(1, 3)}, {"a greater one is promised", askVote(1, 4)},
		{"a greater one is promised", askVote(2, 0)}, {"a greater one is promised", askVote(2, 4)},
		{"voted already", askVote(2, 2)}, {"voted already, and a greater one is promised", askVote(1, 0)}, {"voted already, and a greater one is promised", askVote(1, 1)},
		{"Fixed, and a greater one is promised", askPromise(1, 3)}, {"Fixed, and a greater one is promised", askPromise(2, 4)},
	} {
		if left, ok := checkSynodStep(t, mixedSynod(), c.step); ok || !isZeroSynod(left) {
			t.Errorf("%s: %+v: %s %v", c.why, c.step, synodText(left), ok)
		}
	}
	// and just beside these
	for _, x := range synodSteps("p4:0 p4:1 p4:2 p4:3 p4:4 p3:1 p3:2 p3:3 a2:1 a2:3") {
		if left, ok := checkSynodStep(t, mixedSynod(), x); !ok {
			t.Errorf("%+v: %s %v", x, synodText(left), ok)
		}
	}
}

// One reason alone, of those that come together in a synod that was played.
func TestStepSynodRefusesForOneReason(t *testing.T) {
	for _, c := range []struct {
		why  string
		put  func(s *impl.Synod)
		step impl.SynodStep
		ok   bool
	}{
		{"Promised just the ballot", func(s *impl.Synod) { s.Acceptors[1].Promised = 3 }, askPromise(3, 1), false},
		{"Promised just below the ballot", func(s *impl.Synod) { s.Acceptors[1].Promised = 2 }, askPromise(3, 1), true},
		{"Promised above the ballot", func(s *impl.Synod) { s.Acceptors[1].Promised = 4 }, askPromise(3, 1), false},
		{"Promised 0", func(s *impl.Synod) { s.Acceptors[3] = impl.Acceptor{} }, askPromise(3, 3), true},
		{"Fixed", func(s *impl.Synod) { s.Acceptors[4] = impl.Acceptor{Promised: 1} }, askPromise(2, 4), false},
		{"Fixed", func(s *impl.Synod) { s.Acceptors[4] = impl.Acceptor{} }, askPromise(1, 4), false},
		{"not Fixed, Promised just the ballot", func(s *impl.Synod) { s.Acceptors[1].Promised = 3 }, askVote(3, 1), false},
		{"not Fixed, Promised nothing", func(s *impl.Synod) { s.Acceptors[4] = impl.Acceptor{} }, askVote(4, 4), false},
		{"Promised just the ballot", func(s *impl.Synod) { s.Acceptors[3].Promised = 2 }, askVote(2, 3), true},
		{"Promised below the ballot", func(s *impl.Synod) { s.Acceptors[3].Promised = 1 }, askVote(2, 3), true},
		{"Promised nothing", func(s *impl.Synod) { s.Acceptors[4] = impl.Acceptor{} }, askVote(2, 4), true},
		{"Promised just above the ballot", func(s *impl.Synod) { s.Acceptors[3].Promised = 3 }, askVote(2, 3), false},
		{"voted already, Promised just the ballot", func(s *impl.Synod) { s.Proposers[1].Votes = []int{2, 3} }, askVote(2, 3), false},
		{"voted already, Promised below the ballot", func(s *impl.Synod) { s.Acceptors[0] = impl.Acceptor{Promised: 1}; s.Proposers[1].Votes = []int{0} }, askVote(2, 0), false},
		{"all but the node have voted", func(s *impl.Synod) { s.Proposers[1].Votes = []int{0, 1, 2, 4} }, askVote(2, 3), true},
		{"has the ballot, but no vote of it", func(s *impl.Synod) { s.Proposers[1].Votes = nil }, askVote(2, 2), true},
		{"has voted for another one", func(s *impl.Synod) { s.Proposers[0].Votes = []int{0, 3} }, askVote(2, 3), true},
	} {
		s := mixedSynod()
		if c.put(&s); !impl.GoodSynod(s) {
			t.Error(c.why, synodText(s))
		}
		if left, ok := checkSynodStep(t, s, c.step); ok != c.ok || !ok && !isZeroSynod(left) {
			t.Errorf("%s: %+v: %s %v", c.why, c.step, synodText(left), ok)
		}
	}
}

// Of each kind of step all that changes, and nothing else.
func TestStepSynodChangesJustWhatItSays(t *testing.T) {
	for _, c := range []struct {
		name string
		step impl.SynodStep
		put  func(s *impl.Synod)
	}{
		{"the first promise, of a node that has accepted something", askPromise(4, 0), func(s *impl.Synod) {
			s.Acceptors[0].Promised = 4
			s.Proposers[3].Promises = []impl.Promise{toldOf(0, 1, "a")}
		}},
		{"the first promise, of a node that has accepted the greatest", askPromise(4, 2), func(s *impl.Synod) {
			s.Acceptors[2].Promised = 4
			s.Proposers[3].Promises = []impl.Promise{toldOf(2, 2, "a")}
		}},
		{"the first promise, of a node that has accepted nothing", askPromise(4, 4), func(s *impl.Synod) {
			s.Acceptors[4].Promised = 4
			s.Proposers[3].Promises = toldBy(4)
		}},
		{"a promise amid others, and that is more than half", askPromise(3, 3), func(s *impl.Synod) {
			s.Acceptors[3].Promised = 3
			s.Proposers[2] = impl.Proposer{Own: "c", Promises: []impl.Promise{toldOf(0, 1, "a"), toldOf(3, 0, ""), toldOf(4, 0, "")}, Fixed: true, Value: "a"}
		}},
		{"likewise, and its ballot is the greatest", askPromise(3, 2), func(s *impl.Synod) {
			s.Acceptors[2].Promised = 3
			s.Proposers[2] = impl.Proposer{Own: "c", Promises: []impl.Promise{toldOf(0, 1, "a"), toldOf(2, 2, "a"), toldOf(4, 0, "")}, Fixed: true, Value: "a"}
		}},
		{"a vote of a node that has accepted nothing, behind others", askVote(2, 3), func(s *impl.Synod) {
			s.Acceptors[3] = accepted(2, 2, "a")
			s.Proposers[1].Votes = []int{2, 3}
		}},
		{"a vote of a node that has accepted another ballot, ahead of others", askVote(2, 1), func(s *impl.Synod) {
			s.Acceptors[1] = accepted(2, 2, "a")
			s.Proposers[1].Votes = []int{1, 2}
		}},
	} {
		want := mixedSynod()
		c.put(&want)
		if left, ok := checkSynodStep(t, mixedSynod(), c.step); !ok || !sameSynod(left, want) {
			t.Errorf("%s: %s %v, not %s", c.name, synodText(left), ok, synodText(want))
		}
	}
}

// A promise tells of the Ballot and the Value that the node has, not of what it has promised.
func TestPromisesTellWhatWasAccepted(t *testing.T) {
	for _, a := range []impl.Acceptor{{}, accepted(1, 0, ""), accepted(2, 0, ""), accepted(1, 1, "x"), accepted(2, 1, "x"), accepted(2, 2, "y"), accepted(2, 2, ""), accepted(1, 1, strings.Repeat("~", 20))} {
		s := emptySynod(5, 3)
		s.Acceptors[2] = a
		want := deepSynod(s)
		want.Acceptors[2].Promised = 3
		want.Proposers[2].Promises = []impl.Promise{toldOf(2, a.Ballot, a.Value)}
		if left, ok := checkSynodStep(t, s, askPromise(3, 2)); !ok || !sameSynod(left, want) {
			t.Errorf("%s: %s %v", synodText(s), synodText(left), ok)
		}
	}
}

// Of n nodes it takes n / 2 and one more to be Fixed, whichever they are, and whatever others do.
func TestSynodsAreFixedByMoreThanHalf(t *testing.T) {
	for nodes := 1; nodes <= impl.MaxNodes; nodes++ {
		for _, order := range [][]int{upTo(nodes), backwards(upTo(nodes)), fromTheMiddle(nodes)} {
			s, _ := impl.NewSynod(nodes, []string{"a", "b", "c"})
			s.Acceptors[order[0]] = accepted(1, 1, "one")
			for i, node := range order[:nodes/2+1] {
				p := s.Proposers[1]
				if p.Fixed || p.Value != "" || len(p.Promises) != i {
					t.Error(nodes, i, synodText(s))
				}
				s, _ = checkSynodStep(t, s, askPromise(2, node))
			}
			p := s.Proposers[1]
			if !p.Fixed || p.Value != "one" || len(p.Promises) != nodes/2+1 || len(p.Votes) > 0 || len(s.Proposers[0].Promises)+len(s.Proposers[2].Promises) > 0 {
				t.Error(nodes, synodText(s))
			}
			// more promises than that it does not take
			for _, node := range order {
				if left, ok := checkSynodStep(t, s, askPromise(2, node)); ok {
					t.Error(nodes, node, synodText(left))
				}
			}
		}
	}
}

func backwards(l []int) []int {
	slices.Reverse(l)
	return l
}

func fromTheMiddle(n int) []int {
	l := upTo(n)
	slices.SortStableFunc(l, func(a, b int) int { return max(2*a-n, n-2*a) - max(2*b-n, n-2*b) })
	return l
}

// What a proposer is Fixed with hangs on the greatest ballot alone, in whatever order the nodes promise.
func TestSynodsAreFixedWithTheGreatestBallot(t *testing.T) {
	for _, c := range []struct {
		nodes []impl.Acceptor
		order []int
		value string
	}{
		{[]impl.Acceptor{{}}, []int{0}, "own"},
		{[]impl.Acceptor{accepted(1, 1, "x")}, []int{0}, "x"},
		{[]impl.Acceptor{accepted(1, 1, "")}, []int{0}, ""},
		{[]impl.Acceptor{{}, {}}, []int{1, 0}, "own"},
		{[]impl.Acceptor{{}, accepted(3, 1, "x")}, []int{0, 1}, "x"},
		{[]impl.Acceptor{accepted(3, 2, "y"), accepted(3, 1, "x")}, []int{0, 1}, "y"},
		{[]impl.Acceptor{accepted(3, 2, "y"), accepted(3, 1, "x")}, []int{1, 0}, "y"},
		{[]impl.Acceptor{accepted(3, 1, "x"), accepted(2, 2, "y")}, []int{0, 1}, "y"},
		{[]impl.Acceptor{accepted(3, 1, "x"), accepted(2, 2, "")}, []int{0, 1}, ""},
		{[]impl.Acceptor{accepted(3, 2, "x"), accepted(2, 2, "y")}, []int{1, 0}, "x"}, // alike: the first in the list
		{[]impl.Acceptor{accepted(3, 2, "x"), accepted(2, 2, "y")}, []int{0, 1}, "x"},
		{[]impl.Acceptor{accepted(3, 3, "z"), accepted(3, 2, "y"), accepted(1, 1, "x")}, []int{1, 2}, "y"}, // the greatest is not asked
		{[]impl.Acceptor{accepted(3, 3, "z"), accepted(3, 2, "y"), accepted(1, 1, "x")}, []int{2, 0}, "z"},
		{[]impl.Acceptor{accepted(3, 3, "z"), accepted(3, 3, "y"), accepted(3, 3, "x"), accepted(3, 0, "")}, []int{3, 2, 1}, "y"},
	} {
		s := impl.Synod{Acceptors: slices.Clone(c.nodes), Proposers: make([]impl.Proposer, 4)}
		s.Proposers[3].Own = "own"
		for _, node := range c.order {
			s, _ = checkSynodStep(t, s, askPromise(4, node))
		}
		if p := s.Proposers[3]; !p.Fixed || p.Value != c.value || p.Own != "own" {
			t.Errorf("%v in order %v: %s", c.nodes, c.order, synodText(s))
		}
	}
}

// All nodes may vote, in any order; the Value is the proposer's, be it its own or not, be it empty or not.
func TestVotesStandInTheirPlace(t *testing.T) {
	for nodes := 1; nodes <= impl.MaxNodes; nodes++ {
		for _, p := range []impl.Proposer{fixedWith("own", toldBy(upTo(nodes)...)...), fixedWith("", toldBy(upTo(nodes)...)...), fixedWith("x", toldBy(upTo(nodes)...)...)} {
			if p.Value != "own" {
				p.Promises[nodes-1] = toldOf(nodes-1, 1, p.Value)
			}
			for _, order := range [][]int{upTo(nodes), backwards(upTo(nodes)), fromTheMiddle(nodes)} {
				s := emptySynod(nodes, 3)
				s.Proposers[1] = p
				for i, node := range order {
					want := deepSynod(s)
					want.Acceptors[node] = accepted(2, 2, p.Value)
					want.Proposers[1].Votes = slices.Sorted(slices.Values(order[:i+1]))
					left, ok := checkSynodStep(t, s, askVote(2, node))
					if !ok || !sameSynod(left, want) {
						t.Errorf("%s: %d: %s %v", synodText(s), node, synodText(left), ok)
					}
					s = left
				}
			}
		}
	}
}

// In a synod made by hand a proposer may have a promise of a node that has promised less: what it tells now takes its place.
func TestANewPromiseTakesThePlaceOfAnOlderOne(t *testing.T) {
	s := emptySynod(4, 3)
	s.Acceptors[1] = accepted(2, 2, "y")
	s.Proposers[2].Promises = []impl.Promise{toldOf(0, 1, "x"), toldOf(1, 1, "x")}
	want := deepSynod(s)
	want.Acceptors[1].Promised = 3
	want.Proposers[2].Promises[1] = toldOf(1, 2, "y")
	if left, ok := checkSynodStep(t, s, askPromise(3, 1)); !ok || !sameSynod(left, want) {
		t.Error(synodText(left), ok)
	}
	want = deepSynod(s)
	want.Acceptors[0].Promised = 3
	want.Proposers[2].Promises[0] = toldOf(0, 0, "")
	if left, ok := checkSynodStep(t, s, askPromise(3, 0)); !ok || !sameSynod(left, want) {
		t.Error(synodText(left), ok)
	}
}

// Steps of all kinds at good synods, at the edges and played ones, and at others.
func TestStepSynodOfManySynods(t *testing.T) {
	refused, done := 0, 0
	for _, s := range someSynods() {
		for _, x := range manySynodSteps() {
			if _, ok := checkSynodStep(t, s, x); ok {
				done++
			} else {
				refused++
			}
		}
	}
	if refused < 1000 || done < 1000 {
		t.Error(refused, done)
	}
}
