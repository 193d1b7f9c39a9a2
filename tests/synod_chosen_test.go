package tests

import (
	"slices"
	"testing"

	"loop.example/g00218/impl"
)

// chosenAgain are the values of ballots with the votes of more than half, by ballot.
func chosenAgain(s impl.Synod) map[int]string {
	chosen := map[int]string{}
	for i, p := range s.Proposers {
		if len(p.Votes) >= len(s.Acceptors)/2+1 {
			chosen[i+1] = p.Value
		}
	}
	return chosen
}

// checkChosen asks of a synod that was played whether at most one value is chosen, one that somebody proposed, and whether greater ballots keep to it.
func checkChosen(t *testing.T, s impl.Synod) []string {
	t.Helper()
	l, ok := impl.ChosenIn(s)
	if !ok || len(l) > 1 {
		t.Fatalf("%s: %q %v", synodText(s), l, ok)
	}
	chosen := chosenAgain(s)
	if len(chosen) > 0 && len(l) == 0 {
		t.Fatalf("%s: %q, not %v", synodText(s), l, chosen)
	}
	for _, value := range l {
		if !slices.ContainsFunc(s.Proposers, func(p impl.Proposer) bool { return p.Own == value }) {
			t.Fatalf("%s: nobody proposed %q", synodText(s), value)
		}
	}
	for ballot, value := range chosen {
		if value != l[0] {
			t.Fatalf("%s: %q, not %v", synodText(s), l, chosen)
		}
		for later := ballot; later <= len(s.Proposers); later++ {
			if other, fixed := impl.ValueAt(s, later); fixed && other != value {
				t.Fatalf("%s: ballot %d has chosen %q, and %d has %q", synodText(s), ballot, value, later, other)
			}
		}
	}
	return l
}

// A choice is a play that has been seen: what was chosen when, and who came later.
type choice struct {
	synod  impl.Synod
	chosen []string
	own    int // how many of those that were Fixed when it was chosen already wanted something else
	later  int // how many were Fixed later, had another value of their own, and gave way
}

func (c *choice) step(t *testing.T, x impl.SynodStep) {
	t.Helper()
	left, ok := checkSynodStep(t, c.synod, x)
	if !ok {
		return
	}
	l := checkChosen(t, left)
	if len(c.chosen) > 0 {
		if !slices.Equal(l, c.chosen) {
			t.Fatalf("%s: %+v: %q was chosen, then %q", synodText(c.synod), x, c.chosen, l)
		}
		p := left.Proposers[x.Ballot-1]
		if p.Fixed && !c.synod.Proposers[x.Ballot-1].Fixed && p.Own != l[0] && p.Value == l[0] {
			c.later++
		}
	}
	if len(c.chosen) < len(l) {
		c.own += count(left.Proposers, func(p impl.Proposer) bool { return p.Fixed && p.Value != l[0] })
	}
	c.synod, c.chosen = left, l
}

// Promise 10, for many drawn plays, behind each step.
func TestOneValueIsChosenAndStays(t *testing.T) {
	chosen, none, own, later, other := 0, 0, 0, 0, 0
	for seed := range 6000 {
		nodes, values, l := somePlayOfBallots(uint64(seed) + 5000)
		s, _ := impl.NewSynod(nodes, values)
		c := choice{synod: s}
		for _, x := range l {
			c.step(t, x)
		}
		played, _, _ := impl.PlaySynod(nodes, values, l)
		if !sameSynod(played, c.synod) {
			t.Fatalf("%+v: %s, not %s", l, synodText(played), synodText(c.synod))
		}
		own += c.own
		later += c.later
		if len(c.chosen) == 0 {
			none++
			continue
		}
		chosen++
		if c.chosen[0] != values[0] {
			other++
		}
	}
	// the plays are no plays if nothing is ever chosen, or all have one mind from the outset
	if chosen < 2000 || none < 200 || own < 300 || later < 300 || other < 300 {
		t.Error(chosen, none, own, later, other)
	}
}

// Once something is chosen all steps there are, drawn without a thought for what they do, leave it so.
func TestWhatIsChosenStaysWhateverFollows(t *testing.T) {
	many := 0
	for seed := range 600 {
		m := mixer(seed)
		nodes := 1 + m.below(7)
		s, _ := impl.NewSynod(nodes, []string{"a", "b", "c", "d", "e", "f", "g", "h"})
		c := choice{synod: s}
		ballot := 1 + m.below(3)
		for node := range nodes/2 + 1 {
			c.step(t, askPromise(ballot, node))
		}
		for node := range nodes/2 + 1 {
			c.step(t, askVote(ballot, nodes-1-node))
		}
		if want := s.Proposers[ballot-1].Own; !slices.Equal(c.chosen, []string{want}) {
			t.Fatalf("%s: %q, not %q", synodText(c.synod), c.chosen, want)
		}
		for range 100 {
			c.step(t, impl.SynodStep{Accept: m.below(2) == 0, Ballot: m.below(10), Node: m.below(nodes + 1)})
		}
		many += c.later
	}
	if many < 600 {
		t.Error(many)
	}
}

// Of three nodes any two have chosen; whichever two promise later, their proposer has the chosen value.
func TestALaterProposerHasTheChosenValue(t *testing.T) {
	for _, promised := range []string{"p2:0 p2:1", "p2:1 p2:2", "p2:2 p2:0"} {
		for _, voted := range []string{"a2:0 a2:1", "a2:1 a2:2", "a2:2 a2:0"} {
			for _, asked := range []string{"p4:0 p4:1", "p4:1 p4:2", "p4:2 p4:0"} {
				// ballot 1 had one vote ahead of that, which is not to count any more
				l := slices.Concat(synodSteps("p1:0 p1:1 a1:2"), synodSteps(promised), synodSteps(voted), synodSteps(asked))
				s, did, ok := impl.PlaySynod(3, []string{"a", "b", "c", "d"}, l)
				value, fixed := impl.ValueAt(s, 4)
				chosen := checkChosen(t, s)
				want := s.Proposers[1].Value
				if !ok || slices.Contains(did, false) || !fixed || value != want || !slices.Equal(chosen, []string{want}) {
					t.Error(promised, voted, asked, synodText(s), did)
				}
			}
		}
	}
}

// Two that want unlike values may put each other off for ever; nothing is chosen then, and that is all.
func TestNothingIsChosenWhileEachIsPutOff(t *testing.T) {
	s, did, ok := impl.PlaySynod(3, []string{"a", "b", "c"}, synodSteps("p1:0 p1:1 p2:0 p2:1 a1:0 a1:1 p3:0 p3:1 a2:0 a2:1"))
	if l := checkChosen(t, s); !ok || len(l) > 0 || !slices.Equal(did, []bool{true, true, true, true, false, false, true, true, false, false}) {
		t.Error(l, did, ok)
	}
	// an old one may still vote where nobody promised more, but that is not more than half
	s, _, _ = impl.PlaySynod(3, []string{"a", "b", "c"}, synodSteps("p1:0 p1:1 p2:0 p2:1 a1:0 a1:1 p3:0 p3:1 a2:0 a2:1 a1:2 a3:0 a3:1"))
	if l := checkChosen(t, s); !slices.Equal(l, []string{"c"}) || !slices.Equal(s.Proposers[0].Votes, []int{2}) {
		t.Error(l, synodText(s))
	}
}

// allSynods goes through all that may come of so many nodes and these values, in whatever order steps are taken.
func allSynods(t *testing.T, nodes int, values []string, see func(s, left impl.Synod)) int {
	start, ok := impl.NewSynod(nodes, values)
	if !ok {
		t.Fatal(nodes, values)
	}
	seen := map[string]int{synodText(start): 1}
	work := []impl.Synod{start}
	for len(work) > 0 {
		s := work[len(work)-1]
		work = work[:len(work)-1]
		for ballot := 1; ballot <= len(values); ballot++ {
			for node := range nodes {
				for _, x := range []impl.SynodStep{askPromise(ballot, node), askVote(ballot, node)} {
					left, ok := impl.StepSynod(s, x)
					if !ok {
						continue
					}
					see(s, left)
					if text := synodText(left); seen[text] == 0 {
						seen[text] = 1
						work = append(work, left)
					}
				}
			}
		}
	}
	return len(seen)
}

// Promise 10, for all that may come of a few nodes and proposers.
func TestOfAllSmallSynodsOneValueIsChosen(t *testing.T) {
	for _, c := range []struct {
		nodes  int
		values []string
	}{
		{1, []string{"a", "b", "c", "d"}},
		{2, []string{"a", "b", "c"}},
		{2, []string{"a", "b", "c", "d"}},
		{3, []string{"a", "b"}},
		{3, []string{"a", "b", "c"}},
		{4, []string{"a", "b"}},
	} {
		chosen := map[string]int{}
		many := allSynods(t, c.nodes, c.values, func(s, left impl.Synod) {
			was, is := checkChosen(t, s), checkChosen(t, left)
			if len(was) > 0 && !slices.Equal(was, is) {
				t.Fatalf("%s: %q was chosen, then %q in %s", synodText(s), was, is, synodText(left))
			}
			for _, value := range is {
				chosen[value]++
			}
		})
		if len(chosen) != len(c.values) || many < 80 {
			t.Error(c, many, chosen)
		}
	}
}
