package tests

import (
	"fmt"
	"math"
	"slices"
	"testing"

	"loop.example/g00218/impl"
)

// groupAnswers asks all functions that are given groups or votes, and tells what they answered as one text.
func groupAnswers(n int, l []impl.Group, votes []int, threshold int) string {
	meet, ok := impl.AllMeet(n, l)
	minimal, ok2 := impl.MinimalOf(n, l)
	text := fmt.Sprint(meet, ok, minimal, ok2)
	for i, g := range l {
		majority, ok1 := impl.IsMajority(g, n)
		weight, ok2 := impl.WeightOf(votes, g)
		read, ok3 := impl.IsRead(votes, threshold, g)
		write, ok4 := impl.IsWrite(votes, threshold, g)
		both, ok5 := impl.MeetOf(g, l[i/2], n)
		text += fmt.Sprint(impl.GoodGroup(g, n), majority, ok1, weight, ok2, read, ok3, write, ok4, both, ok5)
	}
	return text
}

// A question is all that one asks of groups at once.
type question struct {
	n         int
	l         []impl.Group
	votes     []int
	threshold int
}

func (q question) answers() string {
	return groupAnswers(q.n, q.l, q.votes, q.threshold)
}

// someQuestions are of good groups and votes, and of some that are not.
func someQuestions() []question {
	var all []question
	for seed := range 60 {
		n, l := groupsLike(uint64(seed))
		all = append(all, question{n, l, ones(n), 1 + n/2}, question{n, l, upTo(n), 1}, question{n + 1, l, ones(n), 0}, question{n - 1, l, ones(n), n})
	}
	for _, x := range slices.Concat(goodGroupings(), badGroupings()) {
		if len(x.g.Nodes) < 100 {
			all = append(all, question{x.n, []impl.Group{x.g, {}, group(0)}, ones(max(0, min(x.n, 13))), 1})
		}
	}
	for _, votes := range badVotes() {
		if len(votes) < 100 {
			all = append(all, question{len(votes), []impl.Group{{}, group(0)}, votes, 1})
		}
	}
	return append(all, question{3, slices.Repeat([]impl.Group{group(0, 2)}, 41), []int{1, 2, 3}, 3})
}

func deepGroups(l []impl.Group) []impl.Group {
	var copied []impl.Group
	for _, g := range l {
		copied = append(copied, group(slices.Clone(g.Nodes)...))
	}
	return copied
}

func sameGroups(a, b []impl.Group) bool {
	return slices.EqualFunc(a, b, sameGroup)
}

func TestNoGroupIsWrittenInto(t *testing.T) {
	for _, q := range someQuestions() {
		old, oldVotes := deepGroups(q.l), slices.Clone(q.votes)
		q.answers()
		if !sameGroups(q.l, old) || !slices.Equal(q.votes, oldVotes) {
			t.Errorf("%v became %v, %v became %v", old, q.l, oldVotes, q.votes)
		}
	}
}

// roomyGroups are the same groups, with nodes and groups behind their lengths.
func roomyGroups(l []impl.Group, behind ...int) []impl.Group {
	var roomy []impl.Group
	for _, g := range l {
		roomy = append(roomy, group(slices.Concat(g.Nodes, behind)[:len(g.Nodes)]...))
	}
	return append(roomy, group(behind...), group(0), group(-1))[:len(l)]
}

func wholeGroups(l []impl.Group) []impl.Group {
	var whole []impl.Group
	for _, g := range l[:cap(l)] {
		whole = append(whole, group(slices.Clone(g.Nodes[:cap(g.Nodes)])...))
	}
	return whole
}

// Whatever lies behind the lengths, good or bad, is neither read nor written nor handed out.
func TestGroupsKeepToTheirLengths(t *testing.T) {
	for _, q := range someQuestions() {
		for _, behind := range [][]int{{11}, {0, 1, 2}, {-1, 100}} {
			long := question{q.n, roomyGroups(q.l, behind...), append(slices.Clone(q.votes), behind...)[:len(q.votes)], q.threshold}
			old, oldVotes := wholeGroups(long.l), slices.Clone(long.votes[:cap(long.votes)])
			if got, want := long.answers(), q.answers(); got != want {
				t.Fatalf("%v: %s, not %s", q, got, want)
			}
			if !sameGroups(wholeGroups(long.l), old) || !slices.Equal(long.votes[:cap(long.votes)], oldVotes) {
				t.Fatalf("%v: written behind its length", q)
			}
		}
	}
}

func groupSpans(l []impl.Group, what string) []span {
	spans := []span{spanOf(l, what)}
	for _, g := range l {
		spans = append(spans, spanOf(g.Nodes, what+"'s nodes"))
	}
	return spans
}

func TestGroupsAreNewMemory(t *testing.T) {
	for _, q := range someQuestions() {
		l := roomyGroups(q.l, 3, 4)
		given := groupSpans(l, "groups")
		minimal, _ := impl.MinimalOf(q.n, l)
		checkNew(t, groupSpans(minimal, "minimal ones"), given)
		// and what follows from an answer lies apart from it
		again, _ := impl.MinimalOf(q.n, minimal)
		checkNew(t, groupSpans(again, "minimal ones again"), append(groupSpans(minimal, "minimal ones"), given...))
		for i, g := range l {
			both, _ := impl.MeetOf(g, l[i/2], q.n)
			checkNew(t, []span{spanOf(both.Nodes, "nodes in both")}, given)
			same, _ := impl.MeetOf(both, both, q.n)
			checkNew(t, []span{spanOf(same.Nodes, "nodes in both again")}, append(given, spanOf(both.Nodes, "nodes in both")))
		}
	}
}

// Groups that share a list are answered by groups that do not.
func TestGroupsOfOneListLieApart(t *testing.T) {
	nodes := []int{0, 1, 2, 3, 4, 5}
	l := []impl.Group{{Nodes: nodes[:2]}, {Nodes: nodes[2:4]}, {Nodes: nodes[4:]}, {Nodes: nodes[1:3]}, {Nodes: nodes[:2]}}
	minimal, ok := impl.MinimalOf(6, l)
	if !ok || !sameGroups(minimal, l[:4]) {
		t.Error(minimal, ok)
	}
	checkNew(t, groupSpans(minimal, "minimal ones"), groupSpans(l, "groups"))
	for i := range minimal {
		minimal[i].Nodes = append(minimal[i].Nodes, 9)
		minimal[i].Nodes[0] = 7
	}
	if !slices.Equal(nodes, upTo(6)) || !slices.Equal(minimal[1].Nodes, []int{7, 3, 9}) {
		t.Error(nodes, minimal)
	}
}

// An empty part of a list does not tell where that list lies.
func TestEmptyGroupsAreNewMemory(t *testing.T) {
	nodes := []int{0, 1, 2}
	for _, none := range [][]int{nodes[:0], nodes[1:1], nodes[:0:0], nodes[3:]} {
		l := []impl.Group{{Nodes: none}, {Nodes: nodes}}
		minimal, ok := impl.MinimalOf(3, l)
		if len(minimal) != 1 || len(minimal[0].Nodes) > 0 || !ok {
			t.Error(minimal, ok)
		}
		checkNew(t, groupSpans(minimal, "minimal ones"), groupSpans(l, "groups"))
		both, ok := impl.MeetOf(l[0], l[1], 3)
		if len(both.Nodes) > 0 || !ok {
			t.Error(both, ok)
		}
		checkNew(t, []span{spanOf(both.Nodes, "nodes in both")}, groupSpans(l, "groups"))
		empty, ok := impl.MinimalOf(3, l[:0])
		if len(empty) > 0 || cap(empty) > 0 || !ok {
			t.Error(empty, ok)
		}
	}
}

// Two answers to one question lie apart: one may be written into.
func TestTwoAnswersOfGroupsShareNoMemory(t *testing.T) {
	l := []impl.Group{group(0, 1), group(1, 2), group(0, 1, 2)}
	for range 2 {
		minimal, _ := impl.MinimalOf(3, l)
		both, _ := impl.MeetOf(l[0], l[2], 3)
		quorum, _ := impl.GridQuorum(2, 3, 1, 0)
		if !sameGroups(minimal, l[:2]) || !sameGroup(both, l[0]) || !slices.Equal(quorum.Nodes, []int{0, 3, 4, 5}) {
			t.Error(minimal, both, quorum)
		}
		for _, g := range append(minimal, both, quorum) {
			clear(g.Nodes[:cap(g.Nodes)])
		}
		clear(minimal[:cap(minimal)])
	}
}

// What was asked before does not matter: nothing is kept from call to call.
func TestGroupsAreAnsweredAlikeAgain(t *testing.T) {
	var first []string
	all := someQuestions()
	for _, q := range all {
		first = append(first, q.answers())
	}
	for i, q := range slices.Backward(all) {
		if got := q.answers(); got != first[i] {
			t.Errorf("%v: %s, and %s at first", q, got, first[i])
		}
	}
}

// Groups and votes of anything at all are answered, and those that are not good by the zero answer.
func TestGroupsOfAnything(t *testing.T) {
	numbers := []int{math.MinInt, -1, 0, 0, 1, 1, 2, 3, 4, 5, 11, 12, 13, 63, 64, 100, 101, math.MaxInt}
	counts := []int{0, 0, 0, 0, 0, 0}
	for seed := range 40000 {
		m := mixer(seed)
		number := func() int { return numbers[m.below(len(numbers))] }
		list := func() []int {
			var l []int
			for range m.below(4) {
				l = append(l, number())
			}
			if m.below(2) == 0 {
				slices.Sort(l)
			}
			return l
		}
		g, other, votes, n, threshold := group(list()...), group(list()...), list(), number(), number()
		for i, is := range checkAnything(t, g, other, votes, n, threshold) {
			if is {
				counts[i]++
			}
		}
		impl.GridQuorum(number(), number(), number(), number())
	}
	for _, many := range counts {
		if many < 50 {
			t.Error(counts)
		}
	}
}

// checkAnything tells which of all these were good, so that one can see whether enough were.
func checkAnything(t *testing.T, g, other impl.Group, votes []int, n, threshold int) []bool {
	t.Helper()
	isGood, areGood := goodGroupAgain(g, n), goodGroupAgain(g, n) && goodGroupAgain(other, n)
	haveVotes := votesAgain(votes) && goodGroupAgain(g, len(votes))
	inSum := haveVotes && threshold >= 1 && threshold <= sumAgain(votes)
	if impl.GoodGroup(g, n) != isGood {
		t.Fatalf("%v of %d: not %v", g, n, isGood)
	}
	majority, ok := impl.IsMajority(g, n)
	if ok != isGood || majority && !isGood {
		t.Fatalf("%v of %d: %v %v", g, n, majority, ok)
	}
	weight, ok := impl.WeightOf(votes, g)
	if ok != haveVotes || haveVotes && weight != weightAgain(votes, g) || !haveVotes && weight != 0 {
		t.Fatalf("%v of %v: %d %v", g, votes, weight, ok)
	}
	reached, ok := thresholds(t, votes, threshold, g)
	if ok != inSum || reached != (inSum && weight >= threshold) {
		t.Fatalf("%v of %v at %d: %v %v", g, votes, threshold, reached, ok)
	}
	both, ok := impl.MeetOf(g, other, n)
	if ok != areGood || areGood && !slices.Equal(both.Nodes, meetAgain(g, other)) || !areGood && len(both.Nodes) > 0 {
		t.Fatalf("%v and %v of %d: %v %v", g, other, n, both, ok)
	}
	if areGood {
		checkSets(t, n, []impl.Group{g, other})
	} else {
		checkNoSets(t, n, []impl.Group{g, other})
	}
	return []bool{isGood, areGood, haveVotes, inSum, reached, len(both.Nodes) > 0}
}
