package tests

import (
	"fmt"
	"math"
	"slices"
	"strings"
	"testing"

	"loop.example/g00218/impl"
)

func accepted(promised, ballot int, value string) impl.Acceptor {
	return impl.Acceptor{Promised: promised, Ballot: ballot, Value: value}
}

func toldOf(node, ballot int, value string) impl.Promise {
	return impl.Promise{Node: node, Ballot: ballot, Value: value}
}

// toldBy are promises of nodes that have accepted nothing.
func toldBy(nodes ...int) []impl.Promise {
	var l []impl.Promise
	for _, node := range nodes {
		l = append(l, toldOf(node, 0, ""))
	}
	return l
}

// mixedSynod has proposers of all kinds: 1 is Fixed with its own value, 2 with that of another one, 3 has been promised something, 4 nothing.
func mixedSynod() impl.Synod {
	return impl.Synod{
		Acceptors: []impl.Acceptor{accepted(3, 1, "a"), accepted(2, 1, "a"), accepted(2, 2, "a"), accepted(2, 0, ""), accepted(3, 0, "")},
		Proposers: []impl.Proposer{
			{Own: "a", Promises: toldBy(0, 1, 2), Fixed: true, Value: "a", Votes: []int{0, 1}},
			{Own: "b", Promises: []impl.Promise{toldOf(1, 1, "a"), toldOf(2, 0, ""), toldOf(3, 0, "")}, Fixed: true, Value: "a", Votes: []int{2}},
			{Own: "c", Promises: []impl.Promise{toldOf(0, 1, "a"), toldOf(4, 0, "")}},
			{Own: "d"},
		},
	}
}

const mixedSynodSteps = "p1:0 p1:1 p1:2 a1:0 a1:1 p2:1 p2:2 p2:3 a2:2 p3:0 p3:4"

// synodText tells a synod: of each node Promised, Ballot and Value; of each proposer Own, Promises, Value where it is Fixed, and Votes.
func synodText(s impl.Synod) string {
	var parts []string
	for _, a := range s.Acceptors {
		parts = append(parts, fmt.Sprintf("%d/%d=%s", a.Promised, a.Ballot, a.Value))
	}
	for _, p := range s.Proposers {
		var promises []string
		for _, x := range p.Promises {
			promises = append(promises, fmt.Sprintf("%d/%d=%s", x.Node, x.Ballot, x.Value))
		}
		fixed := "?"
		if p.Fixed {
			fixed = "!"
		}
		parts = append(parts, fmt.Sprintf("%s{%s}%s%s%v", p.Own, strings.Join(promises, " "), fixed, p.Value, p.Votes))
	}
	return strings.Join(parts, " ")
}

func deepSynod(s impl.Synod) impl.Synod {
	s.Acceptors, s.Proposers = slices.Clone(s.Acceptors), slices.Clone(s.Proposers)
	for i, p := range s.Proposers {
		s.Proposers[i].Promises, s.Proposers[i].Votes = slices.Clone(p.Promises), slices.Clone(p.Votes)
	}
	return s
}

func sameSynod(a, b impl.Synod) bool {
	return slices.Equal(a.Acceptors, b.Acceptors) && slices.EqualFunc(a.Proposers, b.Proposers, sameProposer)
}

func sameProposer(x, y impl.Proposer) bool {
	return x.Own == y.Own && slices.Equal(x.Promises, y.Promises) && x.Fixed == y.Fixed && x.Value == y.Value && slices.Equal(x.Votes, y.Votes)
}

func isZeroSynod(s impl.Synod) bool {
	return s.Acceptors == nil && s.Proposers == nil
}

// A synodChange is put to the synod of mixedSynod, and has a name.
type synodChange struct {
	name string
	put  func(s *impl.Synod)
}

// synodChanges are the same change with unlike things to put.
func synodChanges[T any](name string, put func(s *impl.Synod, x T), things ...T) []synodChange {
	var l []synodChange
	for _, x := range things {
		l = append(l, synodChange{fmt.Sprintf("%s %v", name, x), func(s *impl.Synod) { put(s, x) }})
	}
	return l
}

func changedSynod(c synodChange) impl.Synod {
	s := mixedSynod()
	c.put(&s)
	return s
}

func putNodes(s *impl.Synod, n int)                  { *s = emptySynod(n, 3) }
func putProposers(s *impl.Synod, n int)              { *s = emptySynod(3, n) }
func putFirstNode(s *impl.Synod, a impl.Acceptor)    { s.Acceptors[0] = a }
func putLastNode(s *impl.Synod, a impl.Acceptor)     { s.Acceptors[4] = a }
func putOwnOfFirst(s *impl.Synod, own string)        { s.Proposers[0].Own = own }
func putOwnOfSecond(s *impl.Synod, own string)       { s.Proposers[1].Own = own }
func putOwnOfLast(s *impl.Synod, own string)         { s.Proposers[3].Own = own }
func putValueOfFirst(s *impl.Synod, value string)    { s.Proposers[0].Value = value }
func putValueOfSecond(s *impl.Synod, value string)   { s.Proposers[1].Value = value }
func putValueOfThird(s *impl.Synod, value string)    { s.Proposers[2].Value = value }
func putValueOfLast(s *impl.Synod, value string)     { s.Proposers[3].Value = value }
func putPromisesOf1(s *impl.Synod, l []impl.Promise) { s.Proposers[0] = unfixed(l) }
func putPromisesOf3(s *impl.Synod, l []impl.Promise) { s.Proposers[2] = unfixed(l) }
func putPromisesOf4(s *impl.Synod, l []impl.Promise) { s.Proposers[3] = unfixed(l) }
func putFixed3(s *impl.Synod, p impl.Proposer)       { s.Proposers[2] = p }
func putVotesOfFirst(s *impl.Synod, l []int)         { s.Proposers[0].Votes = l }
func putVotesOfSecond(s *impl.Synod, l []int)        { s.Proposers[1].Votes = l }
func putVotesOfThird(s *impl.Synod, l []int)         { s.Proposers[2].Votes = l }
func putVotesOfLast(s *impl.Synod, l []int)          { s.Proposers[3].Votes = l }
func putFixedOf(s *impl.Synod, numberFixed [2]int) {
	s.Proposers[numberFixed[0]].Fixed = numberFixed[1] > 0
}
func putMostOf(s *impl.Synod, nodesManyFixed [3]int)  { *s = promisedSynod(nodesManyFixed, "own") }
func putEmptyMost(s *impl.Synod, manyAndFixed [3]int) { *s = promisedSynod(manyAndFixed, "") }
func unfixed(l []impl.Promise) impl.Proposer          { return impl.Proposer{Own: "own", Promises: l} }

// fixedWith is a proposer with a Value and these promises.
func fixedWith(value string, l ...impl.Promise) impl.Proposer {
	return impl.Proposer{Own: "own", Promises: l, Fixed: true, Value: value}
}

// emptySynod has nodes and proposers that have done nothing yet.
func emptySynod(nodes, proposers int) impl.Synod {
	s := impl.Synod{Acceptors: make([]impl.Acceptor, nodes), Proposers: make([]impl.Proposer, proposers)}
	for i := range s.Proposers {
		s.Proposers[i].Own = string(rune('a' + i%26))
	}
	return s
}

// promisedSynod has one proposer that so many of its nodes have promised: l are nodes, promises, and 1 with Fixed and the Value that goes with it.
func promisedSynod(l [3]int, own string) impl.Synod {
	s := emptySynod(l[0], 1)
	s.Proposers[0] = impl.Proposer{Own: own, Promises: toldBy(upTo(l[1])...)}
	if l[2] > 0 {
		s.Proposers[0].Fixed, s.Proposers[0].Value = true, own
	}
	return s
}

func goodAcceptors() []impl.Acceptor {
	l := []impl.Acceptor{accepted(0, 0, ""), accepted(1, 0, ""), accepted(4, 0, ""), accepted(1, 1, "x"), accepted(2, 1, "x"), accepted(4, 3, "x"), accepted(4, 4, "x"), accepted(4, 4, "")}
	for _, value := range goodValues() {
		l = append(l, accepted(2, 1, value))
	}
	return l
}

func badAcceptors() []impl.Acceptor {
	const least, greatest = math.MinInt, math.MaxInt
	l := []impl.Acceptor{
		accepted(-1, 0, ""), accepted(5, 0, ""), accepted(5, 1, "x"), accepted(6, 0, ""), accepted(least, 0, ""), accepted(greatest, 0, ""), accepted(1<<32, 0, ""),
		accepted(0, -1, ""), accepted(4, -1, ""), accepted(4, -1, "x"), accepted(-1, -1, ""), accepted(4, least, ""), accepted(greatest, greatest, "x"), accepted(least, least, ""),
		// a Ballot above Promised, also where that is no ballot
		accepted(0, 1, "x"), accepted(2, 3, "x"), accepted(3, 4, "x"), accepted(4, 5, "x"), accepted(5, 5, "x"), accepted(4, greatest, "x"), accepted(0, 1, ""), accepted(1<<32, 1<<32, ""),
		// a Value with Ballot 0
		accepted(0, 0, "x"), accepted(3, 0, "x"), accepted(4, 0, " "),
	}
	for _, value := range badValues() {
		l = append(l, accepted(2, 1, value), accepted(2, 0, value))
	}
	return l
}

func goodPromises() [][]impl.Promise {
	l := [][]impl.Promise{
		nil, {}, toldBy(0), toldBy(4), toldBy(0, 1), toldBy(0, 4), toldBy(3, 4),
		{toldOf(2, 1, "x")}, {toldOf(2, 2, "x")}, {toldOf(2, 2, "")}, {toldOf(0, 2, "x"), toldOf(4, 1, "y")}, {toldOf(0, 1, "x"), toldOf(4, 1, "y")}, {toldOf(0, 0, ""), toldOf(1, 2, "y")},
	}
	for _, value := range goodValues() {
		l = append(l, []impl.Promise{toldOf(1, 2, value)}, []impl.Promise{toldOf(1, 0, ""), toldOf(2, 1, value)})
	}
	return l
}

func badPromises() [][]impl.Promise {
	const least, greatest = math.MinInt, math.MaxInt
	l := [][]impl.Promise{
		toldBy(1, 0), toldBy(4, 0), toldBy(4, 3), toldBy(0, 0), toldBy(4, 4), {toldOf(1, 1, "x"), toldOf(1, 2, "y")},
		toldBy(-1), toldBy(5), toldBy(-1, 0), toldBy(0, 5), toldBy(least), toldBy(greatest), toldBy(0, greatest), toldBy(1 << 32), toldBy(upTo(100)...),
		{toldOf(0, -1, "")}, {toldOf(0, -1, "x")}, {toldOf(0, 3, "x")}, {toldOf(0, 3, "")}, {toldOf(0, 4, "x")}, {toldOf(0, 5, "x")}, {toldOf(0, least, "x")}, {toldOf(0, greatest, "x")},
		{toldOf(0, 2, "x"), toldOf(1, 3, "x")}, {toldOf(0, 3, "x"), toldOf(1, 2, "x")},
		{toldOf(0, 0, "x")}, {toldOf(0, 0, " ")}, {toldOf(0, 1, "x"), toldOf(1, 0, "x")},
	}
	for _, value := range badValues() {
		l = append(l, []impl.Promise{toldOf(1, 2, value)}, []impl.Promise{toldOf(1, 0, value)}, []impl.Promise{toldOf(1, 0, ""), toldOf(2, 1, value)})
	}
	return l
}

// Proposer 3 of five nodes, Fixed with the value that its promises ask for.
func goodFixed() []impl.Proposer {
	return []impl.Proposer{
		fixedWith("own", toldBy(0, 1, 2)...), fixedWith("own", toldBy(0, 1, 2, 3, 4)...),
		fixedWith("x", toldOf(0, 1, "x"), toldOf(1, 0, ""), toldOf(2, 0, "")), fixedWith("x", toldOf(0, 0, ""), toldOf(1, 0, ""), toldOf(2, 1, "x")),
		fixedWith("y", toldOf(0, 1, "x"), toldOf(1, 2, "y"), toldOf(2, 0, "")), fixedWith("y", toldOf(0, 2, "y"), toldOf(1, 1, "x"), toldOf(2, 0, "")),
		fixedWith("x", toldOf(0, 2, "x"), toldOf(1, 2, "y"), toldOf(2, 2, "z")), fixedWith("x", toldOf(0, 1, "z"), toldOf(1, 2, "x"), toldOf(4, 2, "y")),
		fixedWith("", toldOf(0, 1, "x"), toldOf(1, 2, ""), toldOf(2, 1, "y")), fixedWith("", toldOf(0, 1, ""), toldOf(3, 0, ""), toldOf(4, 1, "y")),
		{Promises: toldBy(1, 2, 3), Fixed: true}, {Promises: toldBy(1, 2, 3), Fixed: true, Votes: []int{0, 4}},
	}
}

// The same with another one's value, and Fixed without need.
func badFixed() []impl.Proposer {
	return []impl.Proposer{
		fixedWith("", toldBy(0, 1, 2)...), fixedWith("x", toldBy(0, 1, 2)...), fixedWith("ow", toldBy(0, 1, 2, 3, 4)...), fixedWith("own ", toldBy(0, 1, 2)...),
		fixedWith("own", toldOf(0, 1, "x"), toldOf(1, 0, ""), toldOf(2, 0, "")), fixedWith("", toldOf(0, 0, ""), toldOf(1, 0, ""), toldOf(2, 1, "x")),
		fixedWith("x", toldOf(0, 1, "x"), toldOf(1, 2, "y"), toldOf(2, 0, "")), fixedWith("x", toldOf(0, 2, "y"), toldOf(1, 1, "x"), toldOf(2, 0, "")), fixedWith("own", toldOf(0, 2, "y"), toldOf(1, 1, "x"), toldOf(2, 0, "")),
		fixedWith("y", toldOf(0, 2, "x"), toldOf(1, 2, "y"), toldOf(2, 2, "z")), fixedWith("z", toldOf(0, 2, "x"), toldOf(1, 2, "y"), toldOf(2, 2, "z")), fixedWith("y", toldOf(0, 1, "z"), toldOf(1, 2, "x"), toldOf(4, 2, "y")),
		fixedWith("x", toldOf(0, 1, "x"), toldOf(1, 2, ""), toldOf(2, 1, "y")), fixedWith("own", toldOf(0, 1, "x"), toldOf(1, 2, ""), toldOf(2, 1, "y")), fixedWith("y", toldOf(0, 1, ""), toldOf(3, 0, ""), toldOf(4, 1, "y")),
		fixedWith("own"), fixedWith("own", toldBy(0, 1)...), fixedWith(""), fixedWith("", toldBy(0, 1)...), fixedWith("x", toldOf(0, 1, "x"), toldOf(1, 1, "x")), fixedWith("own", toldBy(0, 1, 1)...), fixedWith("own", toldBy(2, 1, 0)...), fixedWith("own", toldBy(3, 4, 5)...),
	}
}

func goodSynodChanges() []synodChange {
	good, most := mostOfNodes()
	return slices.Concat(
		synodChanges("nodes", putNodes, 1, 2, 11, 12),
		synodChanges("proposers", putProposers, 1, 2, 7, 8),
		synodChanges("first node", putFirstNode, goodAcceptors()...),
		synodChanges("last node", putLastNode, goodAcceptors()...),
		synodChanges("own of first", putOwnOfFirst, "a"),
		synodChanges("own of second", putOwnOfSecond, goodValues()...),
		synodChanges("own of last", putOwnOfLast, goodValues()...),
		synodChanges("promises of 1", putPromisesOf1, nil, toldBy(0), toldBy(1, 4)),
		synodChanges("promises of 3", putPromisesOf3, goodPromises()...),
		synodChanges("promises of 4", putPromisesOf4, append(goodPromises(), []impl.Promise{toldOf(0, 3, "x")}, []impl.Promise{toldOf(0, 3, "x"), toldOf(1, 3, "")})...),
		synodChanges("fixed 3", putFixed3, goodFixed()...),
		synodChanges("value of first", putValueOfFirst, "a"),
		synodChanges("value of last", putValueOfLast, ""),
		synodChanges("votes of first", putVotesOfFirst, nil, []int{}, []int{0}, []int{4}, []int{0, 1, 2}, []int{2, 3, 4}, []int{0, 1, 2, 3, 4}),
		synodChanges("votes of second", putVotesOfSecond, nil, []int{0}, []int{0, 4}, []int{0, 1, 2, 3, 4}),
		synodChanges("votes of third", putVotesOfThird, nil, []int{}),
		synodChanges("nodes, promises, Fixed", putMostOf, good...),
		synodChanges("nodes, promises, Fixed with the empty value", putEmptyMost, good...),
		synodChanges("half and more", putMostOf, most...),
	)
}

// mostOfNodes are so many nodes with any number of promises, Fixed just where these are more than half; and those next to half, one by one.
func mostOfNodes() ([][3]int, [][3]int) {
	var all [][3]int
	for nodes := 1; nodes <= 12; nodes++ {
		for many := range nodes + 1 {
			fixed := 0
			if many > nodes/2 {
				fixed = 1
			}
			all = append(all, [3]int{nodes, many, fixed})
		}
	}
	return all, [][3]int{{1, 0, 0}, {1, 1, 1}, {2, 1, 0}, {2, 2, 1}, {3, 1, 0}, {3, 2, 1}, {4, 2, 0}, {4, 3, 1}, {5, 2, 0}, {5, 3, 1}, {11, 5, 0}, {11, 6, 1}, {12, 6, 0}, {12, 7, 1}}
}

func badSynodChanges() []synodChange {
	wrongVotes := [][]int{{1, 0}, {4, 3}, {0, 0}, {4, 4}, {0, 1, 1}, {-1}, {5}, {-1, 0}, {0, 5}, {math.MinInt}, {math.MaxInt}, {1 << 32}, upTo(6), upTo(100)}
	good, _ := mostOfNodes()
	otherwise := slices.Clone(good)
	for i := range otherwise {
		otherwise[i][2] = 1 - otherwise[i][2]
	}
	return slices.Concat(
		synodChanges("nodes", putNodes, 0, 13, 14, 1000),
		synodChanges("proposers", putProposers, 0, 9, 10, 1000),
		synodChanges("first node", putFirstNode, badAcceptors()...),
		synodChanges("last node", putLastNode, badAcceptors()...),
		synodChanges("own of first", putOwnOfFirst, append(badValues(), "", "b", "aa")...), // its Value is not that
		synodChanges("own of second", putOwnOfSecond, badValues()...),
		synodChanges("own of last", putOwnOfLast, badValues()...),
		synodChanges("promises of 1", putPromisesOf1, []impl.Promise{toldOf(0, 1, "x")}, []impl.Promise{toldOf(0, 0, "x")}, []impl.Promise{toldOf(0, -1, "")}),
		synodChanges("promises of 3", putPromisesOf3, append(badPromises(), toldBy(0, 1, 2))...),
		synodChanges("promises of 4", putPromisesOf4, []impl.Promise{toldOf(0, 4, "x")}, []impl.Promise{toldOf(0, 5, "x")}, toldBy(0, 1, 2, 3)),
		synodChanges("fixed 3", putFixed3, badFixed()...),
		synodChanges("value of first", putValueOfFirst, append(badValues(), "", "b", "c", "aa")...),
		synodChanges("value of second", putValueOfSecond, "", "b", "c", "aa", ";"),
		synodChanges("value of third", putValueOfThird, append(badValues(), "a", "c", " ")...),
		synodChanges("value of last", putValueOfLast, "a", "d", " ", ";"),
		synodChanges("votes of first", putVotesOfFirst, wrongVotes...),
		synodChanges("votes of second", putVotesOfSecond, wrongVotes...),
		synodChanges("votes of third", putVotesOfThird, append(wrongVotes, []int{0}, []int{4}, []int{0, 1, 2})...),
		synodChanges("votes of last", putVotesOfLast, []int{0}, []int{4}, []int{0, 4}),
		synodChanges("fixed of", putFixedOf, [][2]int{{0, 0}, {1, 0}, {2, 1}, {3, 1}}...),
		synodChanges("nodes, promises, Fixed", putMostOf, otherwise...),
		synodChanges("nodes, promises, Fixed with the empty value", putEmptyMost, otherwise...),
	)
}

// goodSynodAgain tells the document's words a second time.
func goodSynodAgain(s impl.Synod) bool {
	nodes, many := len(s.Acceptors), len(s.Proposers)
	if nodes == 0 || nodes > 12 || many == 0 || many > 8 {
		return false
	}
	for _, a := range s.Acceptors {
		if a.Promised < 0 || a.Promised > many || a.Ballot > a.Promised || !goodAcceptedAgain(a.Ballot, a.Value) {
			return false
		}
	}
	for i, p := range s.Proposers {
		last := -1
		for _, x := range p.Promises {
			if x.Node <= last || x.Node >= nodes || x.Ballot >= i+1 || !goodAcceptedAgain(x.Ballot, x.Value) {
				return false
			}
			last = x.Node
		}
		last = -1
		for _, node := range p.Votes {
			if node <= last || node >= nodes || !p.Fixed {
				return false
			}
			last = node
		}
		fixed, value := fixedAgain(p, nodes)
		if !valueAgain(p.Own) || p.Fixed != fixed || p.Value != value {
			return false
		}
	}
	return true
}

func goodAcceptedAgain(ballot int, value string) bool {
	if ballot == 0 {
		return value == ""
	}
	return ballot > 0 && valueAgain(value)
}

// fixedAgain tells whether a proposer is to be Fixed, and its Value.
func fixedAgain(p impl.Proposer, nodes int) (bool, string) {
	if len(p.Promises) <= nodes/2 {
		return false, ""
	}
	l := slices.Clone(p.Promises)
	slices.SortStableFunc(l, func(a, b impl.Promise) int { return b.Ballot - a.Ballot })
	if l[0].Ballot == 0 {
		return true, p.Own
	}
	return true, l[0].Value
}

func TestLimitsOfSynods(t *testing.T) {
	if impl.MaxBallots != 8 || impl.MaxSynodSteps != 120 {
		t.Error(impl.MaxBallots, impl.MaxSynodSteps)
	}
}

func TestGoodSynod(t *testing.T) {
	if s := mixedSynod(); !impl.GoodSynod(s) || !goodSynodAgain(s) {
		t.Error(synodText(s), "is good")
	}
	if impl.GoodSynod(impl.Synod{}) || impl.GoodSynod(impl.Synod{Acceptors: make([]impl.Acceptor, 1)}) || impl.GoodSynod(impl.Synod{Proposers: make([]impl.Proposer, 1)}) {
		t.Error("a synod without nodes or without proposers is not good")
	}
	for _, c := range goodSynodChanges() {
		if s := changedSynod(c); !impl.GoodSynod(s) || !goodSynodAgain(s) {
			t.Errorf("%s: %s is good", c.name, synodText(s))
		}
	}
	for _, c := range badSynodChanges() {
		if s := changedSynod(c); impl.GoodSynod(s) || goodSynodAgain(s) {
			t.Errorf("%s: %s is not good", c.name, synodText(s))
		}
	}
}

// All that three nodes may have told proposer 3: each no, or one of the ballots below, with one of three values.
func TestTheValueThatIsFixed(t *testing.T) {
	var choices []impl.Promise
	for ballot := range 3 {
		for _, value := range []string{"x", "y", ""} {
			if ballot > 0 || value == "" {
				choices = append(choices, toldOf(0, ballot, value))
			}
		}
	}
	many := 0
	for _, a := range choices {
		for _, b := range choices {
			for _, c := range choices {
				for left := range 4 {
					l := []impl.Promise{toldOf(0, a.Ballot, a.Value), toldOf(1, b.Ballot, b.Value), toldOf(2, c.Ballot, c.Value)}
					if left < 3 {
						l = slices.Delete(l, left, left+1)
					}
					s := emptySynod(3, 3)
					for _, value := range []string{"own", "x", "y", "z", ""} {
						s.Proposers[2] = fixedWith(value, l...)
						_, want := fixedAgain(s.Proposers[2], 3)
						if impl.GoodSynod(s) != (value == want) {
							t.Errorf("%s: %q", synodText(s), want)
						}
						many++
					}
				}
			}
		}
	}
	if many != 7*7*7*4*5 {
		t.Error(many)
	}
}

// checkNoSynod asks whether all functions give a synod that is not good the zero answer.
func checkNoSynod(t *testing.T, s impl.Synod) {
	t.Helper()
	for _, x := range manySynodSteps() {
		if left, ok := impl.StepSynod(s, x); ok || !isZeroSynod(left) {
			t.Errorf("%s: %+v: %s %v", synodText(s), x, synodText(left), ok)
		}
		if value, ok := impl.ValueAt(s, x.Ballot); ok || value != "" {
			t.Errorf("%s: %d: %q %v", synodText(s), x.Ballot, value, ok)
		}
	}
	if l, ok := impl.ChosenIn(s); ok || l != nil {
		t.Errorf("%s: %q %v", synodText(s), l, ok)
	}
}

func TestBadSynodsHaveTheZeroAnswer(t *testing.T) {
	checkNoSynod(t, impl.Synod{})
	for _, c := range badSynodChanges() {
		checkNoSynod(t, changedSynod(c))
	}
}

// spoilSynod puts one thing in a synod as it may be, or as it may not.
func spoilSynod(m *mixer, s *impl.Synod) {
	texts := []string{"", "a", "b", "c", ";", "a value of 21 bytes.."}
	text := func() string { return texts[m.below(len(texts))] }
	nodes, many := len(s.Acceptors), len(s.Proposers)
	a, p := &s.Acceptors[m.below(nodes)], &s.Proposers[m.below(many)]
	switch m.below(11) {
	case 0:
		a.Promised = m.below(many+3) - 1
	case 1:
		a.Ballot = m.below(many+3) - 1
	case 2:
		a.Value = text()
	case 3:
		p.Own = text()
	case 4:
		p.Fixed = !p.Fixed
	case 5:
		p.Value = text()
	case 6:
		p.Votes = append(slices.Clone(p.Votes), m.below(nodes+1))
	case 7:
		p.Votes = nil
	case 8:
		p.Promises = append(slices.Clone(p.Promises), toldOf(m.below(nodes+1), 0, ""))
	case 9:
		p.Promises = p.Promises[:m.below(len(p.Promises)+1)]
	case 10:
		if len(p.Promises) > 0 {
			p.Promises[m.below(len(p.Promises))] = toldOf(m.below(nodes), m.below(many+1), text())
		}
	}
}

// Synods that were played, with some things in them put otherwise.
func TestGoodSynodOfSynodsThatAreChanged(t *testing.T) {
	good, bad := 0, 0
	all := []impl.Synod{mixedSynod()}
	for seed := range 200 {
		s, _, _ := impl.PlaySynod(somePlayOfBallots(uint64(seed)))
		all = append(all, s)
	}
	for seed := range 20000 {
		m := mixer(seed)
		s := deepSynod(all[m.below(len(all))])
		for range 1 + m.below(3) {
			spoilSynod(&m, &s)
		}
		want := goodSynodAgain(s)
		if want {
			good++
		} else {
			bad++
		}
		if impl.GoodSynod(s) != want {
			t.Fatalf("%s: not %v", synodText(s), want)
		}
	}
	if good < 1000 || bad < 1000 {
		t.Error(good, bad)
	}
}
