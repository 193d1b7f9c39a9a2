package tests

import (
	"math"
	"slices"
	"strings"
	"testing"

	"loop.example/g00218/impl"
)

// somePlayOfBallots is a play of several proposers: most steps do something, and some nodes are heard of seldom.
func somePlayOfBallots(seed uint64) (int, []string, []impl.SynodStep) {
	m := mixer(seed)
	nodes, many := 1+m.below(5), 2+m.below(4)
	if m.below(6) == 0 {
		nodes, many = 6+m.below(7), 1+m.below(8)
	}
	var values []string
	for range many {
		values = append(values, []string{"a", "b", "c", "d", "e", "f", "g", "h", ""}[m.below(9)])
	}
	s, _ := impl.NewSynod(nodes, values)
	var l []impl.SynodStep
	for range 20 + m.below(101) {
		x := nextSynodStep(&m, s)
		l = append(l, x)
		if left, ok := impl.StepSynod(s, x); ok {
			s = left
		}
	}
	return nodes, values, l
}

func nextSynodStep(m *mixer, s impl.Synod) impl.SynodStep {
	if m.below(15) == 0 {
		return manySynodSteps()[m.below(len(manySynodSteps()))]
	}
	// lesser ballots are tried more often, so that greater ones come behind them
	x := impl.SynodStep{Ballot: 1 + min(m.below(len(s.Proposers)), m.below(len(s.Proposers))), Node: m.below(len(s.Acceptors))}
	x.Accept = s.Proposers[x.Ballot-1].Fixed
	return x
}

func TestNewSynod(t *testing.T) {
	for _, nodes := range []int{math.MinInt, -12, -1, 0, 13, 14, 1 << 32, math.MaxInt} {
		if s, ok := impl.NewSynod(nodes, []string{"a", "b"}); ok || !isZeroSynod(s) {
			t.Error(nodes, synodText(s), ok)
		}
	}
	eight := []string{"a", "b", "", "b", " ~", strings.Repeat("x", 20), "=", "z"}
	for nodes := 1; nodes <= 12; nodes++ {
		for many := 1; many <= 8; many++ {
			want := impl.Synod{Acceptors: make([]impl.Acceptor, nodes), Proposers: make([]impl.Proposer, many)}
			for i := range many {
				want.Proposers[i].Own = eight[i]
			}
			s, ok := impl.NewSynod(nodes, eight[:many])
			if !ok || !sameSynod(s, want) || !impl.GoodSynod(s) {
				t.Error(nodes, many, synodText(s), ok)
			}
		}
	}
	for _, values := range [][]string{nil, {}, append(slices.Clone(eight), "i"), slices.Repeat([]string{"a"}, 10), make([]string, 1000)} {
		for _, nodes := range []int{0, 1, 3, 12, 13} {
			if s, ok := impl.NewSynod(nodes, values); ok || !isZeroSynod(s) {
				t.Error(nodes, values, synodText(s), ok)
			}
		}
	}
}

func TestNewSynodOfValues(t *testing.T) {
	for at := range 8 {
		values := slices.Repeat([]string{"v"}, 8)
		for _, value := range goodValues() {
			values[at] = value
			if s, ok := impl.NewSynod(3, values); !ok || s.Proposers[at].Own != value || s.Proposers[7-at].Own != "v" {
				t.Errorf("%q: %s %v", values, synodText(s), ok)
			}
		}
		for _, value := range badValues() {
			values[at] = value
			if s, ok := impl.NewSynod(3, values); ok || !isZeroSynod(s) {
				t.Errorf("%q: %s %v", values, synodText(s), ok)
			}
			if s, did, ok := impl.PlaySynod(3, values, synodSteps("p1:0")); ok || did != nil || !isZeroSynod(s) {
				t.Errorf("%q: %s %v %v", values, synodText(s), did, ok)
			}
		}
	}
}

func TestPlaySynod(t *testing.T) {
	for _, c := range []struct {
		nodes  int
		values string
		steps  string
		not    []int
		left   string
	}{
		{1, "a", "", nil, "0/0= a{}?[]"},
		{1, "a", "p1:0 a1:0", nil, "1/1=a a{0/0=}!a[0]"},
		{1, "a b", "p1:0 a1:0 p2:0 a2:0", nil, "2/2=a a{0/0=}!a[0] b{0/1=a}!a[0]"},
		{1, "a b", "p1:0 p2:0 a1:0 a2:0", []int{2}, "2/2=b a{0/0=}!a[] b{0/0=}!b[0]"},
		{2, "a b", "p1:1 p1:0 p2:0 a1:0 a1:1 p2:1", []int{3}, "2/0= 2/1=a a{0/0= 1/0=}!a[1] b{0/0= 1/1=a}!a[]"},
		{5, "a b c d", mixedSynodSteps, nil, synodText(mixedSynod())},
		// one that heard of nothing has its own value, though another one was accepted, as that was by no more than half
		{3, "a b", "p1:0 p1:1 a1:0 p2:1 p2:2 a1:1 a2:1 a2:2 a1:2", []int{5, 8}, "1/1=a 2/2=b 2/2=b a{0/0= 1/0=}!a[0] b{1/0= 2/0=}!b[1 2]"},
		// a node may vote that has promised nothing
		{3, "a", "p1:0 p1:2 a1:1", nil, "1/0= 1/1=a 1/0= a{0/0= 2/0=}!a[1]"},
		// steps that do nothing, after which all goes on as it was
		{3, "a b", "a1:0 p0:0 p1:0 p1:0 p3:1 p1:3 p1:-1 p1:1 p1:2 a1:0 a1:0 p2:0 a1:0 a2:0 p2:2 p2:1 a2:1", []int{0, 1, 3, 4, 5, 6, 8, 10, 12, 13, 15},
			"2/1=a 2/2=a 2/0= a{0/0= 1/0=}!a[0] b{0/1=a 2/0=}!a[1]"},
	} {
		l := synodSteps(c.steps)
		want := slices.Repeat([]bool{true}, len(l))
		for _, i := range c.not {
			want[i] = false
		}
		s, did, ok := impl.PlaySynod(c.nodes, strings.Fields(c.values), l)
		if !ok || !slices.Equal(did, want) || synodText(s) != c.left {
			t.Errorf("%s: %v %v, %s is left", c.steps, did, ok, synodText(s))
		}
	}
}

func TestPlaySynodOfWhatNewSynodRefuses(t *testing.T) {
	for _, nodes := range []int{math.MinInt, -1, 0, 1, 3, 12, 13, math.MaxInt} {
		for _, values := range [][]string{nil, {"a"}, {"a", ";"}, slices.Repeat([]string{"b"}, 8), slices.Repeat([]string{"b"}, 9)} {
			for _, l := range [][]impl.SynodStep{nil, synodSteps("p1:0"), synodSteps("p1:0 p9:0 p1:11 p1:12")} {
				s, did, ok := impl.PlaySynod(nodes, values, l)
				start, can := impl.NewSynod(nodes, values)
				if ok != can || !can && (did != nil || !isZeroSynod(s)) {
					t.Error(nodes, values, synodText(s), did, ok)
				}
				if can && (len(did) != len(l) || len(l) == 0 && !sameSynod(s, start) || len(l) == 4 && (did[1] || did[2] != (nodes == 12) || did[3])) {
					t.Error(nodes, values, synodText(s), did, ok)
				}
			}
		}
	}
}

func TestPlaySynodHasALimit(t *testing.T) {
	for _, text := range []string{"p1:0", "a1:0", "p1:2 p1:1 a1:1 a1:1 p2:0 p2:2 a2:1"} {
		l := slices.Repeat(synodSteps(text), 130)
		for _, many := range []int{0, 1, 119, 120} {
			if s, did, ok := impl.PlaySynod(3, []string{"a", "b"}, l[:many]); !ok || len(did) != many || len(s.Acceptors) != 3 || len(s.Proposers) != 2 {
				t.Error(many, synodText(s), did, ok)
			}
		}
		for _, many := range []int{121, 122, 130} {
			if s, did, ok := impl.PlaySynod(3, []string{"a", "b"}, l[:many]); ok || did != nil || !isZeroSynod(s) {
				t.Error(many, synodText(s), did, ok)
			}
		}
	}
	// the last step that there is room for counts
	l := append(slices.Repeat(synodSteps("a1:0"), 119), askPromise(1, 0))
	if s, did, ok := impl.PlaySynod(1, []string{"a"}, l); !ok || !did[119] || slices.Contains(did[:119], true) || synodText(s) != "1/0= a{0/0=}!a[]" {
		t.Error(synodText(s), did, ok)
	}
}

// A play is its steps one by one, each that does something.
func TestPlaySynodIsItsSteps(t *testing.T) {
	for seed := range 1000 {
		nodes, values, l := somePlayOfBallots(uint64(seed))
		s, _ := impl.NewSynod(nodes, values)
		for i, x := range l {
			left, ok := checkSynodStep(t, s, x)
			if ok {
				s = left
			}
			if i%40 == 7 || i == len(l)-1 {
				played, did, _ := impl.PlaySynod(nodes, values, l[:i+1])
				if !sameSynod(played, s) || len(did) != i+1 || did[i] != ok {
					t.Fatalf("%+v: %s %v, not %s", l[:i+1], synodText(played), did, synodText(s))
				}
			}
		}
	}
}

// votedSynod has proposers that are Fixed with values and have so many votes each.
func votedSynod(nodes int, values []string, votes []int) impl.Synod {
	s := emptySynod(nodes, len(values))
	for i, value := range values {
		s.Proposers[i] = impl.Proposer{Own: value, Promises: toldBy(upTo(nodes)...), Fixed: true, Value: value, Votes: upTo(votes[i])}
	}
	return s
}

func TestChosenIn(t *testing.T) {
	for _, c := range []struct {
		nodes  int
		values string
		votes  []int
		want   string
	}{
		{1, "a", []int{0}, ""},
		{1, "a", []int{1}, "a"},
		{2, "a", []int{1}, ""}, // just half
		{2, "a", []int{2}, "a"},
		{3, "a", []int{1}, ""},
		{3, "a", []int{2}, "a"},
		{4, "a", []int{2}, ""},
		{4, "a", []int{3}, "a"},
		{11, "a", []int{5}, ""},
		{11, "a", []int{6}, "a"},
		{12, "a", []int{6}, ""},
		{12, "a", []int{7}, "a"},
		{12, "a", []int{12}, "a"},
		// several, as there may be in a synod made by hand: rising, and each once
		{3, "b a", []int{2, 2}, "a b"},
		{3, "b a", []int{2, 1}, "b"},
		{3, "b a", []int{1, 2}, "a"},
		{3, "b a", []int{1, 1}, ""},
		{3, "b a b a b", []int{2, 2, 3, 2, 2}, "a b"},
		{3, "c c", []int{2, 2}, "c"},
		{3, "c c", []int{1, 1}, ""}, // votes for unlike ballots are not counted together
		{3, "ab b a aa B", []int{2, 2, 2, 2, 2}, "B a aa ab b"},
		{3, "h g f e d c b a", []int{2, 2, 2, 2, 2, 2, 2, 2}, "a b c d e f g h"},
	} {
		s := votedSynod(c.nodes, strings.Fields(c.values), c.votes)
		if l, ok := impl.ChosenIn(s); !ok || !slices.Equal(l, strings.Fields(c.want)) {
			t.Errorf("%s: %q %v, not %q", synodText(s), l, ok, c.want)
		}
	}
	if l, ok := impl.ChosenIn(mixedSynod()); !ok || len(l) > 0 {
		t.Error(l, ok)
	}
	// the empty value may be chosen, and stands first
	if l, ok := impl.ChosenIn(votedSynod(1, []string{"b", "", " ", ""}, []int{1, 1, 1, 1})); !ok || !slices.Equal(l, []string{"", " ", "b"}) {
		t.Errorf("%q %v", l, ok)
	}
}

// What is chosen is what a proposer is Fixed with, not its own value, and not what nodes have accepted.
func TestChosenInAsksForVotes(t *testing.T) {
	s := mixedSynod()
	s.Proposers[1].Votes = []int{1, 2, 3}
	if l, ok := impl.ChosenIn(s); !ok || !slices.Equal(l, []string{"a"}) {
		t.Error(l, ok)
	}
	s = emptySynod(3, 1)
	s.Acceptors = slices.Repeat([]impl.Acceptor{accepted(1, 1, "x")}, 3)
	if l, ok := impl.ChosenIn(s); !ok || len(l) > 0 {
		t.Error(l, ok)
	}
}

func TestValueAt(t *testing.T) {
	s := mixedSynod()
	for _, c := range []struct {
		ballot int
		value  string
		ok     bool
	}{
		{math.MinInt, "", false}, {-1, "", false}, {0, "", false},
		{1, "a", true}, {2, "a", true}, {3, "", false}, {4, "", false},
		{5, "", false}, {6, "", false}, {math.MaxInt, "", false},
	} {
		if value, ok := impl.ValueAt(s, c.ballot); value != c.value || ok != c.ok {
			t.Errorf("%d: %q %v", c.ballot, value, ok)
		}
	}
	s = votedSynod(2, []string{"h", "g", "f", "e", "d", "c", "b", ""}, make([]int, 8))
	for ballot, want := range []string{"h", "g", "f", "e", "d", "c", "b", ""} {
		if value, ok := impl.ValueAt(s, ballot+1); value != want || !ok {
			t.Errorf("%d: %q %v", ballot+1, value, ok)
		}
	}
	if value, ok := impl.ValueAt(s, 9); value != "" || ok {
		t.Errorf("%q %v", value, ok)
	}
	// just half have promised, and one more
	for nodes := 1; nodes <= impl.MaxNodes; nodes++ {
		s, _ := impl.NewSynod(nodes, []string{"v"})
		for i := range nodes/2 + 1 {
			if value, ok := impl.ValueAt(s, 1); value != "" || ok {
				t.Errorf("%s: %q %v", synodText(s), value, ok)
			}
			s, _ = impl.StepSynod(s, askPromise(1, i))
		}
		if value, ok := impl.ValueAt(s, 1); value != "v" || !ok {
			t.Errorf("%s: %q %v", synodText(s), value, ok)
		}
	}
}
