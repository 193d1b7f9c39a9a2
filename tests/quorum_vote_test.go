package tests

import (
	"math"
	"slices"
	"testing"

	"loop.example/g00218/impl"
)

func sumAgain(l []int) int {
	sum := 0
	for _, n := range l {
		sum += n
	}
	return sum
}

// votesAgain tells the document's words on votes a second time.
func votesAgain(votes []int) bool {
	outside := func(n int) bool { return n < 0 || n > 100 }
	return len(votes) <= 12 && !slices.ContainsFunc(votes, outside) && sumAgain(votes) > 0
}

// weightAgain goes by the group's nodes.
func weightAgain(votes []int, g impl.Group) int {
	weight := 0
	for _, node := range g.Nodes {
		weight += votes[node]
	}
	return weight
}

func badVotes() [][]int {
	return [][]int{
		nil, {},
		{-1}, {101}, {102}, {math.MinInt}, {math.MaxInt}, {1 << 32}, {-100},
		{-1, 1}, {1, -1}, {2, -1}, {100, 101}, {101, 0}, {1, 1, -1}, {5, 101, 5}, {0, -1, 101},
		{math.MaxInt, math.MaxInt, 3}, {math.MinInt, math.MinInt, 1}, {math.MinInt, math.MaxInt, 2}, {1 << 62, 1 << 62, 1 << 62, 1 << 62, 1},
		// 0 together
		{0}, {0, 0}, {0, 0, 0}, make([]int, 12), {1, -1}, {-5, 5},
		// thirteen
		ones(13), make([]int, 13), append(make([]int, 12), 1), append(ones(12), 0), slices.Repeat([]int{100}, 13), ones(14), ones(100000),
	}
}

// someVotes are lists that are votes: all small ones of up to four nodes, those at the edges, and mixed ones of up to twelve.
func someVotes() [][]int {
	all := [][]int{
		{1}, {100}, {0, 1}, {1, 0}, {0, 100}, {100, 100}, {99, 100, 0}, {0, 0, 0, 1}, {2, 1, 1}, {1, 1, 1, 2}, {5, 0, 3, 100, 1},
		ones(12), slices.Repeat([]int{100}, 12), append(make([]int, 11), 1), append([]int{1}, make([]int, 11)...), upTo(12),
	}
	for n := 1; n <= 4; n++ {
		lists := [][]int{nil}
		for range n {
			var longer [][]int
			for _, l := range lists {
				for v := range 3 {
					longer = append(longer, append(slices.Clone(l), v))
				}
			}
			lists = longer
		}
		all = append(all, lists[1:]...) // the first one has no vote
	}
	for seed := range 60 {
		m := mixer(seed)
		most := []int{2, 4, 10, 101}[m.below(4)]
		var votes []int
		for range 1 + m.below(12) {
			votes = append(votes, m.below(most))
		}
		if sumAgain(votes) > 0 {
			all = append(all, votes)
		}
	}
	return all
}

// someGroups are groups of n nodes: all of few ones, and some of many.
func someGroups(n int) []impl.Group {
	all := groupsOf(n)
	if n <= 6 {
		return all
	}
	m := mixer(n)
	some := []impl.Group{all[0], all[1], all[len(all)-1]}
	for range 30 {
		some = append(some, all[m.below(len(all))])
	}
	return some
}

func TestWeightOf(t *testing.T) {
	for _, x := range []struct {
		votes []int
		g     impl.Group
		want  int
	}{
		{[]int{1}, group(), 0}, {[]int{1}, group(0), 1}, {[]int{100}, group(0), 100},
		{[]int{2, 1, 1}, group(0), 2}, {[]int{2, 1, 1}, group(1, 2), 2}, {[]int{2, 1, 1}, group(0, 2), 3}, {[]int{2, 1, 1}, group(0, 1, 2), 4},
		{[]int{0, 7, 0}, group(0, 2), 0}, {[]int{0, 7, 0}, group(1), 7}, {[]int{0, 7, 0}, group(0, 1, 2), 7},
		{[]int{1, 20, 3, 40}, group(1, 3), 60}, {[]int{1, 20, 3, 40}, group(0, 2), 4},
		{slices.Repeat([]int{100}, 12), impl.Group{Nodes: upTo(12)}, 1200}, {upTo(12), group(10, 11), 21}, {upTo(12), group(0), 0},
	} {
		if weight, ok := impl.WeightOf(x.votes, x.g); weight != x.want || !ok {
			t.Errorf("%v of %v: %d %v", x.g, x.votes, weight, ok)
		}
	}
	for _, votes := range someVotes() {
		for _, g := range someGroups(len(votes)) {
			if weight, ok := impl.WeightOf(votes, g); weight != weightAgain(votes, g) || !ok {
				t.Errorf("%v of %v: %d %v", g, votes, weight, ok)
			}
		}
	}
}

// thresholds asks both IsRead and IsWrite, of which the document says the same.
func thresholds(t *testing.T, votes []int, threshold int, g impl.Group) (bool, bool) {
	t.Helper()
	r, okR := impl.IsRead(votes, threshold, g)
	w, okW := impl.IsWrite(votes, threshold, g)
	if r != w || okR != okW {
		t.Fatalf("%v of %v at %d: %v %v, %v %v", g, votes, threshold, r, okR, w, okW)
	}
	return r, okR
}

func TestThresholdsAtTheirEdges(t *testing.T) {
	votes := []int{2, 1, 0, 4}
	for _, x := range []struct {
		threshold int
		g         impl.Group
		want, ok  bool
	}{
		{0, group(0, 1, 2, 3), false, false}, {-1, group(0, 1, 2, 3), false, false}, {math.MinInt, group(0, 1, 2, 3), false, false}, {0, group(), false, false},
		{8, group(0, 1, 2, 3), false, false}, {9, group(0, 1, 2, 3), false, false}, {math.MaxInt, group(0, 1, 2, 3), false, false}, {1<<32 + 1, group(3), false, false}, {8, group(), false, false},
		{1, group(), false, true}, {1, group(2), false, true}, {1, group(1), true, true}, {1, group(0), true, true}, {1, group(0, 1, 2, 3), true, true},
		{7, group(0, 1, 2, 3), true, true}, {7, group(0, 1, 3), true, true}, {7, group(0, 2, 3), false, true}, {7, group(), false, true},
		{3, group(0, 1), true, true}, {4, group(0, 1, 2), false, true}, {4, group(3), true, true}, {5, group(3), false, true}, {5, group(1, 3), true, true}, {6, group(0, 3), true, true}, {6, group(1, 2, 3), false, true},
	} {
		if is, ok := thresholds(t, votes, x.threshold, x.g); is != x.want || ok != x.ok {
			t.Errorf("%v at %d: %v %v", x.g, x.threshold, is, ok)
		}
	}
}

func TestThresholdsOfManyVotes(t *testing.T) {
	for _, votes := range someVotes() {
		sum := sumAgain(votes)
		for _, g := range someGroups(len(votes)) {
			weight := weightAgain(votes, g)
			for _, threshold := range []int{-1, 0, 1, 2, weight - 1, weight, weight + 1, sum / 2, sum - 1, sum, sum + 1, sum + 2} {
				want := threshold >= 1 && threshold <= sum
				if is, ok := thresholds(t, votes, threshold, g); ok != want || is != (want && weight >= threshold) {
					t.Errorf("%v of %v at %d: %v %v", g, votes, threshold, is, ok)
				}
			}
		}
	}
}

// checkNoVotes asks for the zero answer of all that is asked of votes, of a group and a threshold.
func checkNoVotes(t *testing.T, votes []int, threshold int, g impl.Group) {
	t.Helper()
	if weight, ok := impl.WeightOf(votes, g); weight != 0 || ok {
		t.Error("WeightOf", votes, g, weight, ok)
	}
	if is, ok := thresholds(t, votes, threshold, g); is || ok {
		t.Error(votes, threshold, g, is, ok)
	}
}

func TestBadVotesHaveTheZeroAnswer(t *testing.T) {
	for _, votes := range badVotes() {
		if votesAgain(votes) {
			t.Error(votes)
		}
		for _, g := range []impl.Group{{}, group(0), group(0, 1), {Nodes: upTo(min(len(votes), 12))}, {Nodes: upTo(len(votes))}, group(-1)} {
			for _, threshold := range []int{-1, 0, 1, 2, 100} {
				checkNoVotes(t, votes, threshold, g)
			}
		}
	}
}

// The votes tell how many nodes there are: a group that is good of more is none of so many.
func TestGroupsAreOfAsManyNodesAsVotes(t *testing.T) {
	for n := 1; n <= 12; n++ {
		votes := ones(n)
		for _, g := range []impl.Group{group(n), group(0, n), group(-1), group(n-1, n), {Nodes: upTo(n + 1)}, group(0, 0), group(n-1, n-1), group(n, 0)} {
			for _, threshold := range []int{0, 1, n, n + 1} {
				checkNoVotes(t, votes, threshold, g)
			}
		}
		if weight, ok := impl.WeightOf(votes, group(n-1)); weight != 1 || !ok {
			t.Error(votes, weight, ok)
		}
	}
}

// split are the groups that read at one threshold, and those that write at the other.
func split(votes []int, r, w int, all []impl.Group) ([]impl.Group, []impl.Group) {
	var reads, writes []impl.Group
	for _, g := range all {
		if is, ok := impl.IsRead(votes, r, g); is && ok {
			reads = append(reads, g)
		}
		if is, ok := impl.IsWrite(votes, w, g); is && ok {
			writes = append(writes, g)
		}
	}
	return reads, writes
}

// apart counts the groups that read and those that write which have no node in common.
func apart(t *testing.T, n int, reads, writes []impl.Group) int {
	t.Helper()
	many := 0
	for _, a := range reads {
		for _, b := range writes {
			both, ok := impl.MeetOf(a, b, n)
			if !ok {
				t.Fatal(a, b, n)
			}
			if len(both.Nodes) == 0 {
				many++
			}
		}
	}
	return many
}

// Promise 8: groups that read and groups that write meet, where both thresholds are together more than all votes.
func TestReadsAndWritesMeet(t *testing.T) {
	for _, votes := range someVotes() {
		n, sum := len(votes), sumAgain(votes)
		all := someGroups(n)
		// the least thresholds that together are more than all votes let the most groups through
		for r := 1; r <= sum; r += 1 + sum/20 {
			reads, writes := split(votes, r, sum+1-r, all)
			if many := apart(t, n, reads, writes); many > 0 {
				t.Errorf("%v at %d and %d: %d do not meet", votes, r, sum+1-r, many)
			}
		}
	}
}

// With all thresholds of all small votes: they meet at any that are together more than all.
func TestReadsAndWritesOfAllThresholds(t *testing.T) {
	met := 0
	for _, votes := range someVotes() {
		n, sum := len(votes), sumAgain(votes)
		if n > 4 || sum > 8 {
			continue
		}
		for r := 1; r <= sum; r++ {
			for w := 1; w <= sum; w++ {
				reads, writes := split(votes, r, w, groupsOf(n))
				if len(reads) == 0 || len(writes) == 0 {
					t.Errorf("%v at %d and %d: none", votes, r, w)
				}
				if r+w <= sum {
					continue
				}
				met++
				if many := apart(t, n, reads, writes); many > 0 {
					t.Errorf("%v at %d and %d: %d do not meet", votes, r, w, many)
				}
			}
		}
	}
	if met < 500 {
		t.Error(met)
	}
}

// Where both are together no more than all votes, of one a node, there are groups that do not meet.
func TestReadsAndWritesApart(t *testing.T) {
	for n := 2; n <= 8; n++ {
		for r := 1; r < n; r++ {
			for w := 1; w <= n-r; w++ {
				reads, writes := split(ones(n), r, w, groupsOf(n))
				if apart(t, n, reads, writes) == 0 {
					t.Errorf("of %d at %d and %d all meet", n, r, w)
				}
			}
		}
	}
	// of unlike votes
	reads, writes := split([]int{3, 2, 1}, 3, 3, groupsOf(3))
	if many := apart(t, 3, reads, writes); many != 2 {
		t.Error(reads, writes, many)
	}
}
