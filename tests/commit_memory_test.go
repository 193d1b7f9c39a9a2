package tests

import (
	"fmt"
	"math"
	"slices"
	"testing"

	"loop.example/g00218/impl"
)

// commitAnswers asks all functions of a commit, and tells what they answered as one text.
func commitAnswers(c impl.Commit, s impl.CommitStep) string {
	left, ok1 := impl.StepCommit(c, s)
	decision, ok2 := impl.DecisionOf(c)
	agrees, ok3 := impl.AgreesIn(c)
	lives, ok4 := impl.LivesIn(c)
	return fmt.Sprint(impl.GoodCommit(c), left, ok1, decision, ok2, agrees, ok3, lives, ok4)
}

// someCommits are good ones, at the edges and played ones, and some that are not.
func someCommits() []impl.Commit {
	l := badCommits()
	for _, text := range goodCommitTexts() {
		l = append(l, commitOf(text))
	}
	for seed := range 40 {
		replicas, steps := somePlayOfCommit(uint64(seed))
		c, _, _ := impl.PlayCommit(replicas, steps)
		half, _, _ := impl.PlayCommit(replicas, steps[:len(steps)/3])
		l = append(l, c, half)
	}
	return l
}

// someCommitSteps are a few of each kind, that most commits can do and that none can.
func someCommitSteps() []impl.CommitStep {
	return append(commitSteps("l0.0 l0.1 l1.0 c0.0 c0.1 c1.0 t a x0.0 x0.1 x1.0 r p0.0 p0.1 p1.0 p9.0 x0.9"), impl.CommitStep{}, impl.CommitStep{Kind: 8}, impl.CommitStep{Kind: 5, Shard: -1}, impl.CommitStep{Kind: 1, Node: -1})
}

// wholeCommit is the commit with all that lies behind the lengths of its lists.
func wholeCommit(c impl.Commit) impl.Commit {
	c.Shards = slices.Clone(c.Shards[:cap(c.Shards)])
	for i, s := range c.Shards {
		c.Shards[i].Replicas = slices.Clone(s.Replicas[:cap(s.Replicas)])
	}
	return c
}

// roomyCommit is the commit with room behind each list, where something lies that must not matter.
func roomyCommit(c impl.Commit, has int) impl.Commit {
	c = deepCommit(c)
	r := impl.Replica{Down: has == impl.HasLock, Has: has}
	for i, s := range c.Shards {
		c.Shards[i].Replicas = append(s.Replicas, r, r, r, r, r, r)[:len(s.Replicas)]
	}
	other := impl.Shard{Replicas: []impl.Replica{r, r}}
	c.Shards = append(c.Shards, other, impl.Shard{}, other)[:len(c.Shards)]
	return c
}

func commitSpans(c impl.Commit, what string) []span {
	spans := []span{spanOf(c.Shards, what+"'s shards")}
	for i, s := range c.Shards {
		spans = append(spans, spanOf(s.Replicas, fmt.Sprint(what, "'s replicas of shard ", i)))
	}
	return spans
}

func TestNoCommitIsWrittenInto(t *testing.T) {
	for _, c := range someCommits() {
		old := deepCommit(c)
		for _, s := range append(allCommitSteps(c), someCommitSteps()...) {
			commitAnswers(c, s)
		}
		if !sameCommit(c, old) {
			t.Errorf("%v became %v", old, c)
		}
	}
}

func TestNoStepOfACommitIsWrittenInto(t *testing.T) {
	for seed := range 100 {
		replicas, l := somePlayOfCommit(uint64(seed))
		oldReplicas, old := slices.Clone(replicas), slices.Clone(l)
		impl.NewCommit(replicas)
		impl.PlayCommit(replicas, l)
		if !slices.Equal(l, old) || !slices.Equal(replicas, oldReplicas) {
			t.Errorf("%v %v became %v %v", oldReplicas, old, replicas, l)
		}
	}
}

// Whatever lies behind the lengths, good or bad, is neither read nor written nor handed out.
func TestCommitsKeepToTheirLengths(t *testing.T) {
	for _, c := range someCommits() {
		l := append(someCommitSteps(), allCommitSteps(c)...)
		var want []string
		for _, s := range l {
			want = append(want, commitAnswers(c, s))
		}
		for _, has := range []int{-1, 0, 1, 2, 3, 4, 5} {
			long := roomyCommit(c, has)
			old := wholeCommit(long)
			for i, s := range l {
				if got := commitAnswers(long, s); got != want[i] {
					t.Fatalf("%v: %v: %s, not %s", c, s, got, want[i])
				}
			}
			if !sameCommit(wholeCommit(long), old) {
				t.Fatalf("%v became %v", old, wholeCommit(long))
			}
		}
	}
	replicas, steps := []int{2, 1, 0, 9, 1, 1}, commitSteps("l0.0 l1.0 c0.0 a")
	if c, did, ok := impl.PlayCommit(replicas[:2], steps[:3]); !ok || len(did) != 3 || commitText(c) != "cn/l .." {
		t.Error(c, did, ok)
	}
	if _, did, ok := impl.PlayCommit(replicas[:1], slices.Repeat(steps, 50)[:100]); len(did) != 100 || !ok {
		t.Error(did, ok)
	}
	if c, ok := impl.NewCommit(replicas[:2]); !ok || commitText(c) != "nn/n .." {
		t.Error(c, ok)
	}
}

func TestCommitsAreNewMemory(t *testing.T) {
	did := 0
	for _, c := range someCommits() {
		given := roomyCommit(c, impl.HasCopy)
		spans := commitSpans(given, "given")
		for _, s := range allCommitSteps(given) {
			left, ok := impl.StepCommit(given, s)
			if !ok {
				continue
			}
			did++
			checkNew(t, commitSpans(left, "left"), spans)
			// and what follows from an answer lies apart from it
			for _, s := range allCommitSteps(left) {
				if next, ok := impl.StepCommit(left, s); ok {
					checkNew(t, commitSpans(next, "next"), commitSpans(left, "left"))
				}
			}
		}
	}
	if did < 300 {
		t.Error(did)
	}
}

func TestWhatPlayCommitTellsIsNewMemory(t *testing.T) {
	for seed := range 100 {
		replicas, l := somePlayOfCommit(uint64(seed))
		c, did, _ := impl.PlayCommit(replicas, l)
		other, otherDid, _ := impl.PlayCommit(replicas, l)
		given := append(commitSpans(other, "other"), spanOf(replicas, "numbers"), spanOf(l, "steps"), spanOf(otherDid, "other did"))
		checkNew(t, append(commitSpans(c, "commit"), spanOf(did, "did")), given)
		a, _ := impl.NewCommit(replicas)
		b, _ := impl.NewCommit(replicas)
		checkNew(t, commitSpans(a, "new"), append(commitSpans(b, "another"), spanOf(replicas, "numbers")))
		none, _, _ := impl.PlayCommit(replicas, nil)
		checkNew(t, commitSpans(none, "played"), commitSpans(a, "new"))
	}
}

// Lists of the argument that lie in one memory do not bring those of the answer together.
func TestCommitsThatShareMemoryAreParted(t *testing.T) {
	shared := slices.Repeat([]impl.Replica{{Has: impl.HasLock}}, 8)
	c := impl.Commit{Shards: []impl.Shard{{Replicas: shared[:3]}, {Replicas: shared[:3]}, {Replicas: shared[1:5]}, {Replicas: shared[2:3]}}}
	old := deepCommit(c)
	for word, want := range map[string]string{
		"c0.0": "cll/lll/llll/l ..", "c1.2": "lll/llc/llll/l ..", "c2.0": "lll/lll/clll/l ..", "c3.0": "lll/lll/llll/c ..",
		"x0.1": "lNl/lll/llll/l ..", "x2.3": "lll/lll/lllN/l ..", "a": "lll/lll/llll/l N.", "r": "lll/lll/llll/l .N",
	} {
		left, ok := checkCommitStep(t, c, commitStep(word))
		if checkNew(t, commitSpans(left, "left"), append(commitSpans(c, "given"), spanOf(shared, "shared"))); !ok || commitText(left) != want {
			t.Error(word, commitText(left), ok)
		}
	}
	if !sameCommit(c, old) || !slices.Equal(shared, slices.Repeat([]impl.Replica{{Has: impl.HasLock}}, 8)) {
		t.Error(c, shared)
	}
}

// Two answers to one question lie apart: one may be written into.
func TestTwoAnswersOfCommitsShareNoMemory(t *testing.T) {
	steps := commitSteps("l0.0 l1.0 c0.0 t")
	for range 2 {
		fresh, _ := impl.NewCommit([]int{2, 1})
		left, _ := impl.StepCommit(commitOf("cc/lc .."), commitStep("c1.0"))
		played, did, _ := impl.PlayCommit([]int{2, 1}, steps)
		for i, want := range []string{"nn/n ..", "cc/cc ..", "cn/l .."} {
			if got := commitText([]impl.Commit{fresh, left, played}[i]); got != want {
				t.Error(got, want)
			}
		}
		if didOf(did) != "+++-" {
			t.Error(did)
		}
		for _, c := range []impl.Commit{fresh, left, played} {
			spoilReplicas(c)
		}
		did = did[:cap(did)]
		for i := range did {
			did[i] = !did[i]
		}
	}
}

// spoilReplicas writes into all that a commit has, and into the room behind it.
func spoilReplicas(c impl.Commit) {
	for _, s := range c.Shards {
		l := s.Replicas[:cap(s.Replicas)]
		for i := range l {
			l[i] = impl.Replica{Down: true, Has: -7}
		}
	}
	clear(c.Shards[:cap(c.Shards)])
}

// What was asked before does not matter: nothing is kept from call to call, also not of what gave up.
func TestCommitsAreAnsweredAlikeAgain(t *testing.T) {
	all := someCommits()
	for _, s := range commitSteps("c0.0 r p9.9") {
		var first []string
		for _, c := range all {
			first = append(first, commitAnswers(c, s))
		}
		for i, c := range slices.Backward(all) {
			if got := commitAnswers(c, s); got != first[i] {
				t.Errorf("%v: %s, and %s at first", c, got, first[i])
			}
		}
	}
}

// What gives up in one play is caught there: plays at once are answered as one alone.
func TestCommitsAreAnsweredAlikeAtOnce(t *testing.T) {
	for _, text := range []string{"ln/lN ..", "cN/dc YY", "NNNNn/c .N"} {
		c := commitOf(text)
		for _, word := range []string{"c0.0", "t", "x1.0", "p0.0", "x0.4", "l7.0"} {
			want := commitAnswers(c, commitStep(word))
			answers := make(chan string)
			for range 20 {
				go func() { answers <- commitAnswers(c, commitStep(word)) }()
			}
			for range 20 {
				if got := <-answers; got != want {
					t.Fatalf("%s: %s, and %s at first", text, got, want)
				}
			}
		}
	}
}

// drawnCommit is good, and need not come of any play.
func drawnCommit(m *mixer) impl.Commit {
	c := impl.Commit{Driver: m.below(3) * m.below(2), Recovered: m.below(3) * m.below(2)}
	most := 1 + m.below(5)
	for range 1 + m.below(4) {
		var s impl.Shard
		for range 1 + m.below(5) {
			s.Replicas = append(s.Replicas, impl.Replica{Down: m.below(4) == 0, Has: m.below(most)})
		}
		c.Shards = append(c.Shards, s)
	}
	return c
}

// spoilCommit puts a number, or another length, at one place.
func spoilCommit(m *mixer, c *impl.Commit, n int) {
	s := &c.Shards[m.below(len(c.Shards))]
	switch m.below(7) {
	case 0:
		c.Driver = n
	case 1:
		c.Recovered = n
	case 2:
		s.Replicas[m.below(len(s.Replicas))].Has = n
	case 3:
		s.Replicas = append(s.Replicas, impl.Replica{})
	case 4:
		c.Shards = append(c.Shards, impl.Shard{Replicas: make([]impl.Replica, max(1, n%7))})
	case 5:
		c.Shards = append(c.Shards, c.Shards...)
	case 6:
		for i := range s.Replicas {
			s.Replicas[i].Down = true
		}
	}
}

// Commits of anything at all are answered, and those that are not good by the zero answer.
func TestCommitsOfAnything(t *testing.T) {
	numbers := []int{math.MinInt, math.MinInt + 1, -2, -1, 0, 1, 2, 3, 4, 5, 6, 99, 100, 1 << 32, math.MaxInt - 1, math.MaxInt}
	good, bad, did := 0, 0, 0
	for seed := range 60000 {
		m := mixer(seed)
		number := func() int { return numbers[m.below(len(numbers))] }
		c := drawnCommit(&m)
		s := drawnCommitStep(&m, c)
		for range m.below(3) {
			spoilCommit(&m, &c, number())
		}
		if m.below(4) == 0 {
			s = impl.CommitStep{Kind: number(), Shard: number(), Node: number()}
		}
		want := goodCommitAgain(c)
		if impl.GoodCommit(c) != want {
			t.Fatalf("%v: not %v", c, want)
		}
		if want {
			good++
			checkCommitAnswers(t, c)
		} else {
			bad++
			decision, ok1 := impl.DecisionOf(c)
			agrees, ok2 := impl.AgreesIn(c)
			lives, ok3 := impl.LivesIn(c)
			if ok1 || ok2 || ok3 || decision != 0 || agrees || lives {
				t.Fatalf("%v: %d %v %v %v %v %v", c, decision, ok1, agrees, ok2, lives, ok3)
			}
		}
		if _, ok := checkCommitStep(t, c, s); ok {
			did++
		}
		impl.NewCommit([]int{number(), number()})
		impl.PlayCommit([]int{m.below(7), number(), m.below(9)}, slices.Repeat([]impl.CommitStep{s}, m.below(110)))
	}
	if good < 10000 || bad < 10000 || did < 5000 {
		t.Error(good, bad, did)
	}
}
