package tests

import (
	"slices"
	"testing"

	"loop.example/g00218/impl"
)

// somePlayOfCommit is a play in which most steps do something: it comes to be told or not, and crashes and recoveries come in between.
func somePlayOfCommit(seed uint64) ([]int, []impl.CommitStep) {
	m := mixer(seed)
	var replicas []int
	for range 1 + m.below(4) {
		replicas = append(replicas, 1+m.below(4)+m.below(9)/8)
	}
	c, _ := impl.NewCommit(replicas)
	// some plays have hardly a crash and no hurry to decide, so that they come to be told
	calm := 1 + m.below(3)*m.below(30)
	var l []impl.CommitStep
	for range 30 + m.below(71) {
		s := nextCommitStep(&m, c, calm)
		l = append(l, s)
		if left, ok := impl.StepCommit(c, s); ok {
			c = left
		}
	}
	return replicas, l
}

// drawnCommitStep is one of any kind, mostly of a replica that there is.
func drawnCommitStep(m *mixer, c impl.Commit) impl.CommitStep {
	s := impl.CommitStep{Kind: 1 + m.below(7), Shard: m.below(len(c.Shards)), Node: m.below(5)}
	if m.below(12) == 0 {
		s = impl.CommitStep{Kind: m.below(10) - 1, Shard: m.below(6) - 1, Node: m.below(8) - 1}
	}
	return s
}

// nextCommitStep is mostly one that brings the commit on: the first that does something, from a replica drawn on.
func nextCommitStep(m *mixer, c impl.Commit, calm int) impl.CommitStep {
	switch {
	case m.below(8*calm) == 0:
		return impl.CommitStep{Kind: impl.CommitCrash, Shard: m.below(len(c.Shards)), Node: m.below(5)}
	case m.below(30*calm) == 0:
		return impl.CommitStep{Kind: impl.CommitRecover}
	case m.below(60*calm) == 0:
		return impl.CommitStep{Kind: impl.CommitAbort}
	case m.below(12) == 0:
		return drawnCommitStep(m, impl.Commit{Shards: c.Shards})
	case m.below(6) == 0:
		return impl.CommitStep{Kind: impl.CommitTell}
	}
	var l []impl.CommitStep
	for _, s := range allCommitSteps(c) {
		if s.Kind == impl.CommitLock || s.Kind == impl.CommitCopy || s.Kind == impl.CommitApply && m.below(3) == 0 {
			l = append(l, s)
		}
	}
	if len(l) == 0 {
		return impl.CommitStep{Kind: impl.CommitTell}
	}
	at := m.below(len(l))
	for _, s := range slices.Concat(l[at:], l[:at]) {
		if _, ok := impl.StepCommit(c, s); ok {
			return s
		}
	}
	return impl.CommitStep{Kind: impl.CommitTell}
}

// didOf is a list of what did something as a text: a letter for each step.
func didOf(did []bool) string {
	text := ""
	for _, d := range did {
		text += map[bool]string{true: "+", false: "-"}[d]
	}
	return text
}

func TestPlayCommit(t *testing.T) {
	for _, c := range []struct {
		replicas []int
		steps    string
		did      string
		left     string
	}{
		{[]int{1}, "", "", "n .."},
		{[]int{2, 3}, "", "", "nn/nnn .."},
		// locked, copied, told and applied
		{[]int{2, 1}, "l0.0 l1.0 c0.0 c0.1 c1.0 t p0.0 p0.1 p1.0", "+++++++++", "dd/d Y."},
		// each thing too soon, and again
		{[]int{2, 1}, "c0.0 t p0.0 l0.1 l0.0 l0.0 c0.0 l1.0 c0.1 t c0.0 c0.0 c1.0 t t a c0.1 l0.0", "----+--++-+-++----", "cc/c Y."},
		// told, then the first one crashes and another one recovers
		{[]int{2, 1}, "l0.0 l1.0 c0.0 c0.1 t c1.0 t x0.0 r p0.1 p0.0 p1.0", "++++-+++++-+", "Nd/d YY"},
		// a recovery ahead of what would have been told ends what the driver may do: with copies in each shard it is committed
		{[]int{2, 1}, "l0.0 l1.0 c0.0 c1.0 r c0.1 t a l0.1 p0.1 p0.0 p1.0 r", "+++++----+++-", "dd/d .Y"},
		// and without it is not
		{[]int{2, 1}, "l0.0 l1.0 c0.0 c0.1 r c1.0 t a p0.1 p0.0 p1.0 r", "+++++---+++-", "gg/g .N"},
		{[]int{1}, "r t a l0.0 c0.0", "+----", "n .N"},
		// the only one with a copy is lost
		{[]int{2, 1}, "l0.0 l1.0 c0.0 c1.0 x0.0 t r", "+++++-+", "Nn/c .N"},
		// who is primary then locks again, and it goes on
		{[]int{3, 1}, "l0.0 l1.0 c0.0 x0.0 c0.1 c1.0 l0.2 l0.1 c0.1 c0.2 t c1.0 t p0.0 p0.2", "++++---+++-++-+", "Ncd/c Y."},
		// the next primary has a copy already
		{[]int{2, 1}, "l0.0 l1.0 c0.1 x0.0 l0.1 c1.0 t", "++++-++", "Nc/c Y."},
		// given up by the driver
		{[]int{2, 1}, "l0.0 a l1.0 c0.0 t a r t p0.0 p1.0 p0.1 p0.1 x0.0 x0.1", "++----+-+++-+-", "Ng/g NN"},
		// given up with all copies there: a recovery takes that over
		{[]int{1, 1}, "l0.0 l1.0 c0.0 c1.0 a t r p0.0", "+++++-++", "g/c NN"},
		// applied ahead of the recovery, which finds what is done
		{[]int{2, 2}, "l0.0 l1.0 c0.0 c1.0 c0.1 c1.1 t p0.0 p1.1 x0.1 x1.0 r p0.0 p1.1", "++++++++++++--", "dN/Nd YY"},
		// nobody is left to be told but those that crashed
		{[]int{2}, "x0.0 x0.1 x0.0 l0.1 c0.1 x0.1 t", "+--++-+", "Nc Y."},
	} {
		left, did, ok := impl.PlayCommit(c.replicas, commitSteps(c.steps))
		if !ok || didOf(did) != c.did || commitText(left) != c.left {
			t.Errorf("%v: %s: %s %v, %s is left, not %s and %s", c.replicas, c.steps, didOf(did), ok, commitText(left), c.did, c.left)
		}
	}
}

func TestPlayCommitOfWhatNewCommitRefuses(t *testing.T) {
	for _, replicas := range refusedReplicas() {
		for _, l := range [][]impl.CommitStep{nil, commitSteps("a"), commitSteps("l0.0 c0.0 t r")} {
			if c, did, ok := impl.PlayCommit(replicas, l); ok || did != nil || !isZeroCommit(c) {
				t.Error(replicas, l, c, did, ok)
			}
		}
	}
	for _, replicas := range [][]int{{1}, {5}, {1, 1, 1, 1}, {5, 5, 5, 5}} {
		want, _ := impl.NewCommit(replicas)
		for _, l := range [][]impl.CommitStep{nil, {}, commitSteps("t"), commitSteps("x0.9 c0.0 t p0.0")} {
			if c, did, ok := impl.PlayCommit(replicas, l); !ok || len(did) != len(l) || !sameCommit(c, want) {
				t.Error(replicas, l, c, did, ok)
			}
		}
	}
}

func TestPlayCommitHasALimit(t *testing.T) {
	for _, text := range []string{"l0.0", "t", "l0.0 l1.0 c0.0 c1.0 t", "r", "x0.0 p9.9"} {
		l := slices.Repeat(commitSteps(text), 110)
		for _, many := range []int{0, 1, 99, 100} {
			if c, did, ok := impl.PlayCommit([]int{2, 1}, l[:many]); !ok || len(did) != many || len(c.Shards) != 2 {
				t.Error(many, c, did, ok)
			}
		}
		for _, many := range []int{101, 102, 110} {
			if c, did, ok := impl.PlayCommit([]int{2, 1}, l[:many]); ok || did != nil || !isZeroCommit(c) {
				t.Error(many, c, did, ok)
			}
		}
	}
	// the last step that there is room for counts
	l := slices.Concat(slices.Repeat(commitSteps("t"), 99), commitSteps("a"))
	if c, did, ok := impl.PlayCommit([]int{1}, l); !ok || len(did) != 100 || did[98] || !did[99] || commitText(c) != "n N." {
		t.Error(c, did, ok)
	}
}

// A play is its steps one by one, each that does something.
func TestPlayCommitIsItsSteps(t *testing.T) {
	for seed := range 1000 {
		replicas, l := somePlayOfCommit(uint64(seed))
		c, _ := impl.NewCommit(replicas)
		var want []bool
		for i, s := range l {
			left, ok := checkCommitStep(t, c, s)
			if ok {
				c = left
			}
			want = append(want, ok)
			if i%30 == 7 || i == len(l)-1 {
				played, did, ok := impl.PlayCommit(replicas, l[:i+1])
				if !ok || !sameCommit(played, c) || !slices.Equal(did, want) {
					t.Fatalf("%v: %v: %s %v, not %s %v", replicas, l[:i+1], commitText(played), did, commitText(c), want)
				}
			}
		}
	}
}
