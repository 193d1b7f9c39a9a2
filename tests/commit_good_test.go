package tests

import (
	"math"
	"regexp"
	"slices"
	"strings"
	"testing"

	"loop.example/g00218/impl"
)

// whatReplicasHave are the letters of nothing, a lock, a copy, done and gone; a replica that is Down has a great one.
const whatReplicasHave = "nlcdg"

// whatIsDecided are the letters of not, yes and no.
const whatIsDecided = ".YN"

// commitOf is a commit as a text: a letter for each replica, shards parted by a stroke, then the decisions of Driver and Recovered. Any other letter is what nobody may have.
func commitOf(text string) impl.Commit {
	parts, decisions, _ := strings.Cut(text, " ")
	c := impl.Commit{Driver: strings.IndexByte(whatIsDecided, decisions[0]), Recovered: strings.IndexByte(whatIsDecided, decisions[1])}
	for _, part := range strings.Split(parts, "/") {
		var s impl.Shard
		for _, letter := range part {
			small := strings.ToLower(string(letter))
			s.Replicas = append(s.Replicas, impl.Replica{Down: string(letter) != small, Has: strings.Index(whatReplicasHave, small)})
		}
		c.Shards = append(c.Shards, s)
	}
	return c
}

func letterOf(letters string, n int) string {
	if n < 0 || n >= len(letters) {
		return "?"
	}
	return letters[n : n+1]
}

func commitText(c impl.Commit) string {
	var parts []string
	for _, s := range c.Shards {
		part := ""
		for _, r := range s.Replicas {
			letter := letterOf(whatReplicasHave, r.Has)
			if r.Down {
				letter = strings.ToUpper(letter)
			}
			part += letter
		}
		parts = append(parts, part)
	}
	return strings.Join(parts, "/") + " " + letterOf(whatIsDecided, c.Driver) + letterOf(whatIsDecided, c.Recovered)
}

var goodCommitText = regexp.MustCompile(`^[nlcdgNLCDG]{1,5}(/[nlcdgNLCDG]{1,5}){0,3} [.YN]{2}$`)

// goodCommitAgain tells the document's words a second time.
func goodCommitAgain(c impl.Commit) bool {
	return goodCommitText.MatchString(commitText(c))
}

func deepCommit(c impl.Commit) impl.Commit {
	c.Shards = slices.Clone(c.Shards)
	for i, s := range c.Shards {
		c.Shards[i].Replicas = slices.Clone(s.Replicas)
	}
	return c
}

func sameCommit(a, b impl.Commit) bool {
	return a.Driver == b.Driver && a.Recovered == b.Recovered && slices.EqualFunc(a.Shards, b.Shards, func(a, b impl.Shard) bool {
		return slices.Equal(a.Replicas, b.Replicas)
	})
}

func isZeroCommit(c impl.Commit) bool {
	return c.Shards == nil && c.Driver == 0 && c.Recovered == 0
}

// goodCommitTexts are at the edges of what is good: few and many shards and replicas, all that one may have, all that are Down, all decisions.
func goodCommitTexts() []string {
	return []string{
		"n ..", "l ..", "c ..", "d ..", "g ..", "N ..", "L ..", "C ..", "D ..", "G ..",
		"nlcdg ..", "NLCDG ..", "NLCDG/nlcdg ..", "nlcdg/NLCDG ..", "NnNnN/n/C ..",
		"nnnnn/nnnnn/nnnnn/nnnnn ..", "n/n/n/n ..", "g/d/c/l ..", "NNNNN/NNNNN/NNNNN/NNNNN ..",
		"n .Y", "n .N", "n Y.", "n YY", "n YN", "n N.", "n NY", "n NN",
		"cc/c Y.", "Nc/dC YY", "g/nN .N", "dg/gd ..", "lc/cl/nn ..",
	}
}

// badCommits differ from good ones in one thing each.
func badCommits() []impl.Commit {
	l := []impl.Commit{{}, {Shards: []impl.Shard{}}, {Shards: []impl.Shard{{}}}, {Driver: 1, Recovered: 1}}
	for _, text := range []string{
		// five shards
		"n/n/n/n/n ..", "nnnnn/nnnnn/nnnnn/nnnnn/nnnnn ..", "c/c/c/c/c Y.",
		// six replicas, in the first shard, one between and the last one
		"nnnnnn ..", "nnnnnn/n ..", "n/nnnnnn/n ..", "n/n/n/cccccc ..", "NNNNNN ..", "nnnnnnnnnn ..",
		// none
		"/n ..", "n//n ..", "n/ ..", "n/n/n/ ..",
		// what nobody has, in the first place, between and in the last one
		"? ..", "?n/n ..", "n?n ..", "n/n? ..", "n/n/n/nnnn? ..", "c? Y.",
	} {
		l = append(l, commitOf(text))
	}
	for _, n := range []int{math.MinInt, -2, -1, 5, 6, 1 << 32, math.MaxInt} {
		for _, at := range [][2]int{{0, 0}, {0, 1}, {1, 0}} {
			c := commitOf("nc/n ..")
			c.Shards[at[0]].Replicas[at[1]].Has = n
			l = append(l, c)
			c = commitOf("NC/N ..")
			c.Shards[at[0]].Replicas[at[1]].Has = n
			l = append(l, c)
		}
	}
	for _, n := range []int{math.MinInt, -2, -1, 3, 4, 1 << 32, math.MaxInt} {
		for _, text := range []string{"n ..", "n .Y", "n NN"} {
			c := commitOf(text)
			c.Driver = n
			l = append(l, c)
			c = commitOf(text)
			c.Recovered = n
			l = append(l, c)
		}
	}
	return l
}

func TestLimitsOfCommits(t *testing.T) {
	if impl.MaxParts != 4 || impl.MaxReplicas != 5 || impl.MaxCommitSteps != 100 {
		t.Error(impl.MaxParts, impl.MaxReplicas, impl.MaxCommitSteps)
	}
	kinds := []int{impl.CommitLock, impl.CommitCopy, impl.CommitTell, impl.CommitAbort, impl.CommitCrash, impl.CommitRecover, impl.CommitApply}
	has := []int{impl.HasNothing, impl.HasLock, impl.HasCopy, impl.HasDone, impl.HasGone}
	decisions := []int{impl.DecidedNot, impl.DecidedYes, impl.DecidedNo}
	if !slices.Equal(kinds, []int{1, 2, 3, 4, 5, 6, 7}) || !slices.Equal(has, upTo(5)) || !slices.Equal(decisions, upTo(3)) {
		t.Error(kinds, has, decisions)
	}
}

func TestGoodCommit(t *testing.T) {
	for _, text := range goodCommitTexts() {
		c := commitOf(text)
		if commitText(c) != text || !goodCommitAgain(c) {
			t.Fatal(text, c)
		}
		if !impl.GoodCommit(c) {
			t.Errorf("%s: not good", text)
		}
	}
	for _, c := range badCommits() {
		if goodCommitAgain(c) {
			t.Fatal(c)
		}
		if impl.GoodCommit(c) {
			t.Errorf("%v: good", c)
		}
	}
}

// What one replica has and whether it is Down matter in no place, and hang on no decision.
func TestGoodCommitAtEachPlace(t *testing.T) {
	for shards := 0; shards <= 6; shards++ {
		for replicas := 0; replicas <= 7; replicas++ {
			c := impl.Commit{}
			for range shards {
				c.Shards = append(c.Shards, impl.Shard{Replicas: make([]impl.Replica, replicas)})
			}
			if good := impl.GoodCommit(c); good != (shards >= 1 && shards <= 4 && replicas >= 1 && replicas <= 5) {
				t.Error(shards, replicas, good)
			}
		}
	}
	for shard := range 4 {
		for node := range 5 {
			for has := -2; has <= 7; has++ {
				for _, down := range []bool{false, true} {
					c := commitOf("nnnnn/nnnnn/nnnnn/nnnnn YN")
					c.Shards[shard].Replicas[node] = impl.Replica{Down: down, Has: has}
					if good := impl.GoodCommit(c); good != (has >= 0 && has <= 4) {
						t.Error(c, good)
					}
				}
			}
		}
	}
	for driver := -2; driver <= 4; driver++ {
		for recovered := -2; recovered <= 4; recovered++ {
			c := commitOf("nl/c ..")
			c.Driver, c.Recovered = driver, recovered
			if good := impl.GoodCommit(c); good != (driver >= 0 && driver <= 2 && recovered >= 0 && recovered <= 2) {
				t.Error(c, good)
			}
		}
	}
}

func TestNewCommit(t *testing.T) {
	for _, c := range []struct {
		replicas []int
		want     string
	}{
		{[]int{1}, "n .."}, {[]int{5}, "nnnnn .."}, {[]int{3}, "nnn .."},
		{[]int{2, 1}, "nn/n .."}, {[]int{1, 2}, "n/nn .."}, {[]int{5, 1, 5}, "nnnnn/n/nnnnn .."},
		{[]int{1, 1, 1, 1}, "n/n/n/n .."}, {[]int{5, 4, 3, 2}, "nnnnn/nnnn/nnn/nn .."}, {[]int{5, 5, 5, 5}, "nnnnn/nnnnn/nnnnn/nnnnn .."},
	} {
		got, ok := impl.NewCommit(c.replicas)
		if !ok || !sameCommit(got, commitOf(c.want)) || !impl.GoodCommit(got) {
			t.Errorf("%v: %v %v, not %s", c.replicas, got, ok, c.want)
		}
	}
	// the memory of the shards lies apart: what is done to one is not done to another
	got, _ := impl.NewCommit([]int{2, 2, 2})
	checkNew(t, commitSpans(got, "new"), nil)
	got.Shards[0].Replicas = append(got.Shards[0].Replicas, impl.Replica{Has: impl.HasGone})
	got.Shards[1].Replicas[0].Has = impl.HasLock
	if commitText(got) != "nng/ln/nn .." {
		t.Error(commitText(got))
	}
}

// refusedReplicas are lists of numbers of replicas of which there is no commit.
func refusedReplicas() [][]int {
	l := [][]int{nil, {}, {1, 1, 1, 1, 1}, {5, 5, 5, 5, 5}, {1, 2, 3, 4, 5, 1}, slices.Repeat([]int{2}, 1000), {0, 0, 0, 0, 0}}
	for _, many := range []int{math.MinInt, -1, 0, 6, 7, 1 << 32, 1<<32 + 1, math.MaxInt} {
		l = append(l, []int{many}, []int{many, 1}, []int{1, many}, []int{2, many, 2}, []int{many, 5, 5, 5}, []int{5, 5, 5, many}, []int{many, many})
	}
	return l
}

func TestNewCommitOfNoCommit(t *testing.T) {
	for _, replicas := range refusedReplicas() {
		if c, ok := impl.NewCommit(replicas); ok || !isZeroCommit(c) {
			t.Error(replicas, c, ok)
		}
	}
}
