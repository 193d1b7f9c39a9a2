package tests

import (
	"regexp"
	"strings"
	"testing"

	"loop.example/g00218/impl"
)

// decisionAgain is the letter of what is decided, the driver's ahead of the recovered one.
func decisionAgain(text string) string {
	_, decisions, _ := strings.Cut(text, " ")
	return (strings.Trim(decisions, ".") + ".")[:1]
}

// agreesAgain tells the document's words a second time.
func agreesAgain(text string) bool {
	parts, decisions, _ := strings.Cut(text, " ")
	decision := decisionAgain(text)
	return decisions != "YN" && decisions != "NY" && (decision == "Y" || !strings.Contains(parts, "d")) && (decision == "N" || !strings.Contains(parts, "g"))
}

var shardOfNobody = regexp.MustCompile(`(^|/)[NLCDG]*(/| )`)

// checkCommitAnswers holds what is told of a good commit against the document's words.
func checkCommitAnswers(t *testing.T, c impl.Commit) {
	t.Helper()
	text := commitText(c)
	if decision, ok := impl.DecisionOf(c); !ok || letterOf(whatIsDecided, decision) != decisionAgain(text) {
		t.Fatalf("%s: %d %v is decided", text, decision, ok)
	}
	if agrees, ok := impl.AgreesIn(c); !ok || agrees != agreesAgain(text) {
		t.Fatalf("%s: agrees: %v %v", text, agrees, ok)
	}
	if lives, ok := impl.LivesIn(c); !ok || lives == shardOfNobody.MatchString(text) {
		t.Fatalf("%s: lives: %v %v", text, lives, ok)
	}
}

func TestDecisionOf(t *testing.T) {
	for decisions, want := range map[string]int{
		"..": impl.DecidedNot,
		"Y.": impl.DecidedYes, "N.": impl.DecidedNo,
		".Y": impl.DecidedYes, ".N": impl.DecidedNo,
		"YY": impl.DecidedYes, "NN": impl.DecidedNo,
		// unlike ones: the driver goes first
		"YN": impl.DecidedYes, "NY": impl.DecidedNo,
	} {
		for _, parts := range []string{"n", "nlcdg/NLCDG", "dd/d", "g/N"} {
			if got, ok := impl.DecisionOf(commitOf(parts + " " + decisions)); !ok || got != want {
				t.Errorf("%s %s: %d %v, not %d", parts, decisions, got, ok, want)
			}
		}
	}
}

func TestAgreesIn(t *testing.T) {
	for text, want := range map[string]bool{
		"n ..": true, "nlc/c ..": true, "cc/c Y.": true, "cc/c N.": true, "cc/c .Y": true, "nl/c .N": true,
		"d Y.": true, "dd/d Y.": true, "dc/nl Y.": true, "d .Y": true, "dd/dc YY": true,
		"g N.": true, "gg/g N.": true, "gc/nl N.": true, "g .N": true, "gg/gc NN": true,
		// unlike decisions, whatever there is
		"n YN": false, "n NY": false, "d YN": false, "g NY": false, "N YN": false, "dd/d NY": false, "DD/d YN": false,
		// done without being decided so
		"d ..": false, "d N.": false, "d .N": false, "d NN": false, "nd/n ..": false, "n/n/n/nnnnd N.": false, "dn/n N.": false, "gd/g N.": false, "g/gd .N": false, "c/d ..": false,
		// gone without being decided so
		"g ..": false, "g Y.": false, "g .Y": false, "g YY": false, "ng/n ..": false, "n/n/n/nnnng Y.": false, "gn/n .Y": false, "dg/d Y.": false, "d/dg YY": false, "c/g ..": false,
		// done and gone
		"dg ..": false, "d/g Y.": false, "d/g .N": false,
		// those that are Down do not count
		"Dn ..": true, "nG ..": true, "DG/n ..": true, "Dg N.": true, "gD/g .N": true, "Gd Y.": true, "dG/d YY": true, "D ..": true, "G Y.": true, "D/G NN": true,
		"DG/d ..": false, "Dd/g N.": false,
	} {
		if got, ok := impl.AgreesIn(commitOf(text)); !ok || got != want {
			t.Errorf("%s: %v %v", text, got, ok)
		}
	}
}

func TestLivesIn(t *testing.T) {
	for text, want := range map[string]bool{
		"n ..": true, "g ..": true, "nlcdg/nlcdg Y.": true, "Nn ..": true, "nN/Nc .N": true, "NNNNn/nNNNN/NNnNN/n YN": true, "CdC ..": true,
		"N ..": false, "C ..": false, "NNNNN Y.": false,
		// in the first place, between and in the last one
		"N/n ..": false, "NN/nnn .Y": false, "n/N ..": false, "nN/NN .N": false, "n/N/n ..": false, "D/n/n/n Y.": false, "n/n/G/n ..": false, "n/n/n/LCDGN NY": false, "N/N/N/N ..": false,
	} {
		if got, ok := impl.LivesIn(commitOf(text)); !ok || got != want {
			t.Errorf("%s: %v %v", text, got, ok)
		}
	}
}

func TestBadCommitsHaveTheZeroAnswer(t *testing.T) {
	for _, c := range badCommits() {
		decision, ok1 := impl.DecisionOf(c)
		agrees, ok2 := impl.AgreesIn(c)
		lives, ok3 := impl.LivesIn(c)
		if ok1 || ok2 || ok3 || decision != 0 || agrees || lives {
			t.Errorf("%v: %d %v %v %v %v %v", c, decision, ok1, agrees, ok2, lives, ok3)
		}
	}
}

func TestCommitsOfAllThatAreSmall(t *testing.T) {
	agreed, lived := 0, 0
	smallCommits(func(c impl.Commit) {
		checkCommitAnswers(t, c)
		if agreesAgain(commitText(c)) {
			agreed++
		}
		if !shardOfNobody.MatchString(commitText(c)) {
			lived++
		}
	})
	for _, text := range goodCommitTexts() {
		checkCommitAnswers(t, commitOf(text))
	}
	if agreed < 5000 || lived < 10000 {
		t.Error(agreed, lived)
	}
}

var keptInEach = regexp.MustCompile(`^[^/ ]*[cd][^/ ]*(/[^/ ]*[cd][^/ ]*)* `)

// checkPlayedCommit asks promise 15 of a commit that was played: all that are up agree, somebody is up in each shard, and what was told as committed is recovered as committed.
func checkPlayedCommit(t *testing.T, c impl.Commit) {
	t.Helper()
	checkCommitAnswers(t, c)
	text := commitText(c)
	agrees, _ := impl.AgreesIn(c)
	lives, _ := impl.LivesIn(c)
	if !agrees || !lives {
		t.Fatalf("%s: agrees %v, lives %v", text, agrees, lives)
	}
	decision, _ := impl.DecisionOf(c)
	parts, _, _ := strings.Cut(text, " ")
	if strings.Contains(parts, "d") && decision != impl.DecidedYes || strings.Contains(parts, "g") && decision != impl.DecidedNo {
		t.Fatalf("%s: %d is decided", text, decision)
	}
	if strings.ContainsAny(parts, "LCDG") {
		t.Fatalf("%s: one that is Down has something", text)
	}
	recovered, ok := impl.StepCommit(c, commitStep("r"))
	if ok != (c.Recovered == impl.DecidedNot) {
		t.Fatalf("%s: recovered %v", text, ok)
	}
	if ok && decision != impl.DecidedNot && recovered.Recovered != decision {
		t.Fatalf("%s is recovered as %s", text, commitText(recovered))
	}
	if c.Driver != impl.DecidedYes {
		return
	}
	if !keptInEach.MatchString(text) {
		t.Fatalf("%s: told as committed, and not there any more", text)
	}
	if !ok {
		recovered = c
	}
	// a recovery that did not hear of the driver would find it too
	c.Driver, c.Recovered = impl.DecidedNot, impl.DecidedNot
	alone, _ := impl.StepCommit(c, commitStep("r"))
	if recovered.Recovered != impl.DecidedYes || alone.Recovered != impl.DecidedYes {
		t.Fatalf("%s is recovered as %s and as %s", text, commitText(recovered), commitText(alone))
	}
}

// checkFollows asks whether what was decided stays so.
func checkFollows(t *testing.T, ahead, left impl.Commit) {
	t.Helper()
	before, _ := impl.DecisionOf(ahead)
	behind, _ := impl.DecisionOf(left)
	if before != impl.DecidedNot && before != behind || ahead.Driver != impl.DecidedNot && left.Driver != ahead.Driver || ahead.Recovered != impl.DecidedNot && left.Recovered != ahead.Recovered {
		t.Fatalf("%s became %s", commitText(ahead), commitText(left))
	}
	if ahead.Recovered != impl.DecidedNot && left.Driver != ahead.Driver {
		t.Fatalf("%s became %s: the driver decides behind a recovery", commitText(ahead), commitText(left))
	}
}

// Promise 15, for many drawn plays, behind each step.
func TestPlayedCommitsAgree(t *testing.T) {
	told, toldAndCrashed, recoveredAlone, both, gone, done, refused := 0, 0, 0, 0, 0, 0, 0
	for seed := range 6000 {
		replicas, l := somePlayOfCommit(uint64(seed) + 5000)
		c, _ := impl.NewCommit(replicas)
		checkPlayedCommit(t, c)
		for _, s := range l {
			left, ok := checkCommitStep(t, c, s)
			if !ok {
				refused++
				continue
			}
			checkPlayedCommit(t, left)
			checkFollows(t, c, left)
			if s.Kind == impl.CommitCrash && left.Driver == impl.DecidedYes {
				toldAndCrashed++
			}
			if s.Kind == impl.CommitRecover && left.Driver == impl.DecidedNot && left.Recovered == impl.DecidedYes {
				recoveredAlone++
			}
			c = left
		}
		text := commitText(c)
		parts, decisions, _ := strings.Cut(text, " ")
		if decisions[0] == 'Y' {
			told++
		}
		if decisions == "YY" {
			both++
		}
		if strings.Contains(parts, "d") {
			done++
		}
		if strings.Contains(parts, "g") {
			gone++
		}
		played, _, ok := impl.PlayCommit(replicas, l)
		if !ok || commitText(played) != text {
			t.Fatalf("%v: %v: %s %v, not %s", replicas, l, commitText(played), ok, text)
		}
	}
	// the plays are no plays if nothing is told, nobody crashes behind that, or all of them end alike
	if told < 1000 || toldAndCrashed < 300 || recoveredAlone < 100 || both < 300 || done < 1000 || gone < 1000 || refused < 20000 {
		t.Error(told, toldAndCrashed, recoveredAlone, both, done, gone, refused)
	}
}

// Whatever crashes follow what was told, in whatever order, a recovery finds it.
func TestWhatWasToldIsRecoveredBehindAnyCrashes(t *testing.T) {
	crashed := 0
	for seed := range 3000 {
		m := mixer(seed)
		var replicas []int
		for range 1 + m.below(4) {
			replicas = append(replicas, 1+m.below(5))
		}
		c := commitTold(&m, replicas)
		for range m.below(40) {
			s := impl.CommitStep{Kind: impl.CommitCrash + 2*m.below(2), Shard: m.below(len(replicas)), Node: m.below(5)}
			if left, ok := checkCommitStep(t, c, s); ok {
				c = left
				crashed++
			}
			checkPlayedCommit(t, c)
		}
		left, ok := checkCommitStep(t, c, commitStep("r"))
		if !ok || left.Recovered != impl.DecidedYes {
			t.Fatalf("%s: %s %v", commitText(c), commitText(left), ok)
		}
	}
	if crashed < 10000 {
		t.Error(crashed)
	}
}

// commitTold is one that was told as committed, some of which crashed ahead of that.
func commitTold(m *mixer, replicas []int) impl.Commit {
	c, _ := impl.NewCommit(replicas)
	for range m.below(6) {
		if left, ok := impl.StepCommit(c, impl.CommitStep{Kind: impl.CommitCrash, Shard: m.below(len(replicas)), Node: m.below(5)}); ok {
			c = left
		}
	}
	for _, kind := range []int{impl.CommitLock, impl.CommitCopy, impl.CommitTell} {
		for _, s := range allCommitSteps(c) {
			if left, ok := impl.StepCommit(c, s); ok && s.Kind == kind {
				c = left
			}
		}
	}
	if c.Driver != impl.DecidedYes {
		panic(commitText(c))
	}
	return c
}

// allCommits goes through all that may come of so many replicas.
func allCommits(t *testing.T, replicas []int, see func(c impl.Commit)) int {
	start, ok := impl.NewCommit(replicas)
	if !ok {
		t.Fatal(replicas)
	}
	seen := map[string]int{commitText(start): 1}
	work := []impl.Commit{start}
	for len(work) > 0 {
		c := work[len(work)-1]
		work = work[:len(work)-1]
		see(c)
		for _, s := range allCommitSteps(c) {
			left, ok := checkCommitStep(t, c, s)
			if !ok {
				continue
			}
			checkFollows(t, c, left)
			if text := commitText(left); seen[text] == 0 {
				seen[text] = 1
				work = append(work, left)
			}
		}
	}
	return len(seen)
}

// Promise 15, for all that may come of a few replicas.
func TestOfAllSmallPlaysCommitsAgree(t *testing.T) {
	for _, replicas := range [][]int{{1}, {2}, {5}, {1, 1}, {2, 1}, {1, 2}, {2, 2}, {3, 1}, {1, 1, 1}, {2, 1, 1}, {1, 1, 1, 1}} {
		ends := map[string]int{}
		many := allCommits(t, replicas, func(c impl.Commit) {
			checkPlayedCommit(t, c)
			_, decisions, _ := strings.Cut(commitText(c), " ")
			ends[decisions]++
		})
		if many < 15 || len(ends) != 7 || ends["YN"]+ends["NY"] != 0 {
			t.Error(replicas, many, ends)
		}
	}
}
