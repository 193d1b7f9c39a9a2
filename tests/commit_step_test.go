package tests

import (
	"fmt"
	"math"
	"strings"
	"testing"

	"loop.example/g00218/impl"
)

// commitSteps are steps as a text: l0.1 locks node 1 of shard 0, c0.1 copies to it, t tells, a aborts, x0.1 crashes it, r recovers, p0.1 applies there.
func commitSteps(text string) []impl.CommitStep {
	var l []impl.CommitStep
	for _, word := range strings.Fields(text) {
		s := impl.CommitStep{Kind: 1 + strings.IndexByte("lctaxrp", word[0])}
		var err error
		if len(word) > 1 {
			_, err = fmt.Sscanf(word[1:], "%d.%d", &s.Shard, &s.Node)
		}
		if err != nil || s.Kind == 0 {
			panic(word)
		}
		l = append(l, s)
	}
	return l
}

func commitStep(text string) impl.CommitStep {
	return commitSteps(text)[0]
}

const upLetters, downLetters = "nlcdg", "NLCDG"

// commitStepAgain tells the document's words a second time, over a good commit as a text; what does nothing leaves no text.
func commitStepAgain(text string, s impl.CommitStep) string {
	parts, decisions, _ := strings.Cut(text, " ")
	shards := strings.Split(parts, "/")
	open := decisions == ".."
	letter := byte(' ')
	if s.Shard >= 0 && s.Shard < len(shards) && s.Node >= 0 && s.Node < len(shards[s.Shard]) {
		letter = shards[s.Shard][s.Node]
	}
	has := func(letters string) bool { return strings.IndexByte(letters, letter) >= 0 }
	put := func(letter string) string {
		old := shards[s.Shard]
		shards[s.Shard] = old[:s.Node] + letter + old[s.Node+1:]
		return strings.Join(shards, "/") + " " + decisions
	}
	all := func(is func(shard string) bool) bool {
		for _, shard := range shards {
			if !is(shard) {
				return false
			}
		}
		return true
	}
	switch {
	case s.Kind == 1 && open && has("n") && strings.IndexAny(shards[s.Shard], upLetters) == s.Node:
		return put("l")
	case s.Kind == 2 && open && has("nl") && all(func(shard string) bool {
		up := strings.TrimLeft(shard, downLetters)
		return strings.HasPrefix(up, "l") || strings.HasPrefix(up, "c")
	}):
		return put("c")
	case s.Kind == 3 && open && all(func(shard string) bool {
		return strings.Trim(shard, "c"+downLetters) == "" && strings.Contains(shard, "c")
	}):
		return parts + " Y."
	case s.Kind == 4 && open:
		return parts + " N."
	case s.Kind == 5 && has(upLetters) && len(strings.Trim(shards[s.Shard], downLetters)) > 1:
		return put("N")
	case s.Kind == 6 && decisions[1] == '.':
		return parts + " " + decisions[:1] + recoveredAgain(decisions[:1], all(func(shard string) bool { return strings.ContainsAny(shard, "cd") }))
	case s.Kind == 7 && !open && has("nlc"):
		return put(map[byte]string{'Y': "d", 'N': "g"}[strings.Trim(decisions, ".")[0]])
	}
	return ""
}

func recoveredAgain(driver string, found bool) string {
	switch {
	case driver != ".":
		return driver
	case found:
		return "Y"
	}
	return "N"
}

// checkCommitStep holds a step against the document's words.
func checkCommitStep(t *testing.T, c impl.Commit, s impl.CommitStep) (impl.Commit, bool) {
	t.Helper()
	left, ok := impl.StepCommit(c, s)
	want := ""
	if text := commitText(c); goodCommitText.MatchString(text) {
		want = commitStepAgain(text, s)
	}
	switch {
	case ok != (want != ""):
		t.Fatalf("%s: %v: %s %v, not %q", commitText(c), s, commitText(left), ok, want)
	case !ok && !isZeroCommit(left):
		t.Fatalf("%s: %v: %v", commitText(c), s, left)
	case ok && (commitText(left) != want || !impl.GoodCommit(left)):
		t.Fatalf("%s: %v: %s, not %s", commitText(c), s, commitText(left), want)
	}
	return left, ok
}

// checkCommitCases holds steps against what they leave, told as commit, step and what is left, which is a stroke where nothing is done.
func checkCommitCases(t *testing.T, cases [][3]string) {
	t.Helper()
	for _, x := range cases {
		c := commitOf(x[0])
		if !impl.GoodCommit(c) {
			t.Fatalf("%s is not good", x[0])
		}
		left, ok := checkCommitStep(t, c, commitStep(x[1]))
		if got := commitText(left); ok != (x[2] != "-") || ok && got != x[2] {
			t.Errorf("%s: %s: %s %v, not %s", x[0], x[1], got, ok, x[2])
		}
	}
}

func TestStepCommitLocks(t *testing.T) {
	checkCommitCases(t, [][3]string{
		{"n ..", "l0.0", "l .."},
		{"nn/n ..", "l0.0", "ln/n .."},
		{"nn/n ..", "l1.0", "nn/l .."},
		{"nnnnn/nnnnn/nnnnn/nnnnn ..", "l3.0", "nnnnn/nnnnn/nnnnn/lnnnn .."},
		// decided, by the driver or by a recovery
		{"nn/n Y.", "l0.0", "-"}, {"nn/n N.", "l0.0", "-"}, {"nn/n .Y", "l0.0", "-"}, {"nn/n .N", "l0.0", "-"}, {"nn/n YY", "l0.0", "-"}, {"nn/n NY", "l0.0", "-"},
		// not the primary
		{"nn/n ..", "l0.1", "-"}, {"lnn/n ..", "l0.1", "-"}, {"cnn/n ..", "l0.2", "-"}, {"gn/n ..", "l0.1", "-"},
		// one that is Down
		{"Nn/n ..", "l0.0", "-"}, {"N/n ..", "l0.0", "-"}, {"nN/n ..", "l0.1", "-"}, {"NN ..", "l0.1", "-"}, {"LCDGN ..", "l0.4", "-"},
		// the first one is Down, so that the next one is the primary, or the last one
		{"Nn/n ..", "l0.1", "Nl/n .."}, {"Nnn/n ..", "l0.1", "Nln/n .."}, {"Nnn/n ..", "l0.2", "-"}, {"NNNNn/n ..", "l0.4", "NNNNl/n .."},
		{"nNn/n ..", "l0.0", "lNn/n .."}, {"nNn/n ..", "l0.2", "-"}, {"LCDGn ..", "l0.4", "LCDGl .."}, {"n/NNn ..", "l1.2", "n/NNl .."}, {"Lc/n ..", "l0.1", "-"},
		// what else the primary has
		{"ln/n ..", "l0.0", "-"}, {"cn/n ..", "l0.0", "-"}, {"dn/n ..", "l0.0", "-"}, {"gn/n ..", "l0.0", "-"}, {"Nl/n ..", "l0.1", "-"}, {"Nd/n ..", "l0.1", "-"},
		// whatever others have, and whoever is Down there
		{"nlcdg/g/N ..", "l0.0", "llcdg/g/N .."}, {"N/n ..", "l1.0", "N/l .."},
	})
}

func TestStepCommitCopies(t *testing.T) {
	checkCommitCases(t, [][3]string{
		{"l ..", "c0.0", "c .."},
		{"ln/l ..", "c0.0", "cn/l .."}, {"ln/l ..", "c0.1", "lc/l .."}, {"ln/l ..", "c1.0", "ln/c .."},
		{"cn/l ..", "c0.1", "cc/l .."}, {"cc/l ..", "c1.0", "cc/c .."}, {"ll/l ..", "c0.1", "lc/l .."},
		{"lnnnn/c/l/cnnnn ..", "c3.4", "lnnnn/c/l/cnnnc .."},
		// decided, by the driver or by a recovery
		{"ln/l Y.", "c0.0", "-"}, {"ln/l N.", "c0.1", "-"}, {"ln/l .Y", "c0.0", "-"}, {"ln/l .N", "c1.0", "-"}, {"ln/l YY", "c0.0", "-"}, {"ln/l YN", "c0.0", "-"},
		// one that is Down
		{"lN/l ..", "c0.1", "-"}, {"Nl/l ..", "c0.0", "-"}, {"lL/l ..", "c0.1", "-"}, {"lN/l ..", "c0.0", "cN/l .."},
		// what else the node has
		{"cn/l ..", "c0.0", "-"}, {"ld/l ..", "c0.1", "-"}, {"lg/l ..", "c0.1", "-"}, {"lc/l ..", "c0.1", "-"}, {"ldgc/l ..", "c0.0", "cdgc/l .."},
		// the primary of its shard has neither a lock nor a copy
		{"n ..", "c0.0", "-"}, {"nn ..", "c0.1", "-"}, {"nl/l ..", "c0.1", "-"}, {"dn/l ..", "c0.1", "-"}, {"gl/l ..", "c0.1", "-"}, {"d/l ..", "c0.0", "-"},
		// that of another one
		{"ln/n ..", "c0.0", "-"}, {"ln/d ..", "c0.0", "-"}, {"ln/g ..", "c0.1", "-"}, {"n/ln ..", "c1.0", "-"}, {"g/ln ..", "c1.1", "-"}, {"l/l/l/n ..", "c0.0", "-"}, {"l/n/l/l ..", "c3.0", "-"}, {"l/ncccc ..", "c0.0", "-"}, {"c/dcccc ..", "c0.0", "-"},
		// a primary that is not the first one
		{"Nl/l ..", "c0.1", "Nc/l .."}, {"Nln/l ..", "c0.2", "Nlc/l .."}, {"Nn/l ..", "c0.1", "-"}, {"Nn/l ..", "c1.0", "-"}, {"Nc/NNl ..", "c1.2", "Nc/NNc .."}, {"Lnc/l ..", "c1.0", "-"}, {"Cl/l ..", "c1.0", "Cl/c .."},
		// others than primaries of another shard may have anything
		{"ln/lndg ..", "c0.1", "lc/lndg .."}, {"ln/Dlndg ..", "c0.1", "lc/Dlndg .."},
		// no primary
		{"l/N ..", "c0.0", "-"}, {"N/l ..", "c1.0", "-"}, {"l/C ..", "c0.0", "-"}, {"LC/l ..", "c1.0", "-"}, {"l/l/NNNNN/l ..", "c0.0", "-"}, {"N ..", "c0.0", "-"},
	})
}

func TestStepCommitTells(t *testing.T) {
	checkCommitCases(t, [][3]string{
		{"c ..", "t", "c Y."}, {"cc/c ..", "t", "cc/c Y."}, {"ccccc/ccccc/ccccc/ccccc ..", "t", "ccccc/ccccc/ccccc/ccccc Y."},
		// one that is Down has less, or anything
		{"cN/c ..", "t", "cN/c Y."}, {"Nc/c ..", "t", "Nc/c Y."}, {"NNcNN/Nc ..", "t", "NNcNN/Nc Y."}, {"cL/Gc/DcC ..", "t", "cL/Gc/DcC Y."},
		// decided
		{"cc/c Y.", "t", "-"}, {"cc/c N.", "t", "-"}, {"cc/c .Y", "t", "-"}, {"cc/c .N", "t", "-"}, {"cc/c YY", "t", "-"}, {"cc/c NN", "t", "-"},
		// one that is up has less than a copy, or has it no more
		{"n ..", "t", "-"}, {"l ..", "t", "-"}, {"d ..", "t", "-"}, {"g ..", "t", "-"},
		{"cn/c ..", "t", "-"}, {"cl/c ..", "t", "-"}, {"cd/c ..", "t", "-"}, {"cg/c ..", "t", "-"},
		{"nc/c ..", "t", "-"}, {"lc/c ..", "t", "-"}, {"cc/n ..", "t", "-"}, {"cc/l ..", "t", "-"}, {"cc/cccn ..", "t", "-"}, {"c/c/c/ccccl ..", "t", "-"}, {"nc/cc/cc ..", "t", "-"}, {"Cn/c ..", "t", "-"},
		// nobody is up in one shard
		{"N ..", "t", "-"}, {"C ..", "t", "-"}, {"CC/c ..", "t", "-"}, {"c/C ..", "t", "-"}, {"c/NN/c ..", "t", "-"}, {"CCCCC/CCCCC ..", "t", "-"},
	})
}

func TestStepCommitAborts(t *testing.T) {
	checkCommitCases(t, [][3]string{
		{"n ..", "a", "n N."}, {"cc/c ..", "a", "cc/c N."}, {"nlcdg/NLCDG ..", "a", "nlcdg/NLCDG N."}, {"N/N/N/N ..", "a", "N/N/N/N N."},
		{"cc/c Y.", "a", "-"}, {"cc/c N.", "a", "-"}, {"cc/c .Y", "a", "-"}, {"cc/c .N", "a", "-"}, {"n YY", "a", "-"}, {"n NN", "a", "-"}, {"n YN", "a", "-"},
	})
}

func TestStepCommitCrashes(t *testing.T) {
	checkCommitCases(t, [][3]string{
		{"nn ..", "x0.0", "Nn .."}, {"nn ..", "x0.1", "nN .."}, {"nn/nn ..", "x1.0", "nn/Nn .."},
		// it forgets whatever it had
		{"ln ..", "x0.0", "Nn .."}, {"cn ..", "x0.0", "Nn .."}, {"dn Y.", "x0.0", "Nn Y."}, {"gn N.", "x0.0", "Nn N."}, {"nlcdg YN", "x0.3", "nlcNg YN"}, {"nlcdg .N", "x0.4", "nlcdN .N"},
		// whatever is decided
		{"cc Y.", "x0.1", "cN Y."}, {"cc .Y", "x0.1", "cN .Y"}, {"cc NN", "x0.1", "cN NN"},
		// the last one that is up of its shard, whatever it has, and however many are up in others
		{"n ..", "x0.0", "-"}, {"Nc ..", "x0.1", "-"}, {"cN ..", "x0.0", "-"}, {"NNNNd/ddddd Y.", "x0.4", "-"}, {"gNNNN/n ..", "x0.0", "-"}, {"CcC/cc ..", "x0.1", "-"}, {"nn/n ..", "x1.0", "-"},
		// the last but one
		{"NcNcN/c ..", "x0.1", "NNNcN/c .."}, {"NcNcN/c ..", "x0.3", "NcNNN/c .."},
		// one that is Down, with something even
		{"Nnn ..", "x0.0", "-"}, {"nNn ..", "x0.1", "-"}, {"nnC ..", "x0.2", "-"}, {"N/nn ..", "x0.0", "-"}, {"NN ..", "x0.0", "-"},
	})
}

func TestStepCommitRecovers(t *testing.T) {
	checkCommitCases(t, [][3]string{
		// what the driver has decided is taken over, whatever there is
		{"cc/c Y.", "r", "cc/c YY"}, {"nn/n Y.", "r", "nn/n YY"}, {"N Y.", "r", "N YY"}, {"g/g Y.", "r", "g/g YY"},
		{"cc/c N.", "r", "cc/c NN"}, {"nn/n N.", "r", "nn/n NN"}, {"dd N.", "r", "dd NN"}, {"N N.", "r", "N NN"},
		// it has decided nothing: some copy that is up in each shard
		{"c ..", "r", "c .Y"}, {"d ..", "r", "d .Y"}, {"cn/nc ..", "r", "cn/nc .Y"}, {"ln/nlgdn ..", "r", "ln/nlgdn .N"}, {"gc/nlgdn ..", "r", "gc/nlgdn .Y"}, {"NNNNc/Nd/dN/c ..", "r", "NNNNc/Nd/dN/c .Y"},
		// none in one
		{"n ..", "r", "n .N"}, {"l ..", "r", "l .N"}, {"g ..", "r", "g .N"}, {"c/n ..", "r", "c/n .N"}, {"n/c ..", "r", "n/c .N"}, {"cc/cc/cc/lg ..", "r", "cc/cc/cc/lg .N"}, {"d/l/d ..", "r", "d/l/d .N"},
		// one that is Down does not count, and a shard without anybody has none
		{"C ..", "r", "C .N"}, {"Cn ..", "r", "Cn .N"}, {"c/Dl ..", "r", "c/Dl .N"}, {"c/C ..", "r", "c/C .N"}, {"CD/d ..", "r", "CD/d .N"}, {"Cnc ..", "r", "Cnc .Y"}, {"N/N ..", "r", "N/N .N"},
		// once is enough
		{"c .Y", "r", "-"}, {"n .N", "r", "-"}, {"c YY", "r", "-"}, {"c NN", "r", "-"}, {"c YN", "r", "-"}, {"c NY", "r", "-"}, {"n .Y", "r", "-"}, {"c .N", "r", "-"},
	})
}

func TestStepCommitApplies(t *testing.T) {
	checkCommitCases(t, [][3]string{
		{"c Y.", "p0.0", "d Y."}, {"c N.", "p0.0", "g N."}, {"c .Y", "p0.0", "d .Y"}, {"c .N", "p0.0", "g .N"}, {"c YY", "p0.0", "d YY"}, {"c NN", "p0.0", "g NN"},
		// the driver goes first
		{"c YN", "p0.0", "d YN"}, {"c NY", "p0.0", "g NY"},
		// with less than a copy too
		{"n/l Y.", "p0.0", "d/l Y."}, {"n/l N.", "p1.0", "n/g N."}, {"cl/n .N", "p0.1", "cg/n .N"}, {"nnnnl/n/n/nnnnn .Y", "p3.4", "nnnnl/n/n/nnnnd .Y"},
		// nothing is decided
		{"c ..", "p0.0", "-"}, {"n ..", "p0.0", "-"}, {"d ..", "p0.0", "-"},
		// one that is Down
		{"cN Y.", "p0.1", "-"}, {"Cc N.", "p0.0", "-"}, {"N .Y", "p0.0", "-"}, {"Nc/c .N", "p0.1", "Ng/c .N"},
		// once is enough, by the driver's and by the recovered decision, by the same and by another one
		{"d Y.", "p0.0", "-"}, {"d .Y", "p0.0", "-"}, {"d YY", "p0.0", "-"}, {"g N.", "p0.0", "-"}, {"g .N", "p0.0", "-"}, {"g NN", "p0.0", "-"},
		{"g Y.", "p0.0", "-"}, {"d N.", "p0.0", "-"}, {"g .Y", "p0.0", "-"}, {"d .N", "p0.0", "-"}, {"dg/c YN", "p0.1", "-"},
	})
}

// Twice, as steps one behind the other.
func TestStepCommitAppliesOnce(t *testing.T) {
	for _, decisions := range []string{"Y.", "N.", ".Y", ".N", "YY", "NN"} {
		c := commitOf("cn/l " + decisions)
		for _, word := range []string{"p0.0", "p0.1", "p1.0"} {
			left, ok := checkCommitStep(t, c, commitStep(word))
			if !ok {
				t.Fatal(commitText(c), word)
			}
			if again, ok := checkCommitStep(t, left, commitStep(word)); ok {
				t.Error(commitText(left), word, commitText(again))
			}
			c = left
		}
	}
}

func TestStepCommitOfNoKind(t *testing.T) {
	for _, text := range goodCommitTexts() {
		for _, kind := range []int{math.MinInt, -1, 0, 8, 9, 1 << 32, 1<<32 + 1, math.MaxInt} {
			for _, at := range [][2]int{{0, 0}, {0, 1}, {1, 0}, {-1, 0}, {9, 9}} {
				if left, ok := checkCommitStep(t, commitOf(text), impl.CommitStep{Kind: kind, Shard: at[0], Node: at[1]}); ok {
					t.Error(text, kind, left)
				}
			}
		}
	}
}

// A Shard or Node that is none refuses a step of a replica, and does not matter to all others.
func TestStepCommitOfNoReplica(t *testing.T) {
	ready := map[int]string{
		impl.CommitLock: "nn/nnn ..", impl.CommitCopy: "ln/lnn ..", impl.CommitTell: "cc/ccc ..", impl.CommitAbort: "nl/cdg ..",
		impl.CommitCrash: "cc/ccc ..", impl.CommitRecover: "cc/cNc ..", impl.CommitApply: "cc/ccc Y.",
	}
	none := [][2]int{{0, 2}, {1, 3}, {2, 0}, {3, 0}, {4, 1}}
	for _, n := range []int{math.MinInt, -2, -1, 5, 1 << 32, math.MaxInt} {
		none = append(none, [2]int{0, n}, [2]int{1, n}, [2]int{n, 0}, [2]int{n, 1}, [2]int{n, n})
	}
	for kind, text := range ready {
		want, ok := checkCommitStep(t, commitOf(text), impl.CommitStep{Kind: kind})
		if !ok {
			t.Fatal(text, kind)
		}
		ofAll := kind == impl.CommitTell || kind == impl.CommitAbort || kind == impl.CommitRecover
		for _, at := range none {
			left, ok := checkCommitStep(t, commitOf(text), impl.CommitStep{Kind: kind, Shard: at[0], Node: at[1]})
			if ok != ofAll || ok && !sameCommit(left, want) {
				t.Errorf("%s: %d at %v: %v %v", text, kind, at, left, ok)
			}
		}
		if ofAll {
			continue
		}
		// the last one that there is, of the last shard
		if left, ok := checkCommitStep(t, commitOf(text), impl.CommitStep{Kind: kind, Shard: 1, Node: 2}); ok != (kind != impl.CommitLock) {
			t.Error(text, kind, left, ok)
		}
	}
}

// allCommitSteps are the steps of each kind, of each replica and beside them.
func allCommitSteps(c impl.Commit) []impl.CommitStep {
	l := commitSteps("t a r")
	for shard, s := range c.Shards {
		for node := range s.Replicas {
			for _, kind := range []int{impl.CommitLock, impl.CommitCopy, impl.CommitCrash, impl.CommitApply} {
				l = append(l, impl.CommitStep{Kind: kind, Shard: shard, Node: node})
			}
		}
	}
	return l
}

// A commit that is not good is not stepped in, whatever the step.
func TestStepCommitOfNoGoodCommit(t *testing.T) {
	for _, c := range badCommits() {
		for _, s := range append(allCommitSteps(c), impl.CommitStep{}, impl.CommitStep{Kind: 8}) {
			if left, ok := checkCommitStep(t, c, s); ok || !isZeroCommit(left) {
				t.Errorf("%v: %v: %v", c, s, left)
			}
		}
	}
}

// partsOf are all shards with so many replicas, each with one of these letters.
func partsOf(letters string, many int) []string {
	l := []string{""}
	for range many {
		var longer []string
		for _, part := range l {
			for _, letter := range letters {
				longer = append(longer, part+string(letter))
			}
		}
		l = longer
	}
	return l
}

// allDecisions are those of Driver and Recovered together.
func allDecisions() []string {
	return partsOf(whatIsDecided, 2)
}

// smallCommits goes through all with one shard of up to three replicas, and with two shards of up to two.
func smallCommits(see func(c impl.Commit)) int {
	many := 0
	for _, decisions := range allDecisions() {
		one := append(partsOf(upLetters+downLetters, 1), partsOf(upLetters+downLetters, 2)...)
		for _, part := range append(one, partsOf("nlcdgNC", 3)...) {
			see(commitOf(part + " " + decisions))
			many++
		}
		short := append(partsOf("nlcdgNC", 1), partsOf("nlcdNC", 2)...)
		for _, a := range short {
			for _, b := range short {
				see(commitOf(a + "/" + b + " " + decisions))
				many++
			}
		}
	}
	return many
}

func TestStepCommitOfAllThatAreSmall(t *testing.T) {
	did := make([]int, 8)
	many := smallCommits(func(c impl.Commit) {
		for _, s := range allCommitSteps(c) {
			if _, ok := checkCommitStep(t, c, s); ok {
				did[s.Kind]++
			}
		}
	})
	if many < 15000 || did[impl.CommitLock] < 500 || did[impl.CommitCopy] < 500 || did[impl.CommitTell] < 50 || did[impl.CommitAbort] < 1000 || did[impl.CommitCrash] < 1000 || did[impl.CommitRecover] < 1000 || did[impl.CommitApply] < 1000 {
		t.Error(many, did)
	}
}
