package tests

import (
	"fmt"
	"slices"
	"testing"

	"loop.example/g00218/impl"
)

// checkLinear asks whether what was done with a register is like one copy.
func checkLinear(t *testing.T, r impl.Register) []impl.Call {
	t.Helper()
	l, ok := impl.CallsOf(r)
	if !ok || !impl.GoodCalls(l) {
		t.Fatalf("%s: %s %v", registerText(r), callsText(l), ok)
	}
	if linear, ok := impl.IsLinear(l); !linear || !ok {
		t.Fatalf("%s: %s is not like one copy (%v)", registerText(r), callsText(l), ok)
	}
	return l
}

// checkMost asks whether what is done is in more than half of the copies, or newer ones are.
func checkMost(t *testing.T, r impl.Register) {
	t.Helper()
	for i, op := range r.Ops {
		have := 0
		for _, c := range r.Copies {
			if !newerAgain(op.Best, c) {
				have++
			}
		}
		if op.Phase == impl.PhaseDone && 2*have <= len(r.Copies) {
			t.Fatalf("%s: op %d is done, and %d copies have it", registerText(r), i, have)
		}
	}
}

// checkNothingOlder asks whether what begins when something is done finds nothing older, and writes something newer.
func checkNothingOlder(t *testing.T, r impl.Register) {
	t.Helper()
	for i, a := range r.Ops {
		for j, b := range r.Ops {
			if a.Phase != impl.PhaseDone || b.Phase == impl.PhaseAsk || a.End > b.Start {
				continue
			}
			if newerAgain(a.Best, b.Best) || b.Write && !newerAgain(b.Best, a.Best) {
				t.Fatalf("%s: op %d is done ahead of op %d, and newer", registerText(r), i, j)
			}
		}
	}
}

// Promise 9, for many drawn plays, whenever an op is done and in the end.
func TestWhatClientsDoIsLikeOneCopy(t *testing.T) {
	open, atOnce, early, full := 0, 0, 0, 0
	for seed := range 6000 {
		nodes, l := somePlayOfOps(uint64(seed) + 1000)
		r, _ := impl.NewRegister(nodes)
		for _, s := range l {
			left, ok := checkRegStep(t, r, s)
			if !ok {
				continue
			}
			ended := !s.Begin && left.Ops[s.Op].Phase == impl.PhaseDone
			r = left
			checkMost(t, r)
			checkNothingOlder(t, r)
			if ended {
				checkLinear(t, r)
			}
		}
		played, _, _ := impl.PlayRegister(nodes, l)
		if !sameRegister(played, r) {
			t.Fatalf("%+v: %s, not %s", l, registerText(played), registerText(r))
		}
		done := checkLinear(t, played)
		open += count(done, func(c impl.Call) bool { return c.End >= 999000 })
		early += count(done, func(c impl.Call) bool { return foundEarly(done, c) })
		atOnce += count(done, func(c impl.Call) bool {
			return slices.ContainsFunc(done, func(o impl.Call) bool { return o != c && o.Start < c.Start && c.Start < o.End })
		})
		if len(done) == impl.MaxCalls {
			full++
		}
	}
	// the plays are no plays if nothing is at once, nothing stays open, or nothing finds what is not done yet
	if open < 1000 || atOnce < 5000 || early < 300 || full < 300 {
		t.Error(open, atOnce, early, full)
	}
}

func count[E any](l []E, is func(E) bool) int {
	many := 0
	for _, x := range l {
		if is(x) {
			many++
		}
	}
	return many
}

// foundEarly tells whether a read saw a value, other than the empty one, that no write had put when it was done.
func foundEarly(l []impl.Call, read impl.Call) bool {
	return !read.Write && read.Value != "" && !slices.ContainsFunc(l, func(c impl.Call) bool {
		return c.Write && c.Value == read.Value && c.End < read.End
	})
}

// One reads what just one node has. Whoever reads later, at any nodes, finds it too, as the first one told it before it was done.
func TestReadsTellWhatTheyFound(t *testing.T) {
	half := regSteps("w1=new 0:0 0:1 0:0") // node 0 alone has it
	for _, ask := range []string{"1:0 1:1", "1:0 1:2", "1:2 1:0"} {
		for _, tell := range []string{"1:1 1:2", "1:2 1:1", "1:0 1:1", "1:0 1:2"} {
			first := slices.Concat(half, regSteps("r2"), regSteps(ask))
			r, _, _ := impl.PlayRegister(3, first)
			if op := r.Ops[1]; op.Phase != impl.PhaseTell || op.Best != copyOf(1, 1, "new") || op.End != 0 || len(op.Seen) > 0 {
				t.Error(registerText(r))
			}
			for _, again := range []string{"2:0 2:1", "2:1 2:2", "2:2 2:0"} {
				l := slices.Concat(first, regSteps(tell), regSteps("r3"), regSteps(again), regSteps("2:0 2:1"))
				r, done, _ := impl.PlayRegister(3, l)
				calls := callsText(checkLinear(t, r))
				if slices.Contains(done, false) || calls != "1w:x=new@0-999000 2r:x=new@4-8 3r:x=new@9-13" {
					t.Error(ask, tell, again, calls)
				}
			}
		}
	}
}

// A read that asked where the new value is not yet may find the old one, while one that is not done yet has the new one.
func TestReadsAtOnceMayFindUnlikeValues(t *testing.T) {
	r, done, _ := impl.PlayRegister(3, regSteps("w1=new 0:0 0:1 0:0 r2 1:0 1:1 r3 2:1 2:2 2:1 2:2 1:1 1:2"))
	if got := callsText(checkLinear(t, r)); got != "1w:x=new@0-999000 2r:x=new@4-13 3r:x=@7-11" || slices.Contains(done, false) {
		t.Error(got, done)
	}
}

// A late write does not make a newer copy older, and is done all the same.
func TestALateWriteLeavesNewerCopies(t *testing.T) {
	r, done, _ := impl.PlayRegister(3, regSteps("w1=old 0:0 0:1 w2=new 1:0 1:1 1:0 1:1 1:2 w3=more 2:1 2:2 2:1 2:2 0:0 0:1"))
	if got := registerText(r); got != "15 1.2=new 2.3=more 2.3=more 1w=old/3[]1.1=old@0-14 2w=new/3[]1.2=new@3-7 3w=more/3[]2.3=more@8-12" || done[8] {
		t.Error(got, done)
	}
	checkLinear(t, r)
}

// rankText tells a register without its clock, and with its times in their order alone: what may follow is the same.
func rankText(r impl.Register) string {
	r = deepRegister(r)
	var times []int
	for _, op := range r.Ops {
		times = append(times, op.Start, op.End)
	}
	slices.Sort(times)
	times = slices.Compact(times)
	for i, op := range r.Ops {
		r.Ops[i].Start = slices.Index(times, op.Start)
		if op.Phase == impl.PhaseDone {
			r.Ops[i].End = slices.Index(times, op.End)
		}
	}
	return fmt.Sprint(r.Copies, r.Ops)
}

// allPlays goes through all that may come of these ops, each of a client of its own, in whatever order they begin and meet nodes.
func allPlays(nodes int, begins []impl.RegStep, see func(impl.Register)) int {
	start, _ := impl.NewRegister(nodes)
	seen := map[string]int{rankText(start): 1}
	work := []impl.Register{start}
	for len(work) > 0 {
		r := work[len(work)-1]
		work = work[:len(work)-1]
		see(r)
		all := slices.Clone(begins)
		for op := range r.Ops {
			all = slices.DeleteFunc(all, func(s impl.RegStep) bool { return s.Client == r.Ops[op].Client })
		}
		for op := range r.Ops {
			for node := range nodes {
				all = append(all, meet(op, node))
			}
		}
		for _, s := range all {
			if left, ok := impl.StepRegister(r, s); ok {
				if text := rankText(left); seen[text] == 0 {
					seen[text] = 1
					work = append(work, left)
				}
			}
		}
	}
	return len(seen)
}

// Promise 9, for all that may come of a few ops.
func TestAllSmallPlaysAreLikeOneCopy(t *testing.T) {
	for _, c := range []struct {
		nodes  int
		begins string
	}{
		{1, "w1=a w2=b r3"},
		{2, "w1=a w2=b r3"},
		{2, "w1=a r2 r3"},
		{3, "w1=a r2 r3"},
		{3, "w1=a w2=b r3"},
		{4, "w1=a w2=b"},
		{5, "w1=a r2"},
	} {
		many := allPlays(c.nodes, regSteps(c.begins), func(r impl.Register) {
			checkMost(t, r)
			checkNothingOlder(t, r)
			checkLinear(t, r)
		})
		if many < 900 {
			t.Error(c, many)
		}
	}
}
