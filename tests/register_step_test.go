package tests

import (
	"fmt"
	"math"
	"slices"
	"strings"
	"testing"

	"loop.example/g00218/impl"
)

// regSteps reads steps that are told like "w1=v r2 0:1": client 1 begins to write v, client 2 begins to read, op 0 meets node 1.
func regSteps(text string) []impl.RegStep {
	var l []impl.RegStep
	for _, word := range strings.Fields(text) {
		var s impl.RegStep
		var kind rune
		head, value, _ := strings.Cut(word, "=")
		if _, err := fmt.Sscanf(head, "%d:%d", &s.Op, &s.Node); err != nil {
			if _, err := fmt.Sscanf(head, "%c%d", &kind, &s.Client); err != nil || kind != 'w' && kind != 'r' {
				panic(word)
			}
			s = impl.RegStep{Begin: true, Client: s.Client, Write: kind == 'w', Value: value}
		}
		l = append(l, s)
	}
	return l
}

func beginWrite(client int, value string) impl.RegStep {
	return impl.RegStep{Begin: true, Client: client, Write: true, Value: value}
}

func beginRead(client int) impl.RegStep {
	return impl.RegStep{Begin: true, Client: client}
}

func meet(op, node int) impl.RegStep {
	return impl.RegStep{Op: op, Node: node}
}

// manyRegSteps are steps that may be done and such that may not.
func manyRegSteps() []impl.RegStep {
	l := []impl.RegStep{{Begin: true, Client: 3, Value: "a"}, beginWrite(7, ";"), beginRead(-1), beginRead(10)}
	for client := range 6 {
		l = append(l, beginRead(client), beginWrite(client, "new value"))
	}
	for op := -1; op < 6; op++ {
		for node := -1; node < 6; node++ {
			l = append(l, meet(op, node))
		}
	}
	return l
}

func newerAgain(a, b impl.Copy) bool {
	return 10*a.N+a.Id > 10*b.N+b.Id
}

// regStepAgain tells the document's words a second time.
func regStepAgain(r impl.Register, s impl.RegStep) (impl.Register, bool) {
	if !goodRegisterAgain(r) || r.Clock == 1000 {
		return impl.Register{}, false
	}
	r = deepRegister(r)
	can := false
	if s.Begin {
		can = beginAgain(&r, s)
	} else if s.Op >= 0 && s.Op < len(r.Ops) && s.Node >= 0 && s.Node < len(r.Copies) {
		can = meetNodeAgain(&r.Ops[s.Op], r.Copies, s.Node, r.Clock)
	}
	if !can {
		return impl.Register{}, false
	}
	r.Clock++
	return r, true
}

func beginAgain(r *impl.Register, s impl.RegStep) bool {
	for _, op := range r.Ops {
		if op.Client == s.Client && op.Phase < impl.PhaseDone {
			return false
		}
	}
	if s.Client < 0 || s.Client > 9 || len(r.Ops) >= 7 || !valueAgain(s.Value) || !s.Write && len(s.Value) > 0 {
		return false
	}
	op := impl.RegOp{Client: s.Client, Write: s.Write, Value: s.Value, Phase: impl.PhaseAsk, Start: r.Clock}
	r.Ops = append(r.Ops, op)
	return true
}

func meetNodeAgain(op *impl.RegOp, copies []impl.Copy, node, time int) bool {
	if op.Phase == impl.PhaseDone || slices.Contains(op.Seen, node) {
		return false
	}
	if op.Phase == impl.PhaseAsk && newerAgain(copies[node], op.Best) {
		op.Best = copies[node]
	}
	if op.Phase == impl.PhaseTell && newerAgain(op.Best, copies[node]) {
		copies[node] = op.Best
	}
	op.Seen = append(op.Seen, node)
	slices.Sort(op.Seen)
	if len(op.Seen) < len(copies)/2+1 {
		return true
	}
	op.Seen = nil
	op.Phase++
	if op.Phase == impl.PhaseDone {
		op.End = time
	} else if op.Write {
		op.Best = copyOf(op.Best.N+1, op.Client, op.Value)
	}
	return op.Best.N <= 1000
}

// checkRegStep holds a step against the document's words, and against what they say of all steps: what is left is good, and no copy is older.
func checkRegStep(t *testing.T, r impl.Register, s impl.RegStep) (impl.Register, bool) {
	t.Helper()
	left, ok := impl.StepRegister(r, s)
	want, wantOk := regStepAgain(r, s)
	if ok != wantOk || !sameRegister(left, want) {
		t.Fatalf("%s: %+v: %s %v, not %s %v", registerText(r), s, registerText(left), ok, registerText(want), wantOk)
	}
	if !ok {
		return left, false
	}
	if !impl.GoodRegister(left) || left.Clock != r.Clock+1 || len(left.Copies) != len(r.Copies) {
		t.Fatalf("%s: %+v: %s", registerText(r), s, registerText(left))
	}
	for i, c := range r.Copies {
		if newerAgain(c, left.Copies[i]) {
			t.Fatalf("%s: %+v: copy %d is older in %s", registerText(r), s, i, registerText(left))
		}
	}
	return left, true
}

// Each reason that a step cannot be done, in a register in which it can be done but for that.
func TestStepRegisterRefuses(t *testing.T) {
	full := mixedRegister()
	full.Ops = append(full.Ops, impl.RegOp{Client: 8, Phase: impl.PhaseDone, Start: 1, End: 2}, impl.RegOp{Client: 8, Phase: impl.PhaseDone, Start: 4, End: 5})
	late := mixedRegister()
	late.Clock = 1000
	for _, c := range []struct {
		why  string
		r    impl.Register
		step impl.RegStep
	}{
		{"clock 1000", late, beginRead(7)},
		{"clock 1000", late, meet(3, 0)},
		{"no client", mixedRegister(), beginRead(-1)},
		{"no client", mixedRegister(), beginRead(10)},
		{"no client", mixedRegister(), beginWrite(math.MinInt, "a")},
		{"no client", mixedRegister(), beginWrite(math.MaxInt, "a")},
		{"client 1 tells", mixedRegister(), beginRead(1)},
		{"client 1 tells", mixedRegister(), beginWrite(1, "a")},
		{"client 3 asks", mixedRegister(), beginRead(3)},
		{"client 4 asks", mixedRegister(), beginWrite(4, "a")},
		{"no room", full, beginRead(7)},
		{"no room", full, beginWrite(8, "a")},
		{"no value", mixedRegister(), beginWrite(7, ";")},
		{"no value", mixedRegister(), beginWrite(7, strings.Repeat("x", 21))},
		{"no value", mixedRegister(), beginWrite(7, "\x1f")},
		{"no value", mixedRegister(), beginWrite(7, "\x7f")},
		{"a read with a value", mixedRegister(), impl.RegStep{Begin: true, Client: 7, Value: "a"}},
		{"a read with a value", mixedRegister(), impl.RegStep{Begin: true, Client: 7, Value: " "}},
		{"a read with no value", mixedRegister(), impl.RegStep{Begin: true, Client: 7, Value: ";"}},
		{"no op", mixedRegister(), meet(-1, 0)},
		{"no op", mixedRegister(), meet(5, 0)},
		{"no op", mixedRegister(), meet(math.MinInt, 0)},
		{"no op", mixedRegister(), meet(math.MaxInt, 0)},
		{"no ops at all", impl.Register{Copies: make([]impl.Copy, 3)}, meet(0, 0)},
		{"no node", mixedRegister(), meet(3, -1)},
		{"no node", mixedRegister(), meet(3, 5)},
		{"no node", mixedRegister(), meet(2, math.MinInt)},
		{"no node", mixedRegister(), meet(2, math.MaxInt)},
		{"a write that is done", mixedRegister(), meet(0, 2)},
		{"a read that is done", mixedRegister(), meet(1, 0)},
		{"seen while it tells", mixedRegister(), meet(2, 0)},
		{"seen while it tells", mixedRegister(), meet(2, 3)},
		{"seen while it asks", mixedRegister(), meet(3, 2)},
	} {
		if !impl.GoodRegister(c.r) {
			t.Error(c.why, registerText(c.r))
		}
		if left, ok := checkRegStep(t, c.r, c.step); ok || left.Clock != 0 || left.Copies != nil || left.Ops != nil {
			t.Errorf("%s: %+v: %s %v", c.why, c.step, registerText(left), ok)
		}
	}
	// and just beside these
	for _, s := range []impl.RegStep{
		beginRead(0), beginRead(9), beginRead(2), beginWrite(2, ""), beginWrite(7, strings.Repeat("x", 20)), beginWrite(9, " ~"),
		meet(2, 1), meet(2, 2), meet(2, 4), meet(3, 0), meet(3, 1), meet(3, 4), meet(4, 0), meet(4, 4),
	} {
		if left, ok := checkRegStep(t, mixedRegister(), s); !ok {
			t.Errorf("%+v: %s %v", s, registerText(left), ok)
		}
	}
	full.Ops = full.Ops[:6]
	late.Clock = 999
	for _, r := range []impl.Register{full, late} {
		if left, ok := checkRegStep(t, r, beginRead(8)); !ok || len(left.Ops) != len(r.Ops)+1 {
			t.Error(registerText(left), ok)
		}
	}
}

// What a step does not need does not matter: not the op and the node with Begin, nor all else without it.
func TestStepRegisterAsksForWhatItNeeds(t *testing.T) {
	r := mixedRegister()
	want, _ := impl.StepRegister(r, beginWrite(7, "new"))
	for _, n := range []int{math.MinInt, -1, 5, math.MaxInt} {
		s := beginWrite(7, "new")
		s.Op, s.Node = n, n
		if left, ok := impl.StepRegister(r, s); !ok || !sameRegister(left, want) {
			t.Error(s, registerText(left), ok)
		}
	}
	want, _ = impl.StepRegister(r, meet(3, 0))
	for _, s := range []impl.RegStep{{Client: -1}, {Client: 10, Write: true}, {Client: 1, Value: ";"}, {Value: "a"}, {Client: 3, Write: true, Value: strings.Repeat("x", 30)}} {
		s.Op = 3
		if left, ok := impl.StepRegister(r, s); !ok || !sameRegister(left, want) {
			t.Error(s, registerText(left), ok)
		}
	}
}

// Of each kind of step all that changes, and nothing else.
func TestStepRegisterChangesJustWhatItSays(t *testing.T) {
	const ask, tell, done = impl.PhaseAsk, impl.PhaseTell, impl.PhaseDone
	for _, c := range []struct {
		name string
		step impl.RegStep
		put  func(r *impl.Register)
	}{
		{"a read begins", beginRead(2), func(r *impl.Register) {
			r.Ops = append(r.Ops, impl.RegOp{Client: 2, Phase: ask, Start: 20})
		}},
		{"a write begins", beginWrite(0, "v w"), func(r *impl.Register) {
			r.Ops = append(r.Ops, impl.RegOp{Write: true, Value: "v w", Phase: ask, Start: 20})
		}},
		{"a write of the empty value begins", beginWrite(9, ""), func(r *impl.Register) {
			r.Ops = append(r.Ops, impl.RegOp{Client: 9, Write: true, Phase: ask, Start: 20})
		}},
		{"a read asks a node with a newer copy, and that is seen ahead of others", meet(3, 0), func(r *impl.Register) {
			r.Ops[3].Best, r.Ops[3].Seen = copyOf(2, 1, "b"), []int{0, 2}
		}},
		{"and behind others", meet(3, 4), func(r *impl.Register) {
			r.Ops[3].Best, r.Ops[3].Seen = copyOf(1, 1, "a"), []int{2, 4}
		}},
		{"a write asks a node with a newer copy", meet(4, 1), func(r *impl.Register) {
			r.Ops[4].Best, r.Ops[4].Seen = copyOf(1, 1, "a"), []int{1}
		}},
		{"a write asks a node with a copy that is not newer", meet(4, 2), func(r *impl.Register) {
			r.Ops[4].Seen = []int{2}
		}},
		{"a write tells a node with an older copy, and is done", meet(2, 1), func(r *impl.Register) {
			r.Copies[1] = copyOf(2, 1, "b")
			r.Ops[2].Phase, r.Ops[2].Seen, r.Ops[2].End = done, nil, 20
		}},
		{"likewise with the oldest copy", meet(2, 2), func(r *impl.Register) {
			r.Copies[2] = copyOf(2, 1, "b")
			r.Ops[2].Phase, r.Ops[2].Seen, r.Ops[2].End = done, nil, 20
		}},
	} {
		want := mixedRegister()
		want.Clock = 21
		c.put(&want)
		if left, ok := checkRegStep(t, mixedRegister(), c.step); !ok || !sameRegister(left, want) {
			t.Errorf("%s: %s %v, not %s", c.name, registerText(left), ok, registerText(want))
		}
	}
}

// A meeting is an op that meets a node: what it knew and had seen, the node's copy, and what is then.
type meeting struct {
	nodes   int
	op      impl.RegOp
	node    int
	copy    impl.Copy
	then    impl.RegOp
	newCopy impl.Copy
}

func (x meeting) check(t *testing.T) {
	t.Helper()
	r := impl.Register{Clock: 40, Copies: slices.Repeat([]impl.Copy{copyOf(3, 3, "c")}, x.nodes), Ops: []impl.RegOp{{Client: 8, Phase: impl.PhaseDone, Start: 1, End: 2}, x.op}}
	r.Copies[x.node] = x.copy
	want := deepRegister(r)
	want.Clock, want.Ops[1], want.Copies[x.node] = 41, x.then, x.newCopy
	if left, ok := checkRegStep(t, r, meet(1, x.node)); !ok || !sameRegister(left, want) {
		t.Errorf("%s: %s %v, not %s", registerText(r), registerText(left), ok, registerText(want))
	}
}

func TestStepRegisterWithPhaseAsk(t *testing.T) {
	best, newer := copyOf(4, 4, "d"), copyOf(5, 0, "e")
	for _, c := range []struct{ copy, then impl.Copy }{
		{newer, newer},
		{copyOf(4, 5, "e"), copyOf(4, 5, "e")},
		{copyOf(1000, 0, ""), copyOf(1000, 0, "")},
		{copyOf(4, 4, "other"), best}, // neither is newer: it stays
		{copyOf(4, 3, "e"), best},
		{copyOf(3, 9, "e"), best},
		{copyOf(0, 0, ""), best},
	} {
		for _, write := range []bool{false, true} {
			op := impl.RegOp{Client: 6, Write: write, Phase: impl.PhaseAsk, Seen: []int{1}, Best: best, Start: 7}
			if write {
				op.Value = "w"
			}
			then := op
			then.Seen, then.Best = []int{1, 2}, c.then
			meeting{5, op, 2, c.copy, then, c.copy}.check(t)
			// the last node that lacks: of three, of two, and of one
			then.Phase, then.Seen = impl.PhaseTell, nil
			if write {
				then.Best = copyOf(c.then.N+1, 6, "w")
			}
			if then.Best.N > 1000 {
				continue
			}
			meeting{3, op, 2, c.copy, then, c.copy}.check(t)
			meeting{2, op, 0, c.copy, then, c.copy}.check(t)
			op.Seen = nil
			meeting{1, op, 0, c.copy, then, c.copy}.check(t)
		}
	}
}

func TestStepRegisterWithPhaseTell(t *testing.T) {
	best := copyOf(4, 4, "d")
	for _, c := range []struct{ copy, then impl.Copy }{
		{copyOf(0, 0, ""), best},
		{copyOf(3, 9, "c"), best},
		{copyOf(4, 3, "c"), best},
		{copyOf(4, 4, "other"), copyOf(4, 4, "other")}, // neither is newer: it stays
		{copyOf(4, 5, "c"), copyOf(4, 5, "c")},
		{copyOf(5, 0, "c"), copyOf(5, 0, "c")},
		{copyOf(1000, 9, ""), copyOf(1000, 9, "")},
	} {
		for _, write := range []bool{false, true} {
			op := impl.RegOp{Client: 6, Write: write, Phase: impl.PhaseTell, Seen: []int{1}, Best: best, Start: 7}
			then := op
			then.Seen = []int{0, 1}
			meeting{4, op, 0, c.copy, then, c.then}.check(t)
			// the last node that lacks: of three, of two, and of one
			then.Phase, then.Seen, then.End = impl.PhaseDone, nil, 40
			meeting{3, op, 0, c.copy, then, c.then}.check(t)
			meeting{2, op, 0, c.copy, then, c.then}.check(t)
			op.Seen = nil
			meeting{1, op, 0, c.copy, then, c.then}.check(t)
		}
	}
}

// Of n nodes it takes n / 2 and one more in each phase, whichever they are.
func TestPhasesEndWithMoreThanHalf(t *testing.T) {
	for nodes := 1; nodes <= impl.MaxNodes; nodes++ {
		for _, up := range []bool{true, false} {
			r, _ := impl.NewRegister(nodes)
			r, _ = checkRegStep(t, r, beginWrite(5, "v"))
			for _, phase := range []int{impl.PhaseAsk, impl.PhaseTell} {
				for i := range nodes/2 + 1 {
					if op := r.Ops[0]; op.Phase != phase || len(op.Seen) != i || !slices.IsSorted(op.Seen) || op.End != 0 {
						t.Error(nodes, i, registerText(r))
					}
					node := i
					if !up {
						node = nodes - 1 - i
					}
					r, _ = checkRegStep(t, r, meet(0, node))
				}
			}
			want := impl.RegOp{Client: 5, Write: true, Value: "v", Phase: impl.PhaseDone, Best: copyOf(1, 5, "v"), End: 2 * (nodes/2 + 1)}
			if !sameRegOp(r.Ops[0], want) || r.Clock != want.End+1 {
				t.Error(nodes, registerText(r))
			}
		}
	}
}

// A copy has an N of at most 1000: a Write that would have to go beyond that cannot go on, all else can.
func TestStepRegisterAtTheGreatestN(t *testing.T) {
	for _, c := range []struct {
		best, kept int
		write, ok  bool
	}{
		{999, 0, true, true}, {0, 999, true, true}, {1000, 0, true, false}, {0, 1000, true, false}, {1000, 1000, true, false},
		{1000, 0, false, true}, {0, 1000, false, true},
	} {
		for _, nodes := range []int{2, 3} {
			r := impl.Register{Clock: 5, Copies: slices.Repeat([]impl.Copy{copyOf(c.kept, 9, "k")}, nodes), Ops: []impl.RegOp{{Client: 1, Write: c.write, Phase: impl.PhaseAsk, Seen: []int{0}, Best: copyOf(c.best, 2, "b")}}}
			left, ok := checkRegStep(t, r, meet(0, 1))
			if ok != c.ok || ok && (left.Ops[0].Phase != impl.PhaseTell || left.Ops[0].Best.N != 1000) {
				t.Errorf("%+v: %s %v", c, registerText(left), ok)
			}
			// while nodes lack there is nothing to go beyond
			r.Ops[0].Seen = nil
			if left, ok := checkRegStep(t, r, meet(0, 1)); !ok || left.Ops[0].Best.N != max(c.best, c.kept) {
				t.Errorf("%+v: %s %v", c, registerText(left), ok)
			}
			// what tells already has its N
			r.Ops[0].Phase, r.Ops[0].Best.N = impl.PhaseTell, 1000
			if left, ok := checkRegStep(t, r, meet(0, 1)); !ok || left.Copies[1].N != 1000 {
				t.Errorf("%+v: %s %v", c, registerText(left), ok)
			}
		}
	}
}

func TestStepRegisterAtTheEndOfTime(t *testing.T) {
	r, _ := impl.NewRegister(1)
	r.Clock = 997
	for i, s := range regSteps("w3=v 0:0 0:0 r4 r5") {
		left, ok := checkRegStep(t, r, s)
		if ok != (i < 3) {
			t.Errorf("%d: %s %v", i, registerText(left), ok)
		}
		if ok {
			r = left
		}
	}
	if registerText(r) != "1000 1.3=v 3w=v/3[]1.3=v@997-999" || !impl.GoodRegister(r) {
		t.Error(registerText(r))
	}
}

// Steps of all kinds at good registers, at the edges and played ones.
func TestStepRegisterOfManyRegisters(t *testing.T) {
	refused, done := 0, 0
	for _, r := range someRegisters() {
		for _, s := range manyRegSteps() {
			if _, ok := checkRegStep(t, r, s); ok {
				done++
			} else {
				refused++
			}
		}
	}
	if refused < 1000 || done < 1000 {
		t.Error(refused, done)
	}
}
