package tests

import (
	"fmt"
	"math"
	"slices"
	"strings"
	"testing"

	"loop.example/g00218/impl"
)

func copyOf(n, id int, value string) impl.Copy {
	return impl.Copy{N: n, Id: id, Value: value}
}

// mixedRegister has ops of all phases: 0 and 1 are done, 2 tells, 3 and 4 ask.
func mixedRegister() impl.Register {
	return impl.Register{
		Clock:  20,
		Copies: []impl.Copy{copyOf(2, 1, "b"), copyOf(1, 1, "a"), copyOf(0, 0, ""), copyOf(2, 1, "b"), copyOf(1, 1, "a")},
		Ops: []impl.RegOp{
			{Client: 1, Write: true, Value: "a", Phase: impl.PhaseDone, Best: copyOf(1, 1, "a"), Start: 0, End: 9},
			{Client: 2, Phase: impl.PhaseDone, Best: copyOf(1, 1, "a"), Start: 3, End: 12},
			{Client: 1, Write: true, Value: "b", Phase: impl.PhaseTell, Seen: []int{0, 3}, Best: copyOf(2, 1, "b"), Start: 13},
			{Client: 3, Phase: impl.PhaseAsk, Seen: []int{2}, Start: 14},
			{Client: 4, Write: true, Phase: impl.PhaseAsk, Start: 19},
		},
	}
}

// registerText tells a register: its clock, its copies, and of each op the client, what it does, its phase, Seen, Best and its times.
func registerText(r impl.Register) string {
	parts := []string{fmt.Sprint(r.Clock)}
	for _, c := range r.Copies {
		parts = append(parts, copyText(c))
	}
	for _, op := range r.Ops {
		kind := "r"
		if op.Write {
			kind = "w"
		}
		parts = append(parts, fmt.Sprintf("%d%s=%s/%d%v%s@%d-%d", op.Client, kind, op.Value, op.Phase, op.Seen, copyText(op.Best), op.Start, op.End))
	}
	return strings.Join(parts, " ")
}

func copyText(c impl.Copy) string {
	return fmt.Sprintf("%d.%d=%s", c.N, c.Id, c.Value)
}

func deepRegister(r impl.Register) impl.Register {
	r.Copies, r.Ops = slices.Clone(r.Copies), slices.Clone(r.Ops)
	for i, op := range r.Ops {
		r.Ops[i].Seen = slices.Clone(op.Seen)
	}
	return r
}

func sameRegister(a, b impl.Register) bool {
	return a.Clock == b.Clock && slices.Equal(a.Copies, b.Copies) && slices.EqualFunc(a.Ops, b.Ops, sameRegOp)
}

func sameRegOp(x, y impl.RegOp) bool {
	return x.Client == y.Client && x.Write == y.Write && x.Value == y.Value && x.Phase == y.Phase &&
		slices.Equal(x.Seen, y.Seen) && x.Best == y.Best && x.Start == y.Start && x.End == y.End
}

// A regChange is put to the register of mixedRegister, and has a name.
type regChange struct {
	name string
	put  func(r *impl.Register)
}

// regChanges are the same change with unlike things to put.
func regChanges[T any](name string, put func(r *impl.Register, x T), things ...T) []regChange {
	var l []regChange
	for _, x := range things {
		l = append(l, regChange{fmt.Sprintf("%s %v", name, x), func(r *impl.Register) { put(r, x) }})
	}
	return l
}

func changedRegister(c regChange) impl.Register {
	r := mixedRegister()
	c.put(&r)
	return r
}

func noOps(r *impl.Register, clock int)          { r.Clock, r.Ops = clock, nil }
func putClock(r *impl.Register, clock int)       { r.Clock = clock }
func putCopies(r *impl.Register, n int)          { r.Copies, r.Ops = make([]impl.Copy, n), nil }
func putFirstCopy(r *impl.Register, c impl.Copy) { r.Copies[0] = c }
func putLastCopy(r *impl.Register, c impl.Copy)  { r.Copies[4] = c }
func putDoneBest(r *impl.Register, c impl.Copy)  { r.Ops[1].Best = c }
func putAskBest(r *impl.Register, c impl.Copy)   { r.Ops[3].Best = c }
func putTellBest(r *impl.Register, c impl.Copy)  { r.Ops[2].Best = c }
func putFirstClient(r *impl.Register, n int)     { r.Ops[0].Client = n }
func putLastClient(r *impl.Register, n int)      { r.Ops[4].Client = n }
func putDoneWritten(r *impl.Register, s string)  { r.Ops[0].Value = s }
func putAskWritten(r *impl.Register, s string)   { r.Ops[4].Value = s }
func putDoneRead(r *impl.Register, s string)     { r.Ops[1].Value = s }
func putAskRead(r *impl.Register, s string)      { r.Ops[3].Value = s }
func putDonePhase(r *impl.Register, n int)       { r.Ops[1].Phase = n }
func putAskPhase(r *impl.Register, n int)        { r.Ops[4].Phase = n }
func putSeenOfAsk(r *impl.Register, l []int)     { r.Ops[3].Seen = l }
func putSeenOfTell(r *impl.Register, l []int)    { r.Ops[2].Seen = l }
func putSeenOfDone(r *impl.Register, l []int)    { r.Ops[0].Seen = l }
func putStartOfAsk(r *impl.Register, n int)      { r.Ops[4].Start = n }
func putStartOfDone(r *impl.Register, n int)     { r.Ops[1].Start = n }
func putEndOfDone(r *impl.Register, n int)       { r.Ops[1].End = n }
func putEndOfTell(r *impl.Register, n int)       { r.Ops[2].End = n }
func putEndOfAsk(r *impl.Register, n int)        { r.Ops[4].End = n }
func putTimesOfDone(r *impl.Register, l [2]int)  { r.Ops[1].Start, r.Ops[1].End = l[0], l[1] }
func putManyDone(r *impl.Register, n int)        { r.Clock, r.Ops = 2*n, opsInARow(n, impl.PhaseDone) }
func putManyAsking(r *impl.Register, n int)      { r.Clock, r.Ops = 2*n, opsInARow(n, impl.PhaseAsk) }
func putPhasesOfOne(r *impl.Register, l [2]int)  { putTwo(r, 7, 7, l) }
func putPhasesOfTwo(r *impl.Register, l [2]int)  { putTwo(r, 7, 8, l) }
func putTimesOfTwo(r *impl.Register, l [4]int)   { r.Ops = doneAt(l[0], l[1], l[2], l[3]) }
func putStartsOfTwo(r *impl.Register, l [2]int)  { r.Ops = asksAt(l[0], l[1]) }
func putStartAndTimes(r *impl.Register, l [3]int) {
	r.Ops = append(asksAt(l[0]), doneAt(l[1], l[2])...)
}
func putTimesAndStart(r *impl.Register, l [3]int) {
	r.Ops = append(doneAt(l[1], l[2]), asksAt(l[0])...)
}
func putSeenOfNodes(r *impl.Register, l [2]int) { putSeen(r, impl.PhaseAsk, l[0], upTo(l[1])) }
func putToldOfNodes(r *impl.Register, l [2]int) { putSeen(r, impl.PhaseTell, l[0], upTo(l[1])) }
func putLastSeen(r *impl.Register, l [2]int)    { putSeen(r, impl.PhaseAsk, l[0], []int{l[1]}) }
func putEndOfFirst(r *impl.Register, phaseEnd [2]int) {
	r.Ops = []impl.RegOp{{Client: 5, Phase: phaseEnd[0], Start: 4, End: phaseEnd[1]}}
}

// putSeen has one op that has seen these nodes, of so many.
func putSeen(r *impl.Register, phase, nodes int, seen []int) {
	r.Copies = make([]impl.Copy, nodes)
	r.Ops = []impl.RegOp{{Client: 5, Phase: phase, Seen: seen}}
}

// putTwo has two ops of these clients with these phases.
func putTwo(r *impl.Register, a, b int, phases [2]int) {
	r.Ops = nil
	for i, client := range []int{a, b} {
		op := impl.RegOp{Client: client, Phase: phases[i], Start: 5 + 2*i}
		if op.Phase == impl.PhaseDone {
			op.End = 10 + i
		}
		r.Ops = append(r.Ops, op)
	}
}

// doneAt are ops that are done, with these Starts and Ends.
func doneAt(times ...int) []impl.RegOp {
	var l []impl.RegOp
	for i := 0; i < len(times); i += 2 {
		l = append(l, impl.RegOp{Client: i / 2, Phase: impl.PhaseDone, Start: times[i], End: times[i+1]})
	}
	return l
}

// asksAt are ops that have not seen a node yet, with these Starts.
func asksAt(starts ...int) []impl.RegOp {
	var l []impl.RegOp
	for i, start := range starts {
		l = append(l, impl.RegOp{Client: 9 - i, Phase: impl.PhaseAsk, Start: start})
	}
	return l
}

// opsInARow are n ops, each of a client of its own, with a phase.
func opsInARow(n, phase int) []impl.RegOp {
	var l []impl.RegOp
	for i := range n {
		op := impl.RegOp{Client: i % 10, Phase: phase, Start: 2 * i}
		if phase == impl.PhaseDone {
			op.End = 2*i + 1
		}
		l = append(l, op)
	}
	return l
}

func goodCopies() []impl.Copy {
	l := []impl.Copy{copyOf(0, 0, ""), copyOf(1, 0, ""), copyOf(999, 8, "x"), copyOf(1000, 0, ""), copyOf(0, 9, ""), copyOf(1000, 9, "x"), copyOf(0, 0, "x")}
	for _, value := range goodValues() {
		l = append(l, copyOf(3, 4, value))
	}
	return l
}

func badCopies() []impl.Copy {
	l := []impl.Copy{
		copyOf(-1, 0, ""), copyOf(1001, 0, ""), copyOf(0, -1, ""), copyOf(0, 10, ""), copyOf(1001, 10, ""), copyOf(-1, -1, ""),
		copyOf(math.MinInt, 0, ""), copyOf(math.MaxInt, 0, ""), copyOf(0, math.MinInt, ""), copyOf(0, math.MaxInt, ""), copyOf(1<<32, 0, ""), copyOf(0, 1<<32, ""),
	}
	for _, value := range badValues() {
		l = append(l, copyOf(3, 4, value))
	}
	return l
}

func goodRegisterChanges() []regChange {
	const ask, tell, done = impl.PhaseAsk, impl.PhaseTell, impl.PhaseDone
	return slices.Concat(
		regChanges("no ops at clock", noOps, 0, 1, 999, 1000),
		regChanges("clock", putClock, 20, 21, 1000),
		regChanges("copies", putCopies, 1, 2, 11, 12),
		regChanges("first copy", putFirstCopy, goodCopies()...),
		regChanges("last copy", putLastCopy, goodCopies()...),
		regChanges("best of done", putDoneBest, goodCopies()...),
		regChanges("best of ask", putAskBest, goodCopies()...),
		regChanges("best of tell", putTellBest, goodCopies()...),
		regChanges("done ops", putManyDone, 0, 1, 6, 7),
		regChanges("asking ops", putManyAsking, 0, 1, 6, 7),
		regChanges("first client", putFirstClient, upTo(10)...),
		regChanges("last client", putLastClient, 0, 2, 4, 5, 8, 9),
		regChanges("done write", putDoneWritten, goodValues()...),
		regChanges("asking write", putAskWritten, goodValues()...),
		regChanges("asking phase", putAskPhase, ask, tell),
		regChanges("seen of ask", putSeenOfAsk, nil, []int{}, []int{0}, []int{4}, []int{0, 1}, []int{0, 4}, []int{3, 4}),
		regChanges("seen of tell", putSeenOfTell, nil, []int{}, []int{0}, []int{4}, []int{0, 1}, []int{0, 4}, []int{3, 4}),
		regChanges("seen of done", putSeenOfDone, nil, []int{}),
		// of so many nodes so many: half, and below it
		regChanges("seen of nodes", putSeenOfNodes, [][2]int{{1, 0}, {2, 0}, {2, 1}, {3, 1}, {4, 1}, {4, 2}, {5, 2}, {6, 3}, {7, 3}, {11, 5}, {12, 5}, {12, 6}}...),
		regChanges("told of nodes", putToldOfNodes, [][2]int{{1, 0}, {2, 0}, {2, 1}, {3, 1}, {4, 1}, {4, 2}, {5, 2}, {6, 3}, {7, 3}, {11, 5}, {12, 5}, {12, 6}}...),
		regChanges("last node seen", putLastSeen, [][2]int{{2, 1}, {3, 2}, {12, 11}}...),
		regChanges("start of ask", putStartOfAsk, 1, 15, 18, 19),
		regChanges("start of done", putStartOfDone, 1, 10, 11),
		regChanges("end of done", putEndOfDone, 4, 12, 15, 18),
		regChanges("times of done", putTimesOfDone, [][2]int{{1, 2}, {17, 18}, {1, 18}}...),
		regChanges("end by phase", putEndOfFirst, [][2]int{{ask, 0}, {tell, 0}, {done, 5}, {done, 18}, {done, 19}}...),
		// also ops of one client that overlap are good, if one of them is done at least: ops are asked for less than calls
		regChanges("phases of one client", putPhasesOfOne, [][2]int{{done, done}, {done, ask}, {ask, done}, {done, tell}, {tell, done}}...),
		regChanges("phases of two clients", putPhasesOfTwo, [][2]int{{done, done}, {done, ask}, {ask, done}, {ask, ask}, {tell, tell}, {ask, tell}, {tell, ask}}...),
		regChanges("times of two", putTimesOfTwo, [][4]int{{0, 1, 2, 3}, {2, 3, 0, 1}, {0, 2, 1, 3}, {0, 3, 1, 2}, {16, 17, 18, 19}}...),
		regChanges("starts of two", putStartsOfTwo, [][2]int{{0, 1}, {1, 0}, {18, 19}}...),
		regChanges("start and times", putStartAndTimes, [][3]int{{0, 1, 2}, {1, 0, 2}, {2, 0, 1}}...),
		regChanges("times and start", putTimesAndStart, [][3]int{{0, 1, 2}, {1, 0, 2}, {2, 0, 1}}...),
	)
}

func badRegisterChanges() []regChange {
	return slices.Concat(
		regChanges("no ops at clock", noOps, -1, 1001, math.MinInt, math.MaxInt, 1<<32),
		regChanges("clock", putClock, -1, 0, 12, 19, 1001, math.MinInt, math.MaxInt),
		regChanges("copies", putCopies, 0, 13, 14, 1000),
		regChanges("first copy", putFirstCopy, badCopies()...),
		regChanges("last copy", putLastCopy, badCopies()...),
		regChanges("best of done", putDoneBest, badCopies()...),
		regChanges("best of ask", putAskBest, badCopies()...),
		regChanges("best of tell", putTellBest, badCopies()...),
		regChanges("done ops", putManyDone, 8, 9, 400),
		regChanges("asking ops", putManyAsking, 8, 9),
		regChanges("first client", putFirstClient, -1, 10, math.MinInt, math.MaxInt, 1<<32),
		regChanges("last client", putLastClient, -1, 10, 11, math.MinInt, math.MaxInt),
		badOpChanges(), badTimeChanges())
}

func badOpChanges() []regChange {
	const ask, tell, done = impl.PhaseAsk, impl.PhaseTell, impl.PhaseDone
	notRising := [][]int{{1, 0}, {4, 3}, {0, 0}, {4, 4}, {-1}, {5}, {-1, 0}, {0, 5}, {math.MinInt}, {math.MaxInt}, {0, 1, 2}, {2, 3, 4}, {0, 1, 2, 3, 4}, {0, 0, 0}, upTo(100)}
	return slices.Concat(
		regChanges("done write", putDoneWritten, badValues()...),
		regChanges("asking write", putAskWritten, badValues()...),
		regChanges("done read", putDoneRead, append(badValues(), "a", " ", strings.Repeat("x", 20))...),
		regChanges("asking read", putAskRead, append(badValues(), "a", " ", strings.Repeat("x", 20))...),
		regChanges("done phase", putDonePhase, -1, 0, 1, 2, 4, 5, math.MinInt, math.MaxInt),
		regChanges("asking phase", putAskPhase, -1, 0, 3, 4, 5, math.MinInt, math.MaxInt),
		regChanges("seen of ask", putSeenOfAsk, notRising...),
		regChanges("seen of tell", putSeenOfTell, notRising...),
		regChanges("seen of done", putSeenOfDone, append(notRising, []int{0}, []int{4}, []int{0, 4})...),
		// more than half
		regChanges("seen of nodes", putSeenOfNodes, [][2]int{{1, 1}, {2, 2}, {3, 2}, {3, 3}, {4, 3}, {5, 3}, {6, 4}, {7, 4}, {11, 6}, {12, 7}, {12, 12}}...),
		regChanges("told of nodes", putToldOfNodes, [][2]int{{1, 1}, {2, 2}, {3, 2}, {3, 3}, {4, 3}, {5, 3}, {6, 4}, {7, 4}, {11, 6}, {12, 7}, {12, 12}}...),
		regChanges("last node seen", putLastSeen, [][2]int{{2, 2}, {3, 3}, {11, 11}, {12, 12}, {12, -1}}...),
		regChanges("phases of one client", putPhasesOfOne, [][2]int{{ask, ask}, {ask, tell}, {tell, ask}, {tell, tell}}...),
		regChanges("last client", putLastClient, 1, 3),
		regChanges("end by phase", putEndOfFirst, [][2]int{
			{ask, 1}, {ask, 4}, {ask, 5}, {ask, 19}, {ask, 20}, {ask, -1}, {tell, 1}, {tell, 4}, {tell, 5}, {tell, 19}, {tell, 20}, {tell, -1},
			{done, 0}, {done, 3}, {done, 4}, {done, 20}, {done, 21}, {done, -1}, {done, math.MaxInt}, {done, math.MinInt}}...),
	)
}

func badTimeChanges() []regChange {
	return slices.Concat(
		regChanges("start of ask", putStartOfAsk, -1, 20, 21, 0, 3, 9, 12, 13, 14, math.MinInt, math.MaxInt),
		regChanges("start of done", putStartOfDone, -1, 12, 13, 20, 0, 9, math.MinInt, math.MaxInt),
		regChanges("end of done", putEndOfDone, -1, 0, 3, 2, 20, 21, 9, 13, 14, 19, math.MinInt, math.MaxInt),
		regChanges("end of tell", putEndOfTell, -1, 1, 13, 15, 19, 20),
		regChanges("end of ask", putEndOfAsk, -1, 1, 19, 20),
		regChanges("times of done", putTimesOfDone, [][2]int{{-1, 1}, {5, 5}, {18, 20}, {20, 21}, {math.MaxInt, math.MinInt}, {math.MaxInt, math.MaxInt}, {math.MinInt, math.MinInt}}...),
		// Start and Start, Start and End, End and Start, End and End
		regChanges("times of two", putTimesOfTwo, [][4]int{{0, 2, 0, 3}, {3, 4, 0, 3}, {0, 3, 3, 4}, {0, 3, 1, 3}, {0, 3, 0, 3}}...),
		regChanges("starts of two", putStartsOfTwo, [][2]int{{0, 0}, {5, 5}, {19, 19}}...),
		regChanges("start and times", putStartAndTimes, [][3]int{{1, 1, 2}, {2, 1, 2}, {0, 0, 2}}...),
		regChanges("times and start", putTimesAndStart, [][3]int{{1, 1, 2}, {2, 1, 2}, {0, 0, 2}}...),
	)
}

// goodRegisterAgain tells the document's words a second time.
func goodRegisterAgain(r impl.Register) bool {
	if r.Clock < 0 || r.Clock > 1000 || len(r.Copies) < 1 || len(r.Copies) > 12 || len(r.Ops) > 7 {
		return false
	}
	for _, c := range r.Copies {
		if !goodCopyAgain(c) {
			return false
		}
	}
	times, open := map[int]int{}, map[int]int{}
	for _, op := range r.Ops {
		if !goodRegOpAgain(op, len(r.Copies)) || op.Start < 0 || op.Start >= r.Clock {
			return false
		}
		times[op.Start]++
		if op.Phase == impl.PhaseDone {
			if op.End <= op.Start || op.End >= r.Clock {
				return false
			}
			times[op.End]++
		} else if open[op.Client]++; op.End != 0 || open[op.Client] > 1 {
			return false
		}
	}
	for _, many := range times {
		if many > 1 {
			return false
		}
	}
	return true
}

func goodCopyAgain(c impl.Copy) bool {
	return c.N >= 0 && c.N <= 1000 && c.Id >= 0 && c.Id <= 9 && valueAgain(c.Value)
}

func goodRegOpAgain(op impl.RegOp, nodes int) bool {
	if op.Client < 0 || op.Client > 9 || op.Phase < 1 || op.Phase > 3 || !valueAgain(op.Value) || !op.Write && op.Value != "" {
		return false
	}
	for i, node := range op.Seen {
		if node < 0 || node >= nodes || i > 0 && op.Seen[i-1] >= node {
			return false
		}
	}
	if most := nodes / 2; len(op.Seen) > most || op.Phase == impl.PhaseDone && len(op.Seen) > 0 {
		return false
	}
	return goodCopyAgain(op.Best)
}

func TestLimitsOfRegisters(t *testing.T) {
	if impl.MaxRegOps != 7 || impl.MaxRegSteps != 100 || impl.PhaseAsk != 1 || impl.PhaseTell != 2 || impl.PhaseDone != 3 {
		t.Error(impl.MaxRegOps, impl.MaxRegSteps, impl.PhaseAsk, impl.PhaseTell, impl.PhaseDone)
	}
}

func TestGoodRegister(t *testing.T) {
	if !impl.GoodRegister(mixedRegister()) {
		t.Error(registerText(mixedRegister()), "is good")
	}
	if impl.GoodRegister(impl.Register{}) {
		t.Error("the register without copies is not good")
	}
	for _, c := range goodRegisterChanges() {
		if r := changedRegister(c); !impl.GoodRegister(r) || !goodRegisterAgain(r) {
			t.Errorf("%s: %s is good", c.name, registerText(r))
		}
	}
	for _, c := range badRegisterChanges() {
		if r := changedRegister(c); impl.GoodRegister(r) || goodRegisterAgain(r) {
			t.Errorf("%s: %s is not good", c.name, registerText(r))
		}
	}
}

// checkNoRegister asks whether all functions give a register that is not good the zero answer.
func checkNoRegister(t *testing.T, r impl.Register) {
	t.Helper()
	for _, s := range manyRegSteps() {
		if left, ok := impl.StepRegister(r, s); ok || left.Clock != 0 || left.Copies != nil || left.Ops != nil {
			t.Errorf("%s: %+v: %s %v", registerText(r), s, registerText(left), ok)
		}
	}
	if l, ok := impl.CallsOf(r); ok || l != nil {
		t.Errorf("%s: %v %v", registerText(r), l, ok)
	}
	if c, ok := impl.NewestOf(r); ok || c != (impl.Copy{}) {
		t.Errorf("%s: %v %v", registerText(r), c, ok)
	}
}

func TestBadRegistersHaveTheZeroAnswer(t *testing.T) {
	checkNoRegister(t, impl.Register{})
	for _, c := range badRegisterChanges() {
		checkNoRegister(t, changedRegister(c))
	}
}

// spoilRegister puts one thing in a register as it may be, or as it may not.
func spoilRegister(m *mixer, r *impl.Register) {
	numbers := []int{-1, 0, 1, 2, 3, 5, 9, 10, 12, 13, 1000, 1001, r.Clock - 1, r.Clock, r.Clock + 1}
	number := func() int { return numbers[m.below(len(numbers))] }
	texts := []string{"", "a", "b", ";", "a value of 21 bytes.."}
	text := func() string { return texts[m.below(len(texts))] }
	one := copyOf(number(), number(), text())
	if m.below(6) == 0 || len(r.Ops) == 0 {
		r.Copies[m.below(len(r.Copies))] = one
		return
	}
	op := &r.Ops[m.below(len(r.Ops))]
	switch m.below(10) {
	case 0:
		r.Clock = number()
	case 1:
		op.Client = m.below(12) - 1
	case 2:
		op.Value = text()
	case 3:
		op.Write = !op.Write
	case 4:
		op.Phase = m.below(5)
	case 5:
		op.Seen = append(slices.Clone(op.Seen), m.below(len(r.Copies)+1))
	case 6:
		op.Seen = nil
	case 7:
		op.Best = one
	case 8:
		op.Start = number()
	case 9:
		op.End = number()
	}
}

// Registers that were played, with some things in them put otherwise.
func TestGoodRegisterOfRegistersThatAreChanged(t *testing.T) {
	good, bad := 0, 0
	all := []impl.Register{mixedRegister()}
	for seed := range 200 {
		r, _, _ := impl.PlayRegister(somePlayOfOps(uint64(seed)))
		all = append(all, r)
	}
	for seed := range 20000 {
		m := mixer(seed)
		r := deepRegister(all[m.below(len(all))])
		for range 1 + m.below(3) {
			spoilRegister(&m, &r)
		}
		want := goodRegisterAgain(r)
		if want {
			good++
		} else {
			bad++
		}
		if impl.GoodRegister(r) != want {
			t.Fatalf("%s: not %v", registerText(r), want)
		}
	}
	if good < 1000 || bad < 1000 {
		t.Error(good, bad)
	}
}
