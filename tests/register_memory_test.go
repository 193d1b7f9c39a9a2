package tests

import (
	"fmt"
	"math"
	"slices"
	"strings"
	"testing"
	"unsafe"

	"loop.example/g00218/impl"
)

// registerAnswers asks all functions of registers, and tells what they answered as one text.
func registerAnswers(r impl.Register, s impl.RegStep) string {
	left, ok1 := impl.StepRegister(r, s)
	l, ok2 := impl.CallsOf(r)
	newest, ok3 := impl.NewestOf(r)
	return fmt.Sprint(impl.GoodRegister(r), left, ok1, l, ok2, newest, ok3)
}

// someRegisters are good ones, at the edges and played ones, and some that are not.
func someRegisters() []impl.Register {
	l := []impl.Register{{}, mixedRegister()}
	for i, c := range append(goodRegisterChanges(), badRegisterChanges()...) {
		if i%40 == 0 || i < 10 {
			l = append(l, changedRegister(c))
		}
	}
	for seed := range 60 {
		nodes, steps := somePlayOfOps(uint64(seed))
		r, _, _ := impl.PlayRegister(nodes, steps)
		half, _, _ := impl.PlayRegister(nodes, steps[:len(steps)/2])
		l = append(l, r, half)
	}
	return l
}

// wholeRegister is the register with all that lies behind the lengths of its lists.
func wholeRegister(r impl.Register) impl.Register {
	r.Copies, r.Ops = slices.Clone(r.Copies[:cap(r.Copies)]), slices.Clone(r.Ops[:cap(r.Ops)])
	for i, op := range r.Ops {
		r.Ops[i].Seen = slices.Clone(op.Seen[:cap(op.Seen)])
	}
	return r
}

// roomyRegister is the register with room behind each list, where something lies that must not matter.
func roomyRegister(r impl.Register, n int) impl.Register {
	r = deepRegister(r)
	for i, op := range r.Ops {
		r.Ops[i].Seen = append(op.Seen, n, n, n)[:len(op.Seen)]
	}
	behind := impl.RegOp{Client: n, Phase: n, Seen: []int{n}, Start: n}
	r.Copies = append(r.Copies, copyOf(n, n, "behind"), copyOf(n, n, ";"))[:len(r.Copies)]
	r.Ops = append(r.Ops, behind, behind)[:len(r.Ops)]
	return r
}

func TestNoRegisterIsWrittenInto(t *testing.T) {
	for _, r := range someRegisters() {
		old := deepRegister(r)
		for _, s := range manyRegSteps() {
			registerAnswers(r, s)
		}
		if !sameRegister(r, old) {
			t.Errorf("%s became %s", registerText(old), registerText(r))
		}
	}
}

func TestNoStepOfARegisterIsWrittenInto(t *testing.T) {
	for seed := range 100 {
		nodes, l := somePlayOfOps(uint64(seed))
		old := slices.Clone(l)
		impl.PlayRegister(nodes, l)
		if !slices.Equal(l, old) {
			t.Errorf("%+v became %+v", old, l)
		}
	}
}

// Whatever lies behind the lengths, good or bad, is neither read nor written nor handed out.
func TestRegistersKeepToTheirLengths(t *testing.T) {
	for _, r := range someRegisters() {
		for _, n := range []int{-1, 0, 1, 3} {
			long := roomyRegister(r, n)
			old := wholeRegister(long)
			for _, s := range manyRegSteps() {
				if got, want := registerAnswers(long, s), registerAnswers(r, s); got != want {
					t.Fatalf("%s: %s, not %s", registerText(r), got, want)
				}
			}
			if !sameRegister(wholeRegister(long), old) {
				t.Fatalf("%s became %s", registerText(old), registerText(wholeRegister(long)))
			}
		}
	}
	l := regSteps("w1=v 0:0 0:0 r2 1:0")
	if r, done, ok := impl.PlayRegister(1, l[:3]); !ok || len(done) != 3 || registerText(r) != "3 1.1=v 1w=v/3[]1.1=v@0-2" {
		t.Error(registerText(r), done, ok)
	}
	if _, done, ok := impl.PlayRegister(1, slices.Repeat(l, 40)[:100]); len(done) != 100 || !ok {
		t.Error(done, ok)
	}
}

func copySpan(c impl.Copy, what string) span {
	return textSpan(c.Value, what+"'s value")
}

// registerSpans are all lists and texts of a register.
func registerSpans(r impl.Register, what string) []span {
	spans := []span{spanOf(r.Copies, what+"'s copies"), spanOf(r.Ops, what+"'s ops")}
	for _, c := range r.Copies {
		spans = append(spans, copySpan(c, what+"'s copy"))
	}
	for _, op := range r.Ops {
		spans = append(spans, textSpan(op.Value, what+"'s op's value"), spanOf(op.Seen, what+"'s seen"), copySpan(op.Best, what+"'s best"))
	}
	return spans
}

func regStepSpans(l ...impl.RegStep) []span {
	spans := []span{spanOf(l, "steps")}
	for _, s := range l {
		spans = append(spans, textSpan(s.Value, "step's value"))
	}
	return spans
}

func TestRegistersAreNewMemory(t *testing.T) {
	for _, r := range someRegisters() {
		given := roomyRegister(r, 1)
		spans := registerSpans(given, "given")
		for _, s := range manyRegSteps() {
			left, ok := impl.StepRegister(given, s)
			if !ok {
				continue
			}
			checkNew(t, registerSpans(left, "left"), append(spans, regStepSpans(s)...))
			// and what follows from an answer lies apart from it
			if next, ok := impl.StepRegister(left, meet(len(left.Ops)-1, 0)); ok {
				checkNew(t, registerSpans(next, "next"), registerSpans(left, "left"))
			}
		}
		l, _ := impl.CallsOf(given)
		checkNew(t, callSpans(l, "calls"), spans)
		newest, _ := impl.NewestOf(given)
		checkNew(t, []span{copySpan(newest, "newest")}, spans)
	}
}

func TestWhatPlayRegisterTellsIsNewMemory(t *testing.T) {
	for seed := range 100 {
		nodes, l := somePlayOfOps(uint64(seed))
		r, done, _ := impl.PlayRegister(nodes, l)
		other, otherDone, _ := impl.PlayRegister(nodes, l)
		given := append(regStepSpans(l...), registerSpans(other, "other")...)
		checkNew(t, append(registerSpans(r, "register"), spanOf(done, "done")), append(given, spanOf(otherDone, "other done")))
		a, _ := impl.NewRegister(nodes)
		b, _ := impl.NewRegister(nodes)
		checkNew(t, registerSpans(a, "new"), registerSpans(b, "another"))
		one, _ := impl.CallsOf(r)
		again, _ := impl.CallsOf(r)
		checkNew(t, callSpans(one, "calls"), append(callSpans(again, "calls again"), registerSpans(r, "register")...))
	}
}

// Lists and texts of the argument that lie in one memory do not bring those of the answer together.
func TestRegistersThatShareMemoryAreParted(t *testing.T) {
	nodes := []int{0, 1, 2, 3, 4}
	text := "abcdefghij"
	r := impl.Register{Clock: 9, Copies: slices.Repeat([]impl.Copy{copyOf(1, 1, text)}, 5), Ops: []impl.RegOp{
		{Client: 1, Write: true, Value: text, Phase: impl.PhaseAsk, Seen: nodes[:2], Best: copyOf(1, 1, text), Start: 1},
		{Client: 2, Write: true, Value: text[2:5], Phase: impl.PhaseTell, Seen: nodes[:1], Best: copyOf(2, 2, text[2:5]), Start: 2},
		{Client: 3, Phase: impl.PhaseTell, Seen: nodes[1:3], Best: copyOf(3, 1, text[1:]), Start: 3},
		{Client: 4, Phase: impl.PhaseAsk, Seen: nodes[:0], Start: 4},
	}}
	old := deepRegister(r)
	for _, s := range []impl.RegStep{beginWrite(5, text), beginRead(6), meet(0, 2), meet(0, 4), meet(1, 1), meet(1, 4), meet(2, 0), meet(2, 4), meet(3, 0), meet(3, 4)} {
		left, ok := checkRegStep(t, r, s)
		if checkNew(t, registerSpans(left, "left"), append(registerSpans(r, "given"), spanOf(nodes, "nodes"))); !ok {
			t.Error(s, ok)
		}
	}
	if !sameRegister(r, old) || !slices.Equal(nodes, upTo(5)) {
		t.Error(registerText(r), nodes)
	}
}

// Two answers to one question lie apart: one may be written into.
func TestTwoAnswersOfRegistersShareNoMemory(t *testing.T) {
	r := mixedRegister()
	for range 2 {
		left, _ := impl.StepRegister(r, meet(3, 0))
		l, _ := impl.CallsOf(r)
		if !slices.Equal(left.Ops[3].Seen, []int{0, 2}) || callsText(l) != "1w:x=a@0-9 2r:x=a@3-12 1w:x=b@13-999002 4w:x=@19-999004" {
			t.Error(registerText(left), callsText(l))
		}
		for _, op := range left.Ops {
			clear(op.Seen[:cap(op.Seen)])
		}
		clear(left.Ops[:cap(left.Ops)])
		clear(left.Copies[:cap(left.Copies)])
		clear(l[:cap(l)])
	}
}

// Texts laid over bytes that change later show whether an answer still hangs on them.
func TestRegistersDoNotHangOnWhatWasGiven(t *testing.T) {
	b := []byte("abcdefgh")
	text := unsafe.String(&b[0], len(b))
	played, _, _ := impl.PlayRegister(1, []impl.RegStep{beginWrite(1, text), meet(0, 0), meet(0, 0), beginRead(2), meet(1, 0), meet(1, 0)})
	given := impl.Register{Clock: 6, Copies: []impl.Copy{copyOf(1, 1, text)}, Ops: []impl.RegOp{
		{Client: 1, Write: true, Value: text, Phase: impl.PhaseDone, Best: copyOf(1, 1, text), End: 2},
		{Client: 2, Phase: impl.PhaseAsk, Start: 3},
	}}
	asked, _ := impl.StepRegister(given, meet(1, 0))
	begun, _ := impl.StepRegister(given, beginWrite(3, text))
	l, _ := impl.CallsOf(given)
	newest, _ := impl.NewestOf(given)
	copy(b, strings.Repeat("z", len(b)))
	for i, want := range []string{
		"6 1.1=abcdefgh 1w=abcdefgh/3[]1.1=abcdefgh@0-2 2r=/3[]1.1=abcdefgh@3-5",
		"7 1.1=abcdefgh 1w=abcdefgh/3[]1.1=abcdefgh@0-2 2r=/2[]1.1=abcdefgh@3-0",
		"7 1.1=abcdefgh 1w=abcdefgh/3[]1.1=abcdefgh@0-2 2r=/1[]0.0=@3-0 3w=abcdefgh/1[]0.0=@6-0",
	} {
		if got := registerText([]impl.Register{played, asked, begun}[i]); got != want {
			t.Error(got, want)
		}
	}
	if callsText(l) != "1w:x=abcdefgh@0-2" || newest != copyOf(1, 1, "abcdefgh") {
		t.Error(callsText(l), newest)
	}
}

// What was asked before does not matter: nothing is kept from call to call.
func TestRegistersAreAnsweredAlikeAgain(t *testing.T) {
	var first []string
	all := someRegisters()
	for _, r := range all {
		first = append(first, registerAnswers(r, meet(1, 1)))
	}
	for i, r := range slices.Backward(all) {
		if got := registerAnswers(r, meet(1, 1)); got != first[i] {
			t.Errorf("%s: %s, and %s at first", registerText(r), got, first[i])
		}
	}
}

// Registers of anything at all are answered, and those that are not good by the zero answer.
func TestRegistersOfAnything(t *testing.T) {
	numbers := []int{math.MinInt, -1, 0, 0, 1, 1, 2, 2, 3, 3, 4, 5, 9, 10, 12, 13, 999, 1000, 1001, math.MaxInt}
	texts := []string{"", "", "", "a", "b", ";", "\xff\x00", strings.Repeat("x", 1000)}
	good := 0
	for seed := range 40000 {
		m := mixer(seed)
		number := func() int { return numbers[m.below(len(numbers))] }
		text := func() string { return texts[m.below(len(texts))] }
		one := func() impl.Copy {
			if m.below(4) > 0 {
				return copyOf(m.below(3), m.below(3), "a")
			}
			return copyOf(number(), number(), text())
		}
		small := func() int {
			if m.below(8) > 0 {
				return m.below(4)
			}
			return number()
		}
		r := impl.Register{Clock: 4 + small()}
		for range m.below(4) {
			r.Copies = append(r.Copies, one())
		}
		for range m.below(3) {
			op := impl.RegOp{Client: small(), Write: m.below(2) == 0, Phase: 1 + m.below(3), Best: one(), Start: small()}
			if op.Phase == impl.PhaseDone || m.below(9) == 0 {
				op.End = small()
			}
			if op.Write || m.below(9) == 0 {
				op.Value = text()
			}
			for range m.below(5) / 3 {
				op.Seen = append(op.Seen, small())
			}
			r.Ops = append(r.Ops, op)
		}
		s := impl.RegStep{Begin: m.below(2) == 0, Client: small(), Write: m.below(2) == 0, Value: text(), Op: small(), Node: small()}
		registerAnswers(r, s)
		want := goodRegisterAgain(r)
		if impl.GoodRegister(r) != want {
			t.Fatalf("%s: not %v", registerText(r), want)
		}
		checkRegStep(t, r, s)
		l, ok := impl.CallsOf(r)
		newest, ok2 := impl.NewestOf(r)
		if ok != want || ok2 != want || want && !slices.Equal(l, callsOfAgain(r)) || !want && (l != nil || newest != impl.Copy{}) {
			t.Fatalf("%s: %v %v, %v %v", registerText(r), l, ok, newest, ok2)
		}
		if want && len(r.Ops) > 0 {
			good++
		}
		impl.PlayRegister(number(), slices.Repeat([]impl.RegStep{s}, m.below(110)))
	}
	if good < 2000 {
		t.Error(good)
	}
}
