package tests

import (
	"slices"
	"testing"

	"loop.example/g00218/impl"
)

// callsOfAgain tells the document's words a second time.
func callsOfAgain(r impl.Register) []impl.Call {
	var l []impl.Call
	for i, op := range r.Ops {
		switch {
		case op.Write && op.Phase == impl.PhaseDone:
			l = append(l, impl.Call{Proc: op.Client, Write: true, Key: "x", Value: op.Value, Start: op.Start, End: op.End})
		case op.Write:
			l = append(l, impl.Call{Proc: op.Client, Write: true, Key: "x", Value: op.Value, Start: op.Start, End: 999000 + i})
		case op.Phase == impl.PhaseDone:
			l = append(l, impl.Call{Proc: op.Client, Key: "x", Value: op.Best.Value, Start: op.Start, End: op.End})
		}
	}
	return l
}

func TestCallsOf(t *testing.T) {
	for _, c := range []struct {
		nodes       int
		steps, want string
	}{
		{3, "", ""},
		// reads that are not done are no calls, whatever they have found
		{3, "r1", ""},
		{3, "r1 0:0", ""},
		{3, "r1 0:0 0:1 0:2", ""},
		{1, "r1 0:0 0:0", "1r:x=@0-2"},
		// writes are calls as soon as they have begun
		{3, "w1=v", "1w:x=v@0-999000"},
		{3, "w1=v 0:0 0:1 0:1", "1w:x=v@0-999000"},
		{3, "w1=v 0:0 0:1 0:1 0:2", "1w:x=v@0-4"},
		{3, "w9=", "9w:x=@0-999000"},
		// the number is that of the op, also where ops ahead of it are no calls
		{3, "r1 r2 w3=c r4 w5=e r6 w0=g", "3w:x=c@2-999002 5w:x=e@4-999004 0w:x=g@6-999006"},
		{1, "w1=a 0:0 0:0 r2 r3 w4=b 1:0 1:0 3:0 2:0 3:0 2:0", "1w:x=a@0-2 2r:x=a@3-7 3r:x=a@4-11 4w:x=b@5-10"},
		// what a read found is what it tells, not what is newest in the end
		{3, "w1=a 0:0 0:1 0:0 r2 1:0 1:1 1:1 1:2 r3 2:1 2:2 0:2", "1w:x=a@0-12 2r:x=a@4-8"},
		{3, "r2 0:0 0:1 w1=a 1:0 1:1 1:0 1:1 0:0 0:2", "2r:x=@0-9 1w:x=a@3-7"},
	} {
		r, done, _ := impl.PlayRegister(c.nodes, regSteps(c.steps))
		l, ok := impl.CallsOf(r)
		if !ok || callsText(l) != c.want || slices.Contains(done, false) {
			t.Errorf("%s: %s %v (%v)", c.steps, callsText(l), ok, done)
		}
	}
	if l, ok := impl.CallsOf(mixedRegister()); !ok || callsText(l) != "1w:x=a@0-9 2r:x=a@3-12 1w:x=b@13-999002 4w:x=@19-999004" {
		t.Error(callsText(l), ok)
	}
}

// A register need not have been played: the Value of a write counts for it, that of Best for a read, whatever the other is.
func TestCallsOfTakesTheRightValue(t *testing.T) {
	r := mixedRegister()
	for i := range r.Ops {
		r.Ops[i].Best = copyOf(1, 1, "best")
	}
	if l, ok := impl.CallsOf(r); !ok || callsText(l) != "1w:x=a@0-9 2r:x=best@3-12 1w:x=b@13-999002 4w:x=@19-999004" {
		t.Error(callsText(l), ok)
	}
	// seven ops, and done ops of one client that overlap: such calls are told too, though chapter 7 has no answer of them
	r.Ops = doneAt(0, 9, 1, 8, 2, 7, 3, 6, 4, 5, 10, 12, 11, 13)
	for i := range r.Ops {
		r.Ops[i].Client = 5
	}
	l, ok := impl.CallsOf(r)
	if !ok || len(l) != 7 || impl.GoodCalls(l) || !slices.Equal(l, callsOfAgain(r)) {
		t.Error(callsText(l), ok)
	}
}

func TestCallsOfManyRegisters(t *testing.T) {
	for _, r := range someRegisters() {
		l, ok := impl.CallsOf(r)
		if good := goodRegisterAgain(r); ok != good || good && !slices.Equal(l, callsOfAgain(r)) || !good && l != nil {
			t.Errorf("%s: %s %v", registerText(r), callsText(l), ok)
		}
	}
}

func TestNewestOf(t *testing.T) {
	for _, c := range []struct {
		copies []impl.Copy
		at     int
	}{
		{[]impl.Copy{copyOf(0, 0, "")}, 0},
		{[]impl.Copy{copyOf(5, 5, "e")}, 0},
		// N counts ahead of Id
		{[]impl.Copy{copyOf(1, 9, "a"), copyOf(2, 0, "b")}, 1},
		{[]impl.Copy{copyOf(2, 0, "b"), copyOf(1, 9, "a")}, 0},
		{[]impl.Copy{copyOf(0, 9, "a"), copyOf(1, 0, "b"), copyOf(0, 9, "c")}, 1},
		{[]impl.Copy{copyOf(999, 9, "a"), copyOf(1000, 0, "b")}, 1},
		// of one N the Id
		{[]impl.Copy{copyOf(3, 4, "a"), copyOf(3, 5, "b"), copyOf(3, 3, "c")}, 1},
		{[]impl.Copy{copyOf(3, 4, "z"), copyOf(3, 2, "y"), copyOf(3, 5, "")}, 2},
		// several alike: the first one, whatever their values
		{[]impl.Copy{copyOf(1, 1, "a"), copyOf(2, 2, "b"), copyOf(2, 2, "c"), copyOf(2, 2, "a")}, 1},
		{[]impl.Copy{copyOf(2, 2, "a"), copyOf(2, 2, "z")}, 0},
		{[]impl.Copy{copyOf(2, 2, "z"), copyOf(2, 2, "a")}, 0},
		{slices.Concat(make([]impl.Copy, 11), []impl.Copy{copyOf(0, 1, "last")}), 11},
	} {
		r := impl.Register{Copies: c.copies}
		if newest, ok := impl.NewestOf(r); newest != c.copies[c.at] || !ok {
			t.Errorf("%v: %v %v", c.copies, newest, ok)
		}
	}
	// a Best that no copy has yet is not the newest copy
	r, _, _ := impl.PlayRegister(3, regSteps("w1=v 0:0 0:1"))
	if newest, ok := impl.NewestOf(r); newest != (impl.Copy{}) || !ok {
		t.Error(newest, ok)
	}
	r, _, _ = impl.PlayRegister(3, regSteps("w1=v 0:0 0:1 0:2"))
	if newest, ok := impl.NewestOf(r); newest != copyOf(1, 1, "v") || !ok {
		t.Error(newest, ok)
	}
}

// The newest copy of any three small ones: no other one is newer, and none ahead of it is as new.
func TestNewestOfAllSmallRegisters(t *testing.T) {
	for i := range 9 * 9 * 9 {
		var r impl.Register
		for at, k := range []int{i % 9, i / 9 % 9, i / 81} {
			r.Copies = append(r.Copies, copyOf(k%3, k/3, string(rune('a'+at))))
		}
		newest, ok := impl.NewestOf(r)
		at := slices.Index(r.Copies, newest)
		if at < 0 || !ok {
			t.Fatal(r, newest, ok)
		}
		for j, c := range r.Copies {
			if newerAgain(c, newest) || j < at && !newerAgain(newest, c) {
				t.Fatal(r, newest, c)
			}
		}
	}
}
