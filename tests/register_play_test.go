package tests

import (
	"math"
	"slices"
	"strconv"
	"testing"

	"loop.example/g00218/impl"
)

// somePlayOfOps is a play of several clients: most steps can be done, and some ops stay behind while they tell.
func somePlayOfOps(seed uint64) (int, []impl.RegStep) {
	m := mixer(seed)
	nodes := 1 + m.below(5)
	if m.below(6) == 0 {
		nodes = 6 + m.below(7)
	}
	clients, slow := 2+m.below(4), m.below(4)
	r, _ := impl.NewRegister(nodes)
	var l []impl.RegStep
	for range 20 + m.below(81) {
		s := nextRegStep(&m, r, clients, slow)
		l = append(l, s)
		if left, ok := impl.StepRegister(r, s); ok {
			r = left
		}
	}
	return nodes, l
}

func nextRegStep(m *mixer, r impl.Register, clients, slow int) impl.RegStep {
	var open []int
	for i, op := range r.Ops {
		if op.Phase == impl.PhaseAsk || op.Phase == impl.PhaseTell && (i%4 != slow || m.below(12) == 0) {
			open = append(open, i)
		}
	}
	switch {
	case m.below(15) == 0:
		return manyRegSteps()[m.below(len(manyRegSteps()))]
	case len(open) == 0 || len(r.Ops) < impl.MaxRegOps && m.below(5) == 0:
		s := beginRead(m.below(clients))
		if m.below(2) == 0 {
			values := []string{"", "same", strconv.Itoa(len(r.Ops)), strconv.Itoa(len(r.Ops))}
			s = beginWrite(s.Client, values[m.below(len(values))])
		}
		return s
	}
	return meet(open[m.below(len(open))], m.below(len(r.Copies)))
}

func TestNewRegister(t *testing.T) {
	for _, nodes := range []int{math.MinInt, -12, -1, 0, 13, 14, 1 << 32, math.MaxInt} {
		if r, ok := impl.NewRegister(nodes); ok || r.Clock != 0 || r.Copies != nil || r.Ops != nil {
			t.Error(nodes, registerText(r), ok)
		}
	}
	for nodes := 1; nodes <= 12; nodes++ {
		r, ok := impl.NewRegister(nodes)
		if !ok || !sameRegister(r, impl.Register{Copies: make([]impl.Copy, nodes)}) || !impl.GoodRegister(r) {
			t.Error(nodes, registerText(r), ok)
		}
	}
}

func TestPlayRegister(t *testing.T) {
	for _, c := range []struct {
		nodes int
		steps string
		not   []int
		left  string
	}{
		{1, "", nil, "0 0.0="},
		{1, "r3 0:0 0:0", nil, "3 0.0= 3r=/3[]0.0=@0-2"},
		{1, "w3=v 0:0 0:0 w3=u 1:0 1:0", nil, "6 2.3=u 3w=v/3[]1.3=v@0-2 3w=u/3[]2.3=u@3-5"},
		{2, "w3=v 0:1 0:0 0:1", nil, "4 0.0= 1.3=v 3w=v/2[1]1.3=v@0-0"},
		{3, "w1=v 0:0 0:1 0:0 0:2 r2 1:1 1:2 1:0 1:1", nil, "10 1.1=v 1.1=v 1.1=v 1w=v/3[]1.1=v@0-4 2r=/3[]1.1=v@5-9"},
		// two write at once: the greater Id is the newer one
		{3, "w4=a w5=b 0:0 0:1 1:1 1:2 0:0 1:0 0:1 1:1 0:2", []int{10}, "10 1.5=b 1.5=b 0.0= 4w=a/3[]1.4=a@0-8 5w=b/3[]1.5=b@1-9"},
		// steps that cannot be done, after which all goes on as it was: they take no time
		{2, "0:0 r1 r1 w1=a 0:0 0:0 0:2 1:0 0:1 0:1 r10 w2=; 0:0 0:0 r1", []int{0, 2, 3, 5, 6, 7, 10, 11, 13}, "6 0.0= 0.0= 1r=/3[]0.0=@0-4 1r=/1[]0.0=@5-0"},
		{12, "r0 r1 r2 r3 r4 r5 r6 r7 6:11", []int{7}, "8 0.0= 0.0= 0.0= 0.0= 0.0= 0.0= 0.0= 0.0= 0.0= 0.0= 0.0= 0.0= 0r=/1[]0.0=@0-0 1r=/1[]0.0=@1-0 2r=/1[]0.0=@2-0 3r=/1[]0.0=@3-0 4r=/1[]0.0=@4-0 5r=/1[]0.0=@5-0 6r=/1[11]0.0=@6-0"},
	} {
		l := regSteps(c.steps)
		want := slices.Repeat([]bool{true}, len(l))
		for _, i := range c.not {
			want[i] = false
		}
		r, done, ok := impl.PlayRegister(c.nodes, l)
		if !ok || !slices.Equal(done, want) || registerText(r) != c.left {
			t.Errorf("%s: %v %v, %s is left", c.steps, done, ok, registerText(r))
		}
	}
}

func TestPlayRegisterOfNodes(t *testing.T) {
	for _, nodes := range []int{math.MinInt, -1, 0, 1, 2, 11, 12, 13, math.MaxInt} {
		for _, text := range []string{"", "w1=v", "w1=v 0:0 r2 0:11 0:12"} {
			l := regSteps(text)
			r, done, ok := impl.PlayRegister(nodes, l)
			if nodes < 1 || nodes > 12 {
				if ok || done != nil || r.Clock != 0 || r.Copies != nil || r.Ops != nil {
					t.Error(nodes, text, registerText(r), done, ok)
				}
			} else if !ok || len(done) != len(l) || len(r.Copies) != nodes || len(l) == 5 && (done[3] != (nodes == 12) || done[4]) {
				t.Error(nodes, text, registerText(r), done, ok)
			}
		}
	}
}

func TestPlayRegisterHasALimit(t *testing.T) {
	for _, text := range []string{"w1=v", "0:0", "w1=v 0:0 0:0 r2 1:0 1:0 w3=u"} {
		for _, n := range []int{99, 100, 101, 102, 5000} {
			l := slices.Repeat(regSteps(text), n)[:n]
			r, done, ok := impl.PlayRegister(1, l)
			if n <= 100 {
				if !ok || len(done) != n || !impl.GoodRegister(r) {
					t.Error(text, n, registerText(r), done, ok)
				}
			} else if ok || done != nil || r.Clock != 0 || r.Copies != nil || r.Ops != nil {
				t.Error(text, n, registerText(r), done, ok)
			}
		}
	}
	// the hundredth step counts
	l := append(slices.Repeat(regSteps("9:9"), 99), beginRead(5))
	if r, done, ok := impl.PlayRegister(3, l); !ok || !done[99] || slices.Contains(done[:99], true) || len(r.Ops) != 1 || r.Clock != 1 {
		t.Error(registerText(r), done, ok)
	}
}

// A play is its steps, one after the other, each that can be done.
func TestPlayRegisterIsStepsInARow(t *testing.T) {
	for seed := range 150 {
		nodes, l := somePlayOfOps(uint64(seed))
		r, _ := impl.NewRegister(nodes)
		for i, s := range l {
			played, done, ok := impl.PlayRegister(nodes, l[:i])
			if !ok || len(done) != i || !sameRegister(played, r) {
				t.Fatalf("%+v: %s %v %v, not %s", l[:i], registerText(played), done, ok, registerText(r))
			}
			left, can := checkRegStep(t, r, s)
			if can {
				r = left
			}
			if _, done, _ := impl.PlayRegister(nodes, l[:i+1]); done[i] != can {
				t.Fatalf("%+v: %v", l[:i+1], done)
			}
		}
	}
}
