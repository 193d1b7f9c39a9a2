package tests

import (
	"math"
	"slices"
	"testing"

	"loop.example/g00218/impl"
)

// configTexts are the configs of a play, one behind the other.
func configTexts(l []impl.Config) []string {
	var texts []string
	for _, c := range l {
		texts = append(texts, configText(c))
	}
	return texts
}

// configsStart are three numbers that NewConfig takes, mostly of several nodes and copies.
func configsStart(m *mixer) [3]int {
	nodes := 1 + m.below(12)
	return [3]int{1 + m.below(8), nodes, 1 + m.below(nodes)}
}

// somePlayOfConfig is a play in which nodes go down, come up and take over, few or many at a time.
func somePlayOfConfig(seed uint64) ([3]int, []impl.Move) {
	m := mixer(seed)
	x := configsStart(&m)
	calm := 1 + m.below(4)
	var l []impl.Move
	for range 61 - m.below(61)*m.below(2) - 1 {
		move := impl.Move{Kind: impl.MoveNext, Node: m.below(min(12, x[1]+1))}
		switch {
		case m.below(2*calm) == 0:
			move.Kind = impl.MoveDown
		case m.below(2) == 0:
			move.Kind = impl.MoveUp
		case m.below(20) == 0:
			move = impl.Move{Kind: m.below(5), Node: m.below(14) - 1}
		}
		l = append(l, move)
	}
	return x, l
}

func TestPlayConfig(t *testing.T) {
	for _, x := range []struct {
		start [3]int
		moves string
		want  []string
	}{
		{[3]int{1, 1, 1}, "", []string{"1 - 0"}},
		{[3]int{3, 3, 2}, "", []string{"1 - 01/12/20"}},
		{[3]int{3, 3, 2}, "d1 u1 n1", []string{"1 - 01/12/20", "2 1 0/2/20", "3 - 01/2/20"}},
		// the last one goes and comes back: nobody has the part any more
		{[3]int{1, 1, 1}, "d0 u0 n0 u0", []string{"1 - 0", "2 0 .", "3 - ."}},
		// who comes back is brought on by moves that are due
		{[3]int{4, 2, 2}, "d0 n1 u0 n0 n0 n1", []string{"1 - 01/10/01/10", "2 0 1/1/1/1", "3 - 1/1/1/1"}},
		{[3]int{4, 3, 3}, "d0 d1 u0 u1 n0 n1 d2", []string{"1 - 012/102/201/012", "2 0 12/12/21/12", "3 01 2/2/2/2", "4 1 2/2/2/2", "5 - 2/2/2/2", "6 2 ./././."}},
		{[3]int{4, 3, 2}, "d0 u0 u0 n0 d2 u2 n2 n0 n1", []string{"1 - 01/12/20/01", "2 0 1/12/2/1", "3 - 10/12/2/1", "4 - 01/12/2/1", "5 2 01/1/./1", "6 - 01/12/./1", "7 - 01/21/./1"}},
		// moves that are not done among others
		{[3]int{2, 2, 2}, "u0 n0 d. dc d0 d0 n0 u1 u0 u0 d1", []string{"1 - 01/10", "2 0 1/1", "3 - 1/1", "4 1 ./."}},
		{[3]int{1, 12, 12}, "d0 d2 d1 u0 da db", []string{"1 - 0123456789ab", "2 0 123456789ab", "3 02 13456789ab", "4 012 3456789ab", "5 12 3456789ab", "6 12a 3456789b", "7 12ab 3456789"}},
		// nodes that NewConfig has not told of
		{[3]int{2, 2, 1}, "d5 u5 d0 u0 u5 d1 db", []string{"1 - 0/1", "2 5 0/1", "3 - 0/1", "4 0 ./1", "5 - ./1", "6 1 ./.", "7 1b ./."}},
		{[3]int{2, 2, 2}, "d5 d0 u5", []string{"1 - 01/10", "2 5 01/10", "3 05 1/1", "4 0 1/1"}},
	} {
		all, ok := impl.PlayConfig(x.start[0], x.start[1], x.start[2], configMoves(x.moves))
		if !ok || !slices.Equal(configTexts(all), x.want) {
			t.Errorf("%v: %s: %q %v, not %q", x.start, x.moves, configTexts(all), ok, x.want)
		}
	}
}

// refusedStarts are numbers of which there is no config.
func refusedStarts() [][3]int {
	l := [][3]int{{0, 0, 0}, {1, 3, 4}, {3, 12, 13}, {8, 1, 2}, {9, 13, 14}, {-1, -1, -1}, {3, 2, 3}}
	for _, n := range []int{math.MinInt, -1, 0, 13, 1 << 32, 1<<32 + 1, math.MaxInt} {
		l = append(l, [3]int{n, 3, 2}, [3]int{3, n, 1}, [3]int{3, 3, n}, [3]int{3, n, n})
	}
	return append(l, [3]int{9, 3, 2}, [3]int{9, 12, 1})
}

func TestPlayConfigOfWhatNewConfigRefuses(t *testing.T) {
	for _, x := range refusedStarts() {
		if c, ok := impl.NewConfig(x[0], x[1], x[2]); ok || !isZeroConfig(c) {
			t.Error(x, c, ok)
		}
		for _, l := range [][]impl.Move{nil, configMoves("d0"), configMoves("d0 u0 n1")} {
			if all, ok := impl.PlayConfig(x[0], x[1], x[2], l); ok || all != nil {
				t.Error(x, l, all, ok)
			}
		}
	}
	for _, x := range [][3]int{{1, 1, 1}, {8, 1, 1}, {8, 12, 12}, {1, 12, 1}} {
		want, _ := impl.NewConfig(x[0], x[1], x[2])
		for _, l := range [][]impl.Move{nil, {}, configMoves("u0"), configMoves("n0 d. uc"), {{}, {Kind: 4}}} {
			if all, ok := impl.PlayConfig(x[0], x[1], x[2], l); !ok || len(all) != 1 || !sameConfig(all[0], want) {
				t.Error(x, l, all, ok)
			}
		}
	}
}

func TestPlayConfigHasALimit(t *testing.T) {
	for _, text := range []string{"d1 u1", "u0", "d1 n2 u1", "n9 d."} {
		l := slices.Repeat(configMoves(text), 64)
		for _, many := range []int{0, 1, 2, 59, 60} {
			if all, ok := impl.PlayConfig(3, 3, 2, l[:many]); !ok || len(all) < 1 || len(all) > 1+many {
				t.Error(many, all, ok)
			}
		}
		for _, many := range []int{61, 62, len(l)} {
			if all, ok := impl.PlayConfig(3, 3, 2, l[:many]); ok || all != nil {
				t.Error(many, all, ok)
			}
		}
	}
	// each one may be done, the last one too
	all, ok := impl.PlayConfig(3, 3, 2, slices.Repeat(configMoves("d1 u1"), 30))
	if !ok || len(all) != 61 || configText(all[60]) != "61 - 01/2/20" || configText(all[59]) != "60 1 0/2/20" {
		t.Error(len(all), ok)
	}
}

// A play is its steps one by one: each config behind a move that was done.
func TestPlayConfigIsItsSteps(t *testing.T) {
	did, refused := 0, 0
	for seed := range 4000 {
		x, l := somePlayOfConfig(uint64(seed))
		c, _ := impl.NewConfig(x[0], x[1], x[2])
		want := []string{configText(c)}
		for i, m := range l {
			left, ok := checkConfigStep(t, c, m)
			if ok {
				c = left
				want = append(want, configText(c))
				did++
			} else {
				refused++
			}
			if i%20 == 7 || i == len(l)-1 {
				all, ok := impl.PlayConfig(x[0], x[1], x[2], l[:i+1])
				if !ok || !slices.Equal(configTexts(all), want) {
					t.Fatalf("%v: %v: %q, not %q", x, l[:i+1], configTexts(all), want)
				}
			}
		}
	}
	if did < 20000 || refused < 20000 {
		t.Error(did, refused)
	}
}
