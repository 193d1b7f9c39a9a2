package tests

import (
	"fmt"
	"math"
	"slices"
	"testing"

	"loop.example/g00218/impl"
)

// configAnswers asks all functions of a config, and tells what they answered as one text.
func configAnswers(c impl.Config, m impl.Move) string {
	left, ok1 := impl.StepConfig(c, m)
	accepts, ok2 := impl.AcceptsAt(c, c.Number, m.Node, m.Kind)
	moved, ok3 := impl.MovedParts(c, c)
	loads, ok4 := impl.LoadOf(c)
	other, _ := impl.NewConfig(3, 4, 2)
	away, ok5 := impl.MovedParts(c, other)
	from, ok6 := impl.MovedParts(other, c)
	return fmt.Sprint(impl.GoodConfig(c), left, ok1, accepts, ok2, moved, ok3, loads, ok4, away, ok5, from, ok6)
}

// someConfigs are good ones, at the edges, drawn and played ones, and some that are not.
func someConfigs() []impl.Config {
	l := badConfigs()
	for _, text := range goodConfigTexts() {
		l = append(l, configOf(text))
	}
	for seed := range 40 {
		x, moves := somePlayOfConfig(uint64(seed))
		all, _ := impl.PlayConfig(x[0], x[1], x[2], moves)
		m := mixer(seed)
		l = append(l, all[len(all)/2], all[len(all)-1], drawnConfig(&m))
	}
	return l
}

// wholeConfig is the config with all that lies behind the lengths of its lists.
func wholeConfig(c impl.Config) impl.Config {
	c.Down, c.Homes = slices.Clone(c.Down[:cap(c.Down)]), slices.Clone(c.Homes[:cap(c.Homes)])
	for part, h := range c.Homes {
		c.Homes[part].Backups = slices.Clone(h.Backups[:cap(h.Backups)])
	}
	return c
}

// roomyConfig is the config with room behind each list, where something lies that must not matter.
func roomyConfig(c impl.Config, n int) impl.Config {
	c = deepConfig(c)
	for part, h := range c.Homes {
		c.Homes[part].Backups = append(h.Backups, n, n, 11, n+1)[:len(h.Backups)]
	}
	c.Down = append(c.Down, n, 11, n)[:len(c.Down)]
	other := impl.Home{Primary: n, Backups: []int{n + 1, n}}
	c.Homes = append(c.Homes, other, impl.Home{}, other)[:len(c.Homes)]
	return c
}

func configSpans(c impl.Config, what string) []span {
	spans := []span{spanOf(c.Down, what+"'s down"), spanOf(c.Homes, what+"'s homes")}
	for part, h := range c.Homes {
		spans = append(spans, spanOf(h.Backups, fmt.Sprint(what, "'s backups of part ", part)))
	}
	return spans
}

func playSpans(l []impl.Config, what string) []span {
	spans := []span{spanOf(l, what)}
	for i, c := range l {
		spans = append(spans, configSpans(c, fmt.Sprint(what, " ", i))...)
	}
	return spans
}

func TestNoConfigIsWrittenInto(t *testing.T) {
	for _, c := range someConfigs() {
		old := deepConfig(c)
		for _, m := range allConfigMoves() {
			configAnswers(c, m)
		}
		if !sameConfig(c, old) {
			t.Errorf("%v became %v", old, c)
		}
	}
}

func TestNoMoveIsWrittenInto(t *testing.T) {
	for seed := range 100 {
		x, l := somePlayOfConfig(uint64(seed))
		old := slices.Clone(l)
		impl.PlayConfig(x[0], x[1], x[2], l)
		if !slices.Equal(l, old) {
			t.Errorf("%v became %v", old, l)
		}
	}
}

// Whatever lies behind the lengths, good or bad, is neither read nor written nor handed out.
func TestConfigsKeepToTheirLengths(t *testing.T) {
	for _, c := range someConfigs() {
		if len(c.Homes)+len(c.Down) > 1000 {
			continue
		}
		var want []string
		for _, m := range allConfigMoves() {
			want = append(want, configAnswers(c, m))
		}
		for _, n := range []int{-2, -1, 0, 3, 11, 12} {
			long := roomyConfig(c, n)
			old := wholeConfig(long)
			for i, m := range allConfigMoves() {
				if got := configAnswers(long, m); got != want[i] {
					t.Fatalf("%v: %v: %s, not %s", c, m, got, want[i])
				}
				left, _ := impl.StepConfig(long, m)
				checkNothingBehind(t, left)
			}
			if !sameConfig(wholeConfig(long), old) {
				t.Fatalf("%v became %v", old, wholeConfig(long))
			}
		}
	}
	moves := configMoves("d1 u1 n1 d0")
	if all, ok := impl.PlayConfig(3, 3, 2, moves[:2]); !ok || len(all) != 3 {
		t.Error(all, ok)
	}
	if all, ok := impl.PlayConfig(3, 3, 2, slices.Repeat(moves, 50)[:60]); !ok || len(all) < 2 {
		t.Error(all, ok)
	}
}

// checkNothingBehind asks that no list of an answer has anything behind its length.
func checkNothingBehind(t *testing.T, c impl.Config) {
	t.Helper()
	lists := [][]int{c.Down}
	for _, h := range c.Homes {
		lists = append(lists, h.Backups)
	}
	for _, l := range lists {
		for _, n := range l[len(l):cap(l)] {
			if n != 0 {
				t.Fatalf("%s: %v lies behind %v", configText(c), l[len(l):cap(l)], l)
			}
		}
	}
	for _, h := range c.Homes[len(c.Homes):cap(c.Homes)] {
		if h.Primary != 0 || h.Backups != nil {
			t.Fatalf("%s: %v lies behind the homes", configText(c), h)
		}
	}
}

func TestConfigsAreNewMemory(t *testing.T) {
	did := 0
	for _, c := range someConfigs() {
		if !impl.GoodConfig(c) {
			continue
		}
		given := roomyConfig(c, 3)
		spans := configSpans(given, "given")
		loads, _ := impl.LoadOf(given)
		moved, _ := impl.MovedParts(given, given)
		more, _ := impl.LoadOf(given)
		checkNew(t, []span{spanOf(loads, "loads"), spanOf(moved, "moved"), spanOf(more, "loads again")}, spans)
		for _, m := range allConfigMoves() {
			left, ok := impl.StepConfig(given, m)
			if !ok {
				continue
			}
			did++
			checkNew(t, configSpans(left, "left"), spans)
			away, _ := impl.MovedParts(given, left)
			checkNew(t, []span{spanOf(away, "moved")}, append(configSpans(left, "left"), spans...))
			// and what follows from an answer lies apart from it
			for _, m := range allConfigMoves() {
				if next, ok := impl.StepConfig(left, m); ok {
					checkNew(t, configSpans(next, "next"), configSpans(left, "left"))
				}
			}
		}
	}
	if did < 1000 {
		t.Error(did)
	}
}

// The configs of one play share nothing with one another, nor with those of another one.
func TestWhatPlayConfigTellsIsNewMemory(t *testing.T) {
	for seed := range 100 {
		x, l := somePlayOfConfig(uint64(seed))
		all, _ := impl.PlayConfig(x[0], x[1], x[2], l)
		other, _ := impl.PlayConfig(x[0], x[1], x[2], l)
		checkNew(t, playSpans(all, "played"), append(playSpans(other, "other"), spanOf(l, "moves")))
		fresh, _ := impl.NewConfig(x[0], x[1], x[2])
		checkNew(t, configSpans(fresh, "new"), playSpans(all, "played"))
		for _, c := range all {
			checkNothingBehind(t, c)
		}
	}
	all, _ := impl.PlayConfig(3, 3, 2, configMoves("d5 d1 u1 u5"))
	all[1].Homes[0].Backups[0] = 9
	all[1].Homes[1].Backups = append(all[1].Homes[1].Backups, 8)
	all[1].Down[0] = 7
	want := []string{"1 - 01/12/20", "2 7 09/128/20", "3 15 0/2/20", "4 5 01/2/20", "5 - 01/25/20"}
	if !slices.Equal(configTexts(all), want) {
		t.Errorf("%q", configTexts(all))
	}
}

// Lists of the argument that lie in one memory do not bring those of the answer together.
func TestConfigsThatShareMemoryAreParted(t *testing.T) {
	shared := []int{1, 2, 3, 4, 5, 6}
	c := impl.Config{Number: 1, Down: shared[4:5], Homes: []impl.Home{{Primary: 0, Backups: shared[:3]}, {Primary: 0, Backups: shared[:3]}, {Primary: 0, Backups: shared[1:4]}, {Primary: 4, Backups: shared[:2]}}}
	old := deepConfig(c)
	for word, want := range map[string]string{
		"d0": "2 05 123/123/234/412", "d1": "2 15 023/023/0234/42", "d2": "2 25 013/013/034/41", "d3": "2 35 012/012/024/412", "d4": "2 45 0123/0123/023/12", "d6": "2 56 0123/0123/0234/412",
		"u5": "2 - 0123/0123/0234/4125", "n1": "2 5 1023/0123/0234/412", "n2": "2 5 2013/0123/0234/412", "n3": "2 5 3012/0123/0234/412",
	} {
		left, ok := checkConfigStep(t, c, configMove(word))
		if checkNew(t, configSpans(left, "left"), append(configSpans(c, "given"), spanOf(shared, "shared"))); !ok || configText(left) != want {
			t.Error(word, configText(left), ok)
		}
	}
	if !sameConfig(c, old) || !slices.Equal(shared, []int{1, 2, 3, 4, 5, 6}) {
		t.Error(c, shared)
	}
}

// Two answers to one question lie apart: one may be written into.
func TestTwoAnswersOfConfigsShareNoMemory(t *testing.T) {
	moves := configMoves("d1 u1 n1 d0")
	for range 2 {
		fresh, _ := impl.NewConfig(3, 3, 2)
		left, _ := impl.StepConfig(configOf("1 - 01/12/20"), configMove("d1"))
		played, _ := impl.PlayConfig(3, 3, 2, moves)
		loads, _ := impl.LoadOf(fresh)
		moved, _ := impl.MovedParts(fresh, left)
		all := append([]impl.Config{fresh, left}, played...)
		if got := configTexts(all); !slices.Equal(got, []string{"1 - 01/12/20", "2 1 0/2/20", "1 - 01/12/20", "2 1 0/2/20", "3 - 01/2/20", "4 0 1/2/2"}) {
			t.Errorf("%q", got)
		}
		if !slices.Equal(loads[:4], []int{1, 1, 1, 0}) || !slices.Equal(moved, []int{1}) {
			t.Error(loads, moved)
		}
		for _, c := range all {
			spoilNodes(c)
		}
		for _, l := range [][]int{loads, moved} {
			for i := range l[:cap(l)] {
				l[:cap(l)][i] = -7
			}
		}
	}
}

// spoilNodes writes into all that a config has, and into the room behind it.
func spoilNodes(c impl.Config) {
	for _, h := range append(c.Homes, impl.Home{Backups: c.Down}) {
		l := h.Backups[:cap(h.Backups)]
		for i := range l {
			l[i] = -7
		}
	}
	clear(c.Homes[:cap(c.Homes)])
}

// What was asked before does not matter: nothing is kept from call to call.
func TestConfigsAreAnsweredAlikeAgain(t *testing.T) {
	all := someConfigs()
	for _, m := range configMoves("d0 u1 n2 dc") {
		var first []string
		for _, c := range all {
			first = append(first, configAnswers(c, m))
		}
		for i, c := range slices.Backward(all) {
			if got := configAnswers(c, m); got != first[i] {
				t.Errorf("%v: %s, and %s at first", c, got, first[i])
			}
		}
	}
}

// spoilConfig puts a number, or another length, at one place.
func spoilConfig(m *mixer, c *impl.Config, n int) {
	h := &c.Homes[m.below(len(c.Homes))]
	switch m.below(7) {
	case 0:
		c.Number = n
	case 1:
		h.Primary = n
	case 2:
		h.Backups = append(h.Backups, n)
	case 3:
		c.Down = append(c.Down, n)
	case 4:
		c.Homes = append(c.Homes, impl.Home{Primary: m.below(14) - 1})
	case 5:
		slices.Sort(h.Backups)
		h.Backups = slices.DeleteFunc(h.Backups, func(node int) bool { return node == n })
	case 6:
		numbers := numbersIn(c)
		*numbers[m.below(len(numbers))] = n
	}
}

// Configs of anything at all are answered, and those that are not good by the zero answer.
func TestConfigsOfAnything(t *testing.T) {
	numbers := []int{math.MinInt, math.MinInt + 1, -2, -1, 0, 1, 2, 5, 10, 11, 12, 13, 999999, 1000000, 1000001, 1 << 32, math.MaxInt - 1, math.MaxInt}
	good, bad, did := 0, 0, 0
	for seed := range 60000 {
		m := mixer(seed)
		number := func() int { return numbers[m.below(len(numbers))] }
		c := drawnConfig(&m)
		move := impl.Move{Kind: 1 + m.below(3), Node: m.below(12)}
		for range m.below(3) {
			spoilConfig(&m, &c, number())
		}
		if m.below(4) == 0 {
			move = impl.Move{Kind: number(), Node: number()}
		}
		want := goodConfigAgain(c)
		if impl.GoodConfig(c) != want {
			t.Fatalf("%v: not %v", c, want)
		}
		accepts, ok1 := impl.AcceptsAt(c, number(), number(), number())
		loads, ok2 := impl.LoadOf(c)
		moved, ok3 := impl.MovedParts(c, c)
		if want {
			good++
			checkConfigAnswers(t, c)
			if !ok3 || len(moved) > 0 {
				t.Fatalf("%v: %v %v", c, moved, ok3)
			}
		} else {
			bad++
			if ok1 || ok2 || ok3 || accepts || loads != nil || moved != nil {
				t.Fatalf("%v: %v %v %v %v %v %v", c, accepts, ok1, loads, ok2, moved, ok3)
			}
		}
		if left, ok := checkConfigStep(t, c, move); ok {
			did++
			checkFollowers(t, c, left)
		}
		impl.NewConfig(number(), number(), number())
		impl.PlayConfig(m.below(9), m.below(13), number(), slices.Repeat([]impl.Move{move}, m.below(70)))
		impl.PartOf("key", number())
	}
	if good < 10000 || bad < 10000 || did < 5000 {
		t.Error(good, bad, did)
	}
}
