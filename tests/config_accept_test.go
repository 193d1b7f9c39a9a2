package tests

import (
	"math"
	"slices"
	"strings"
	"testing"

	"loop.example/g00218/impl"
)

func TestAcceptsAt(t *testing.T) {
	c := configOf("7 1 023/2/./b0")
	for _, x := range []struct {
		number, node, part int
		accepts            bool
		ok                 bool
	}{
		{7, 0, 0, true, true}, {7, 2, 1, true, true}, {7, 11, 3, true, true},
		// another Number, less and greater
		{6, 0, 0, false, true}, {8, 0, 0, false, true}, {0, 0, 0, false, true}, {-7, 2, 1, false, true}, {1000001, 2, 1, false, true}, {math.MinInt, 11, 3, false, true}, {math.MaxInt, 11, 3, false, true}, {7 + 1<<32, 0, 0, false, true},
		// another node, one that is a backup, one that is Down, one of another part
		{7, 4, 0, false, true}, {7, 2, 0, false, true}, {7, 3, 0, false, true}, {7, 0, 3, false, true}, {7, 1, 0, false, true}, {7, 1, 1, false, true}, {7, 0, 1, false, true}, {7, 2, 3, false, true},
		// no primary: nobody, and no node at all
		{7, 0, 2, false, true}, {7, 2, 2, false, true}, {7, -1, 2, false, true}, {7, 1, 2, false, true}, {8, -1, 2, false, true},
		// what is no node
		{7, -1, 0, false, true}, {7, 12, 3, false, true}, {7, math.MinInt, 1, false, true}, {7, math.MaxInt, 1, false, true}, {7, 1 << 32, 0, false, true},
		// parts that there are not
		{7, 0, -1, false, false}, {7, 11, 4, false, false}, {7, -1, -1, false, false}, {7, 0, 5, false, false}, {7, 0, 8, false, false}, {7, 0, math.MinInt, false, false}, {7, 0, math.MaxInt, false, false}, {7, 0, 1 << 32, false, false}, {6, 5, 4, false, false},
	} {
		if accepts, ok := impl.AcceptsAt(c, x.number, x.node, x.part); accepts != x.accepts || ok != x.ok {
			t.Errorf("%v: %v %v", x, accepts, ok)
		}
	}
	for _, text := range []string{"1 - 0", "1000000 - 0", "1 - 0/0/0/0/0/0/0/0"} {
		c := configOf(text)
		if accepts, ok := impl.AcceptsAt(c, c.Number, 0, len(c.Homes)-1); !accepts || !ok {
			t.Error(text, accepts, ok)
		}
		if accepts, ok := impl.AcceptsAt(c, c.Number, 0, len(c.Homes)); accepts || ok {
			t.Error(text, accepts, ok)
		}
	}
}

func TestMovedParts(t *testing.T) {
	for _, x := range []struct {
		a, b string
		want []int
	}{
		{"1 - 0", "1 - 0", nil}, {"1 - 0", "9 - 0", nil}, {"1 - 0", "1 - 1", []int{0}}, {"1 - .", "1 - .", nil},
		// whatever else is unlike
		{"1 - 01/12/20", "7 35 02/1/20", nil}, {"1 - 01/12/20", "1 - 02/10/21", nil}, {"3 b 0/./1", "1 - 0b/./1", nil},
		// one, several, all
		{"1 - 01/12/20", "2 1 0/2/20", []int{1}}, {"1 - 01/12/20", "2 - 10/12/20", []int{0}}, {"1 - 01/12/20", "2 - 01/12/02", []int{2}}, {"1 - 01/12/20", "2 - 10/12/02", []int{0, 2}}, {"1 - 0/0/0/0/0/0/0/0", "1 - 1/0/2/3/0/0/4/5", []int{0, 2, 3, 6, 7}}, {"1 - 0/1/2/3/4/5/6/7", "1 - b/a/9/8/7/6/5/4", upTo(8)},
		// one of them is -1
		{"1 - 0", "2 0 .", []int{0}}, {"1 - 0/1", "2 1 0/.", []int{1}}, {"1 - ./0", "1 - 0/.", []int{0, 1}}, {"1 - ./0/.", "1 - ./1/b", []int{1, 2}},
	} {
		a, b := configOf(x.a), configOf(x.b)
		for _, pair := range [][2]impl.Config{{a, b}, {b, a}} {
			if got, ok := impl.MovedParts(pair[0], pair[1]); !ok || !slices.Equal(got, x.want) {
				t.Errorf("%v: %v %v, not %v", pair, got, ok, x.want)
			}
		}
	}
	// of unlike many parts
	for _, x := range [][2]string{{"1 - 0", "1 - 0/1"}, {"1 - 0/1", "1 - 1"}, {"1 - ./.", "1 - ."}, {"1 - 0/1/2/3/4/5/6/7", "1 - 0/1/2/3/4/5/6"}, {"1 - 0/0/0", "1 - 0/0/0/0"}} {
		if got, ok := impl.MovedParts(configOf(x[0]), configOf(x[1])); ok || got != nil {
			t.Error(x, got, ok)
		}
	}
}

func TestLoadOf(t *testing.T) {
	for text, want := range map[string][]int{
		"1 - 0":                   {1, 0, 0, 0, 0, 0, 0, 0, 0, 0, 0, 0},
		"1 - b0123456789a":        {0, 0, 0, 0, 0, 0, 0, 0, 0, 0, 0, 1},
		"1 - .":                   make([]int, 12),
		"1 0123456789ab ././.":    make([]int, 12),
		"7 1 02/2/20":             {1, 0, 2, 0, 0, 0, 0, 0, 0, 0, 0, 0},
		"1 - 5/5/5/5/5/5/5/5":     {0, 0, 0, 0, 0, 8, 0, 0, 0, 0, 0, 0},
		"1 - 0/1/2/3/8/9/a/b":     {1, 1, 1, 1, 0, 0, 0, 0, 1, 1, 1, 1},
		"1 - 31/13/./31/31/./1/9": {0, 2, 0, 3, 0, 0, 0, 0, 0, 1, 0, 0},
	} {
		if got, ok := impl.LoadOf(configOf(text)); !ok || !slices.Equal(got, want) {
			t.Errorf("%s: %v %v, not %v", text, got, ok, want)
		}
	}
}

func TestBadConfigsHaveTheZeroAnswer(t *testing.T) {
	good := configOf("1 - 0")
	for _, c := range badConfigs() {
		for part := -1; part <= 8; part++ {
			for node := -1; node <= 3; node++ {
				if accepts, ok := impl.AcceptsAt(c, c.Number, node, part); accepts || ok {
					t.Errorf("%v: %d %d: %v %v", c, node, part, accepts, ok)
				}
			}
		}
		if loads, ok := impl.LoadOf(c); ok || loads != nil {
			t.Errorf("%v: %v %v", c, loads, ok)
		}
		like := good
		if len(c.Homes) > 0 && len(c.Homes) <= 8 {
			like.Homes = slices.Repeat(good.Homes, len(c.Homes))
		}
		for _, pair := range [][2]impl.Config{{c, like}, {like, c}, {c, c}} {
			if moved, ok := impl.MovedParts(pair[0], pair[1]); ok || moved != nil {
				t.Errorf("%v: %v %v", pair, moved, ok)
			}
		}
	}
}

// checkConfigAnswers holds what is told of a good config against the document's words.
func checkConfigAnswers(t *testing.T, c impl.Config) {
	t.Helper()
	homes := strings.Split(strings.Fields(configText(c))[2], "/")
	loads, ok := impl.LoadOf(c)
	if !ok || len(loads) != 12 {
		t.Fatalf("%s: %v %v", configText(c), loads, ok)
	}
	for node := -1; node <= 12; node++ {
		many := 0
		for part := -1; part <= len(homes); part++ {
			there := part >= 0 && part < len(homes)
			want := there && node >= 0 && node < 12 && homes[part][:1] == nodeText(node)
			if accepts, ok := impl.AcceptsAt(c, c.Number, node, part); ok != there || accepts != want {
				t.Fatalf("%s: %d %d: %v %v", configText(c), node, part, accepts, ok)
			}
			if accepts, ok := impl.AcceptsAt(c, c.Number+1, node, part); ok != there || accepts {
				t.Fatalf("%s: %d %d: %v %v", configText(c), node, part, accepts, ok)
			}
			if want {
				many++
			}
		}
		if node >= 0 && node < 12 && loads[node] != many {
			t.Fatalf("%s: %v", configText(c), loads)
		}
	}
}

// checkFollowers asks promise 16 of two configs, one a step ahead of the other: who follows a primary was its backup.
func checkFollowers(t *testing.T, ahead, left impl.Config) int {
	t.Helper()
	moved, ok := impl.MovedParts(ahead, left)
	if !ok || left.Number != ahead.Number+1 {
		t.Fatalf("%s became %s", configText(ahead), configText(left))
	}
	many := 0
	for part, was := range ahead.Homes {
		is := left.Homes[part]
		if slices.Contains(moved, part) != (was.Primary != is.Primary) {
			t.Fatalf("%s became %s: %v", configText(ahead), configText(left), moved)
		}
		switch {
		case is.Primary == was.Primary:
		case is.Primary == -1:
			// nobody else had the part
			if len(was.Backups) > 0 {
				t.Fatalf("%s became %s", configText(ahead), configText(left))
			}
		default:
			many++
			if !slices.Contains(was.Backups, is.Primary) {
				t.Fatalf("%s became %s", configText(ahead), configText(left))
			}
		}
		if was.Primary == -1 && is.Primary != -1 {
			t.Fatalf("%s became %s: nobody had the part", configText(ahead), configText(left))
		}
	}
	return many
}

// checkNoneIsDown asks of a config that nobody keeps anything who is Down.
func checkNoneIsDown(t *testing.T, c impl.Config) {
	t.Helper()
	for _, h := range c.Homes {
		for _, node := range append([]int{h.Primary}, h.Backups...) {
			if slices.Contains(c.Down, node) {
				t.Fatalf("%s: %d is Down", configText(c), node)
			}
		}
	}
}

// Promise 16, for many drawn plays.
func TestPlayedConfigsHaveOnePrimaryOfAPart(t *testing.T) {
	followed, lost, long := 0, 0, 0
	for seed := range 4000 {
		x, l := somePlayOfConfig(uint64(seed) + 5000)
		all, ok := impl.PlayConfig(x[0], x[1], x[2], l)
		if !ok {
			t.Fatal(x, l)
		}
		for i, c := range all {
			if c.Number != i+1 || !impl.GoodConfig(c) {
				t.Fatalf("%v: %v: %q", x, l, configTexts(all))
			}
			checkNoneIsDown(t, c)
			checkConfigAnswers(t, c)
			if i > 0 {
				followed += checkFollowers(t, all[i-1], c)
			}
		}
		if seed%8 == 0 {
			checkOneIsAccepted(t, all, x[0])
		}
		if last := all[len(all)-1]; slices.ContainsFunc(last.Homes, func(h impl.Home) bool { return h.Primary == -1 }) {
			lost++
		}
		if len(all) > 15 {
			long++
		}
	}
	// the plays are no plays if nobody follows anybody, if no part is ever lost, or if all are
	if followed < 5000 || lost < 300 || lost > 3700 || long < 500 {
		t.Error(followed, lost, long)
	}
}

// checkOneIsAccepted asks all configs of a play at once: under one Number and for one part one node at most is accepted.
func checkOneIsAccepted(t *testing.T, all []impl.Config, parts int) {
	t.Helper()
	for number := range len(all) + 2 {
		for part := range parts {
			var accepted []int
			for _, c := range all {
				for node := -1; node <= 12; node++ {
					accepts, ok := impl.AcceptsAt(c, number, node, part)
					if !ok {
						t.Fatal(configText(c), number, node, part)
					}
					if accepts {
						accepted = append(accepted, node)
					}
				}
			}
			if len(accepted) > 1 || len(accepted) == 1 && (accepted[0] == -1 || accepted[0] == 12) {
				t.Fatalf("%q: number %d, part %d: %v", configTexts(all), number, part, accepted)
			}
		}
	}
}

// allConfigsFrom goes through all that may come of a new config by moves of so many nodes; Numbers are left out of account.
func allConfigsFrom(t *testing.T, x [3]int, nodes int, see func(c impl.Config)) int {
	start, ok := impl.NewConfig(x[0], x[1], x[2])
	if !ok {
		t.Fatal(x)
	}
	seen := map[string]int{configText(start): 1}
	work := []impl.Config{start}
	for len(work) > 0 {
		c := work[len(work)-1]
		work = work[:len(work)-1]
		see(c)
		for kind := 1; kind <= 3; kind++ {
			for node := range nodes {
				left, ok := checkConfigStep(t, c, impl.Move{Kind: kind, Node: node})
				if !ok {
					continue
				}
				checkFollowers(t, c, left)
				left.Number = 1
				if text := configText(left); seen[text] == 0 {
					seen[text] = 1
					work = append(work, left)
				}
			}
		}
	}
	return len(seen)
}

// Promise 16, for all that may come of a few parts and nodes.
func TestOfAllSmallPlaysConfigsHaveOnePrimaryOfAPart(t *testing.T) {
	for _, x := range [][3]int{{1, 1, 1}, {1, 3, 3}, {2, 2, 2}, {3, 2, 2}, {2, 3, 2}, {3, 3, 2}, {2, 3, 3}, {3, 3, 3}, {4, 2, 2}, {5, 2, 2}, {2, 4, 2}, {2, 4, 3}} {
		empty, kept := 0, 0
		many := allConfigsFrom(t, x, x[1]+1, func(c impl.Config) {
			checkNoneIsDown(t, c)
			checkConfigAnswers(t, c)
			if loads, _ := impl.LoadOf(c); slices.Max(loads) == 0 {
				empty++
			} else {
				kept++
			}
		})
		if many < 4 || empty == 0 || kept == 0 {
			t.Error(x, many, empty, kept)
		}
	}
}
