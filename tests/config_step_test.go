package tests

import (
	"math"
	"strconv"
	"strings"
	"testing"

	"loop.example/g00218/impl"
)

// configMoves are moves as a text: d0 takes node 0 down, u0 takes it up, n0 makes it the next one.
func configMoves(text string) []impl.Move {
	var l []impl.Move
	for _, word := range strings.Fields(text) {
		m := impl.Move{Kind: 1 + strings.IndexByte("dun", word[0]), Node: nodeOf(rune(word[1]))}
		if m.Kind == 0 || len(word) != 2 {
			panic(word)
		}
		l = append(l, m)
	}
	return l
}

func configMove(text string) impl.Move {
	return configMoves(text)[0]
}

// stepConfigAgain tells the document's words a second time, over a good config as a text; what does nothing leaves no text.
func stepConfigAgain(text string, m impl.Move) string {
	words := strings.Fields(text)
	number, _ := strconv.Atoi(words[0])
	down, homes := strings.Trim(words[1], "-"), strings.Split(words[2], "/")
	if m.Node < 0 || m.Node > 11 || number == 1000000 {
		return ""
	}
	node := nodeLetters[m.Node : m.Node+1]
	isDown := strings.Contains(down, node)
	switch {
	case m.Kind == 1 && !isDown:
		down = risingText(down + node)
		for part, home := range homes {
			// the Backups rise behind the Primary: the least of them is the next one
			if homes[part] = strings.Trim(strings.Replace(home, node, "", 1), "."); homes[part] == "" {
				homes[part] = "."
			}
		}
	case m.Kind == 2 && isDown:
		down = strings.Replace(down, node, "", 1)
		homes = broughtUpAgain(homes, node)
	case m.Kind == 3 && !isDown:
		old := strings.Join(homes, "/")
		homes = takenOverAgain(homes, node)
		if strings.Join(homes, "/") == old {
			return ""
		}
	default:
		return ""
	}
	return strings.Join([]string{strconv.Itoa(number + 1), down + "-"[:1-min(1, len(down))], strings.Join(homes, "/")}, " ")
}

func broughtUpAgain(homes []string, node string) []string {
	most := 0
	for _, home := range homes {
		most = max(most, len(strings.Trim(home, ".")))
	}
	for part, home := range homes {
		if home != "." && len(home) < most {
			homes[part] = home[:1] + risingText(home[1:]+node)
			return homes
		}
	}
	return homes
}

func takenOverAgain(homes []string, node string) []string {
	for part, home := range homes {
		backups := home[1:]
		if !strings.Contains(backups, node) {
			continue
		}
		all := "/" + strings.Join(homes, "/")
		if strings.Count(all, "/"+home[:1]) >= 2+strings.Count(all, "/"+node) {
			homes[part] = node + risingText(strings.Replace(backups, node, home[:1], 1))
		}
	}
	return homes
}

// checkConfigStep holds a step against the document's words.
func checkConfigStep(t *testing.T, c impl.Config, m impl.Move) (impl.Config, bool) {
	t.Helper()
	left, ok := impl.StepConfig(c, m)
	want := ""
	if goodConfigAgain(c) {
		want = stepConfigAgain(configText(c), m)
	}
	switch {
	case ok != (want != ""):
		t.Fatalf("%s: %v: %s %v, not %q", configText(c), m, configText(left), ok, want)
	case !ok && !isZeroConfig(left):
		t.Fatalf("%s: %v: %v", configText(c), m, left)
	case ok && (configText(left) != want || !impl.GoodConfig(left)):
		t.Fatalf("%s: %v: %s, not %s", configText(c), m, configText(left), want)
	}
	return left, ok
}

// checkConfigCases holds steps against what they leave, told as config, move and what is left, which is a stroke where nothing is done.
func checkConfigCases(t *testing.T, cases [][3]string) {
	t.Helper()
	for _, x := range cases {
		c := configOf(x[0])
		if !impl.GoodConfig(c) {
			t.Fatalf("%s is not good", x[0])
		}
		left, ok := checkConfigStep(t, c, configMove(x[1]))
		if got := configText(left); ok != (x[2] != "-") || ok && got != x[2] {
			t.Errorf("%s: %s: %s %v, not %s", x[0], x[1], got, ok, x[2])
		}
	}
}

func TestStepConfigTakesDown(t *testing.T) {
	checkConfigCases(t, [][3]string{
		// a Primary with several Backups: the least one follows, also where it is greater than the one that goes or less
		{"1 - 012", "d0", "2 0 12"}, {"1 - 5123", "d5", "2 5 123"}, {"1 - 5789b", "d5", "2 5 789b"}, {"1 - 51b", "d5", "2 5 1b"}, {"1 - b0123456789a", "db", "2 b 0123456789a"},
		// with one, with none
		{"1 - 01", "d0", "2 0 1"}, {"1 - 10", "d1", "2 1 0"}, {"1 - 0", "d0", "2 0 ."}, {"1 - b", "db", "2 b ."},
		// a backup: the first one, one between, the last one, the only one
		{"1 - 0123", "d1", "2 1 023"}, {"1 - 0123", "d2", "2 2 013"}, {"1 - 0123", "d3", "2 3 012"}, {"1 - 01", "d1", "2 1 0"}, {"1 - 50b", "db", "2 b 50"},
		// in several homes, as Primary and as a backup
		{"1 - 01/12/20", "d1", "2 1 0/2/20"}, {"1 - 01/12/20", "d0", "2 0 1/12/2"}, {"1 - 012/102/201", "d2", "2 2 01/10/01"}, {"1 - 0/0/0/0/0/0/0/0", "d0", "2 0 ./././././././."},
		{"1 - 01/./10/0/1/34", "d0", "2 0 1/./1/./1/34"},
		// in no home
		{"1 - 01/10", "d2", "2 2 01/10"}, {"1 - .", "d0", "2 0 ."}, {"1 - 01/10", "db", "2 b 01/10"},
		// others are Down: they rise
		{"7 1 02/2", "d0", "8 01 2/2"}, {"7 1 02/2", "d2", "8 12 0/."}, {"7 3 02/2", "d2", "8 23 0/."}, {"7 0b 19/91", "d5", "8 05b 19/91"}, {"7 0123456789a b", "db", "8 0123456789ab ."}, {"7 123456789ab 0/.", "d0", "8 0123456789ab ./."},
		// one that is Down
		{"2 0 12", "d0", "-"}, {"2 b 12", "db", "-"}, {"2 0123456789ab .", "d5", "-"}, {"2 036 12/./5", "d3", "-"},
		// what is no node
		{"1 - 01", "d.", "-"}, {"1 - 01", "d_", "-"}, {"1 - 01", "dc", "-"}, {"1 - .", "d.", "-"}, {"1 - 01/.", "dd", "-"},
		// Numbers
		{"999998 - 01", "d0", "999999 0 1"}, {"999999 - 01", "d0", "1000000 0 1"}, {"1000000 - 01", "d0", "-"}, {"1000000 - 01", "d5", "-"},
	})
}

func TestStepConfigTakesUp(t *testing.T) {
	checkConfigCases(t, [][3]string{
		// a backup of the first part that has fewer, alone
		{"2 1 0/2/20", "u1", "3 - 01/2/20"}, {"2 1 20/0/2", "u1", "3 - 20/01/2"}, {"2 1 20/02/2", "u1", "3 - 20/02/21"}, {"2 0 1/12/2", "u0", "3 - 10/12/2"},
		// it stands in its order among the Backups
		{"2 1 02/3456", "u1", "3 - 012/3456"}, {"2 4 02/3567", "u4", "3 - 024/3567"}, {"2 3 024/5678", "u3", "3 - 0234/5678"}, {"2 0 579/1234", "u0", "3 - 5079/1234"}, {"2 b 579/1234", "ub", "3 - 579b/1234"},
		// all have as many: of none
		{"2 0 1", "u0", "3 - 1"}, {"2 1 0/2/3", "u1", "3 - 0/2/3"}, {"2 1 02/20/32", "u1", "3 - 02/20/32"}, {"2 b 0123456789a", "ub", "3 - 0123456789a"},
		// nobody has anything
		{"2 0 .", "u0", "3 - ."}, {"2 0123456789ab ./.", "u5", "3 012346789ab ./."},
		// the first that has fewer has no primary
		{"2 1 ./02/3", "u1", "3 - ./02/31"}, {"2 1 ././023/2/./45", "u1", "3 - ././023/21/./45"}, {"2 1 ./02", "u1", "3 - ./02"}, {"2 1 0/.", "u1", "3 - 0/."}, {"2 1 ./0/./2", "u1", "3 - ./0/./2"},
		// the greatest number of the first, of one between and of the last part
		{"2 1 023/02/0", "u1", "3 - 023/012/0"}, {"2 1 0/023/2", "u1", "3 - 01/023/2"}, {"2 1 2/0/023", "u1", "3 - 21/0/023"}, {"2 1 02/02/0/02", "u1", "3 - 02/02/01/02"},
		// by one less and by many
		{"2 1 0/2345678", "u1", "3 - 01/2345678"}, {"2 1 234567/2345678", "u1", "3 - 2134567/2345678"},
		// others stay Down
		{"5 159 0/23", "u5", "6 19 05/23"}, {"5 159 0/23", "u1", "6 59 01/23"}, {"5 159 0/23", "u9", "6 15 09/23"}, {"5 0123456789ab ./.", "ub", "6 0123456789a ./."},
		// eight parts, the last one alone
		{"5 0 12/12/12/12/12/12/12/1", "u0", "6 - 12/12/12/12/12/12/12/10"},
		// one that is not Down
		{"1 - 01/2", "u0", "-"}, {"1 - 01/2", "u1", "-"}, {"1 - 01/2", "u3", "-"}, {"2 0 12/3", "u1", "-"}, {"2 0 12/3", "u4", "-"}, {"1 - .", "u0", "-"},
		// what is no node
		{"2 0 1/23", "u.", "-"}, {"2 0 1/23", "u_", "-"}, {"2 b 1/23", "uc", "-"}, {"2 0123456789ab .", "ud", "-"},
		// Numbers
		{"999999 1 0/23", "u1", "1000000 - 01/23"}, {"1000000 1 0/23", "u1", "-"}, {"1000000 1 .", "u1", "-"},
	})
}

func TestStepConfigMakesNext(t *testing.T) {
	checkConfigCases(t, [][3]string{
		// two parts more, and many more
		{"1 - 01/01", "n1", "2 - 10/01"}, {"1 - 01/0", "n1", "2 - 10/0"}, {"1 - 0/01", "n1", "2 - 0/10"}, {"1 - 01/0/0/0/0/0/0/0", "n1", "2 - 10/0/0/0/0/0/0/0"}, {"1 - 01/01/0/1/0", "n1", "2 - 10/01/0/1/0"},
		// one part more, as many, fewer
		{"1 - 01", "n1", "-"}, {"1 - 01/1", "n1", "-"}, {"1 - 01/1/1", "n1", "-"}, {"1 - 01/10/0", "n1", "-"}, {"1 - 01/0/1", "n1", "-"}, {"1 - 01/0/0/1/1", "n1", "-"},
		// both change places, and the Backups rise
		{"1 - 0123/0", "n2", "2 - 2013/0"}, {"1 - 3012/3", "n0", "2 - 0123/3"}, {"1 - 3012/3", "n2", "2 - 2013/3"}, {"1 - 509ab/5", "na", "2 - a059b/5"}, {"1 - 509ab/5", "nb", "2 - b059a/5"}, {"1 - 50123/5", "n0", "2 - 01235/5"},
		// a change makes the next one no longer due
		{"1 - 01/01/01", "n1", "2 - 10/01/01"}, {"1 - 02/02/12/12", "n2", "2 - 20/02/12/12"}, {"1 - 0/01/0/01", "n1", "2 - 0/10/0/10"}, {"1 - 02/0/12/1", "n2", "2 - 20/0/12/1"},
		// it was due by what another one has, which is as ever
		{"1 - 02/0/12/1/1", "n2", "2 - 20/0/21/1/1"}, {"1 - 02/0/1/12/1", "n2", "2 - 20/0/1/21/1"},
		// several
		{"1 - 01/01/01/01", "n1", "2 - 10/10/01/01"}, {"1 - 01/01/01/01/01/01/01/01", "n1", "2 - 10/10/10/10/01/01/01/01"}, {"1 - 03/03/03/13/13/13/23/23", "n3", "2 - 30/03/03/31/13/13/23/23"}, {"1 - 01/2/01/0/2/0", "n1", "2 - 10/2/10/0/2/0"},
		// who is ahead by enough in one of them alone
		{"1 - 02/12/1", "n2", "2 - 02/21/1"}, {"1 - 02/12/12/12", "n2", "2 - 02/21/12/12"},
		// no backup anywhere
		{"1 - 0/0", "n1", "-"}, {"1 - 01/01", "n0", "-"}, {"1 - 01/01", "n2", "-"}, {"1 - ./.", "n0", "-"}, {"1 - 02/./0/0", "n1", "-"}, {"1 - 0/0/1/1", "n1", "-"},
		// one that is Down
		{"2 1 02/02", "n1", "-"}, {"2 1 0/0", "n1", "-"}, {"2 1 02/02", "n2", "3 1 20/02"}, {"2 0123456789ab .", "n5", "-"},
		// what is no node
		{"1 - 01/01", "n.", "-"}, {"1 - 01/./0", "n.", "-"}, {"1 - ./.", "n_", "-"}, {"1 - 0b/0b", "nc", "-"}, {"1 - 0b/0b", "nd", "-"},
		// Numbers
		{"999999 - 01/01", "n1", "1000000 - 10/01"}, {"1000000 - 01/01", "n1", "-"}, {"999999 - 01/01/01/01", "n1", "1000000 - 10/10/01/01"},
	})
}

func TestStepConfigOfNoKind(t *testing.T) {
	for _, text := range goodConfigTexts() {
		for _, kind := range []int{math.MinInt, -1, 0, 4, 5, 1 << 32, 1<<32 + 1, math.MaxInt} {
			for node := -2; node <= 13; node++ {
				if left, ok := checkConfigStep(t, configOf(text), impl.Move{Kind: kind, Node: node}); ok {
					t.Error(text, kind, left)
				}
			}
		}
	}
}

func TestStepConfigOfNoNode(t *testing.T) {
	for _, text := range append(goodConfigTexts(), "1 - 01/01", "2 12 0/3/3") {
		for _, node := range []int{math.MinInt, math.MinInt + 1, -2, -1, 12, 13, 1 << 32, 1<<32 + 1, math.MaxInt} {
			for kind := 1; kind <= 3; kind++ {
				if left, ok := checkConfigStep(t, configOf(text), impl.Move{Kind: kind, Node: node}); ok {
					t.Error(text, kind, node, left)
				}
			}
		}
	}
}

// allConfigMoves are those of each kind and each node, and some of neither.
func allConfigMoves() []impl.Move {
	var l []impl.Move
	for kind := 0; kind <= 4; kind++ {
		for node := -1; node <= 12; node++ {
			l = append(l, impl.Move{Kind: kind, Node: node})
		}
	}
	return l
}

// A config that is not good is not stepped in, whatever the move.
func TestStepConfigOfNoGoodConfig(t *testing.T) {
	for _, c := range badConfigs() {
		for _, m := range allConfigMoves() {
			if left, ok := impl.StepConfig(c, m); ok || !isZeroConfig(left) {
				t.Errorf("%v: %v: %v", c, m, left)
			}
		}
	}
	for _, text := range goodConfigTexts() {
		for _, m := range allConfigMoves() {
			checkConfigStep(t, configOf(text), m)
		}
	}
}

// smallHomes are all of up to so many nodes.
func smallHomes(letters string) []string {
	homes := []string{"."}
	for many := 1; many <= len(letters); many++ {
		for _, home := range partsOf(letters, many) {
			if home[1:] == risingText(home[1:]) && !strings.Contains(home[1:], home[:1]) {
				homes = append(homes, home)
			}
		}
	}
	return homes
}

// smallConfigs goes through all of one to three parts of three nodes, whoever is Down, and through many of four parts of two.
func smallConfigs(see func(c impl.Config)) int {
	many := 0
	homes := smallHomes("012")
	all := append([]string{}, homes...)
	for _, a := range homes {
		for _, b := range homes {
			all = append(all, a+"/"+b)
			for _, c := range homes {
				all = append(all, a+"/"+b+"/"+c)
			}
		}
	}
	homes = smallHomes("01")
	for _, a := range homes {
		for _, b := range homes {
			for _, c := range homes {
				for _, d := range homes {
					all = append(all, strings.Join([]string{a, b, c, d}, "/"))
				}
			}
		}
	}
	for _, text := range all {
		for _, down := range []string{"-", "0", "1", "2", "01", "02", "12", "012", "03", "13"} {
			if !strings.ContainsAny(text, down) {
				see(configOf("5 " + down + " " + text))
				many++
			}
		}
	}
	return many
}

func TestStepConfigOfAllThatAreSmall(t *testing.T) {
	did := make([]int, 4)
	many := smallConfigs(func(c impl.Config) {
		for kind := 1; kind <= 3; kind++ {
			for node := range 4 {
				if _, ok := checkConfigStep(t, c, impl.Move{Kind: kind, Node: node}); ok {
					did[kind]++
				}
			}
		}
	})
	if many < 3000 || did[impl.MoveDown] < 5000 || did[impl.MoveUp] < 300 || did[impl.MoveNext] < 1000 {
		t.Error(many, did)
	}
}

// drawnConfig is good, and need not come of any play.
func drawnConfig(m *mixer) impl.Config {
	c := impl.Config{Number: 1 + m.below(1000)*m.below(2)}
	few := 2 + m.below(11)
	isDown := make([]bool, 12)
	for node := range 12 {
		if m.below(6) == 0 {
			isDown[node] = true
			c.Down = append(c.Down, node)
		}
	}
	for range 1 + m.below(8) {
		primary := m.below(few)
		if isDown[primary] {
			c.Homes = append(c.Homes, impl.Home{Primary: -1})
			continue
		}
		h := impl.Home{Primary: primary}
		rare := 1 + m.below(4)
		for node := range few {
			if node != primary && !isDown[node] && m.below(rare) == 0 {
				h.Backups = append(h.Backups, node)
			}
		}
		c.Homes = append(c.Homes, h)
	}
	return c
}

func TestStepConfigOfDrawnOnes(t *testing.T) {
	did := make([]int, 4)
	for seed := range 6000 {
		m := mixer(seed)
		c := drawnConfig(&m)
		if !impl.GoodConfig(c) || !goodConfigAgain(c) {
			t.Fatal(c)
		}
		for kind := 1; kind <= 3; kind++ {
			for node := range 12 {
				if _, ok := checkConfigStep(t, c, impl.Move{Kind: kind, Node: node}); ok {
					did[kind]++
				}
			}
		}
	}
	if did[impl.MoveDown] < 30000 || did[impl.MoveUp] < 6000 || did[impl.MoveNext] < 600 {
		t.Error(did)
	}
}
