package tests

import (
	"fmt"
	"math"
	"regexp"
	"slices"
	"strconv"
	"strings"
	"testing"

	"loop.example/g00218/impl"
)

// nodeLetters are those of the nodes from 0 on: letters that rise are nodes that rise.
const nodeLetters = "0123456789ab"

// nodeOf is the node of a letter: . is -1, _ is -2, c and d are past the last node.
func nodeOf(letter rune) int {
	return strings.IndexRune("_."+nodeLetters+"cd", letter) - 2
}

func nodeText(l ...int) string {
	text := ""
	for _, node := range l {
		text += letterOf("."+nodeLetters, node+1)
	}
	return text
}

func nodesOf(text string) []int {
	var l []int
	for _, letter := range text {
		l = append(l, nodeOf(letter))
	}
	return l
}

// configOf is a config as a text: Number, then the nodes that are Down (- for none), then the homes parted by strokes, each its Primary and then its Backups.
func configOf(text string) impl.Config {
	words := strings.Fields(text)
	number, err := strconv.Atoi(words[0])
	if err != nil || len(words) != 3 {
		panic(text)
	}
	c := impl.Config{Number: number, Down: nodesOf(strings.Trim(words[1], "-"))}
	for _, home := range strings.Split(words[2], "/") {
		nodes := nodesOf(home)
		c.Homes = append(c.Homes, impl.Home{Primary: nodes[0], Backups: nodes[1:]})
	}
	return c
}

func configText(c impl.Config) string {
	down := nodeText(c.Down...)
	if down == "" {
		down = "-"
	}
	var homes []string
	for _, h := range c.Homes {
		homes = append(homes, nodeText(h.Primary)+nodeText(h.Backups...))
	}
	return fmt.Sprint(c.Number, " ", down, " ", strings.Join(homes, "/"))
}

var goodConfigText = regexp.MustCompile(`^([1-9][0-9]{0,5}|1000000) (-|0?1?2?3?4?5?6?7?8?9?a?b?) ((\.|[0-9ab]{1,12})(/(\.|[0-9ab]{1,12})){0,7})$`)

// goodConfigAgain tells the document's words a second time.
func goodConfigAgain(c impl.Config) bool {
	found := goodConfigText.FindStringSubmatch(configText(c))
	if found == nil {
		return false
	}
	for _, home := range strings.Split(found[3], "/") {
		if strings.ContainsAny(home, found[2]) || home[1:] != risingText(home[1:]) || strings.Contains(home[1:], home[:1]) {
			return false
		}
	}
	return true
}

// risingText has each letter once, in order.
func risingText(text string) string {
	letters := []byte(text)
	slices.Sort(letters)
	return string(slices.Compact(letters))
}

func deepConfig(c impl.Config) impl.Config {
	c.Down, c.Homes = slices.Clone(c.Down), slices.Clone(c.Homes)
	for part, h := range c.Homes {
		c.Homes[part].Backups = slices.Clone(h.Backups)
	}
	return c
}

func sameConfig(a, b impl.Config) bool {
	return a.Number == b.Number && slices.Equal(a.Down, b.Down) && slices.EqualFunc(a.Homes, b.Homes, func(a, b impl.Home) bool {
		return a.Primary == b.Primary && slices.Equal(a.Backups, b.Backups)
	})
}

func isZeroConfig(c impl.Config) bool {
	return c.Number == 0 && c.Down == nil && c.Homes == nil
}

// goodConfigTexts are at the edges of what is good: few and many homes and nodes, all that may be Down, all Numbers.
func goodConfigTexts() []string {
	return []string{
		"1 - 0", "1 - b", "1 - .", "2 - 01", "999999 - 0", "1000000 - 0", "1000000 - .",
		"1 0 .", "1 b .", "1 b a", "1 0123456789ab .", "1 0123456789ab ./././././././.", "1 0123456789a b", "1 123456789ab 0/.",
		"1 - 0/0/0/0/0/0/0/0", "1 - 0/1/2/3/4/5/6/7", "1 - ./0/./1b", "7 1 0/2/20",
		// as many Backups as there may be
		"1 - 0123456789ab", "1 - b0123456789a", "1 - 5012346789ab", "3 4 501236789ab/.", "1 - 0123456789ab/1023456789ab",
		"1 - 01/10/01/10/01/10/01/10", "5 0b 19a/a1/./91/1/a/9/9a", "1 - 0b/b0/5/129",
		// nodes in no home
		"4 - 3/3/3", "4 78 3b/b3/9", "100 2468 01/13/3579ab",
	}
}

// badConfigTexts differ from good ones in one thing each.
func badConfigTexts() []string {
	return []string{
		// Numbers
		"0 - 0", "-1 - 0", "1000001 - 0", "0 - .", "1000001 1 02/20", "-1000000 - 0/1",
		// Down with what is no node, falling, with two alike
		"1 . 0", "1 .1 0", "1 c 0", "1 1c 0", "1 _ 0", "1 d 0", "1 21 0", "1 132 0", "1 11 0", "1 1223 0", "1 b0 1", "1 0123456789abb .", "1 0123456789abc .", "1 00 .",
		// nine homes and more
		"1 - 0/0/0/0/0/0/0/0/0", "1 - ./././././././././.", "1 - 0/1/2/3/4/5/6/7/8/9",
		// a Primary that is no node
		"1 - _", "1 - c", "1 - d", "1 - 0/_", "1 - c/0", "1 - 0/0/c/0", "1 - c01", "1 - _0",
		// none, with Backups
		"1 - .0", "1 - .b", "1 - 0/.1", "1 - .01/0", "1 - ..", "1 - .c", "1 0 .0",
		// Backups that fall, two alike
		"1 - 021", "1 - 0132", "1 - 0/1/043", "1 - 0b1", "1 - 011", "1 - 0122", "1 - 0/100", "1 - 0112", "1 - 50123467899ab",
		// what is no node among them
		"1 - 0.", "1 - 0.1", "1 - 0c", "1 - 01c", "1 - 0_", "1 - 0_1", "1 - 0/0/1d", "1 - 0123456789abc",
		// the Primary among them
		"1 - 00", "1 - 001", "1 - 101", "1 - bb", "1 - 10/101", "1 - b0123456789ab", "1 - 00123456789ab", "1 - 501234567", "1 - 0/1/2/3/4/5/6/77",
		// one that is Down, as a Primary and among Backups
		"1 0 0", "1 b b", "1 1 0/1", "1 1 0/0/0/0/0/0/0/1", "1 01 0/2", "1 01 2/1", "1 0123456789ab 0", "1 2 1/2/1",
		"1 1 01", "1 1 0/01", "1 b 0b", "1 3 0123", "1 1 0123", "1 2 0123", "1 23 0/012", "1 3b 0124/04b", "1 02 34/23",
		// neither
		"0 c c", "0 11 .1/00",
	}
}

// badConfigs are those and some that no text tells.
func badConfigs() []impl.Config {
	l := []impl.Config{{}, {Number: 1}, {Number: 1, Homes: []impl.Home{}}, {Number: 1000000, Down: []int{3}}, {Homes: []impl.Home{{}}}}
	for _, text := range badConfigTexts() {
		l = append(l, configOf(text))
	}
	for _, n := range []int{math.MinInt, math.MinInt + 1, -2, 12, 13, 1 << 32, 1<<32 + 1, math.MaxInt} {
		for place := range 5 {
			c := configOf("5 1 023/2/.")
			*numbersIn(&c)[place] = n
			if place == 0 && n > 0 && n <= 1000000 {
				continue
			}
			l = append(l, c)
		}
	}
	for _, n := range []int{-1, math.MinInt} {
		c := configOf("5 1 023/2/.")
		c.Homes[2].Primary = n
		c.Homes[2].Backups = []int{4}
		l = append(l, c)
	}
	return append(l, impl.Config{Number: 1, Homes: make([]impl.Home, 10000)}, impl.Config{Number: 1, Down: upTo(10000), Homes: []impl.Home{{Primary: -1}}},
		impl.Config{Number: 1, Homes: []impl.Home{{Primary: 0, Backups: upTo(10000)[1:]}}}, impl.Config{Number: 1, Homes: []impl.Home{{Primary: -1, Backups: make([]int, 10000)}}})
}

// numbersIn are all places of numbers of a config.
func numbersIn(c *impl.Config) []*int {
	l := []*int{&c.Number}
	for i := range c.Down {
		l = append(l, &c.Down[i])
	}
	for i := range c.Homes {
		l = append(l, &c.Homes[i].Primary)
		for j := range c.Homes[i].Backups {
			l = append(l, &c.Homes[i].Backups[j])
		}
	}
	return l
}

func TestLimitsOfConfigs(t *testing.T) {
	if impl.MaxHomes != 8 || impl.MaxMoves != 60 || impl.MoveDown != 1 || impl.MoveUp != 2 || impl.MoveNext != 3 || impl.MaxNodes != len(nodeLetters) {
		t.Error(impl.MaxHomes, impl.MaxMoves, impl.MoveDown, impl.MoveUp, impl.MoveNext, impl.MaxNodes)
	}
}

func TestGoodConfig(t *testing.T) {
	for _, text := range goodConfigTexts() {
		c := configOf(text)
		if configText(c) != text || !goodConfigAgain(c) {
			t.Fatal(text, c)
		}
		if !impl.GoodConfig(c) {
			t.Errorf("%s: not good", text)
		}
	}
	for _, text := range badConfigTexts() {
		if impl.GoodConfig(configOf(text)) {
			t.Errorf("%s: good", text)
		}
	}
	for _, c := range badConfigs() {
		if goodConfigAgain(c) {
			t.Fatal(c)
		}
		if impl.GoodConfig(c) {
			t.Errorf("%v: good", c)
		}
	}
}

// One number at each place, of all that there may be and some more.
func TestGoodConfigAtEachPlace(t *testing.T) {
	good, bad := 0, 0
	for _, text := range append(goodConfigTexts(), "1 36 012/1/./45/7/b/0a/289", "999999 59 2468/1/./.") {
		many := len(numbersIn(new(configOf(text))))
		for place := range many {
			for n := -3; n <= 15; n++ {
				c := configOf(text)
				*numbersIn(&c)[place] = n
				want := goodConfigAgain(c)
				if got := impl.GoodConfig(c); got != want {
					t.Fatalf("%v: %v", c, got)
				}
				if want {
					good++
				} else {
					bad++
				}
			}
		}
	}
	if good < 300 || bad < 1000 {
		t.Error(good, bad)
	}
	for _, number := range []int{math.MinInt, -1, 0, 1, 2, 500000, 999999, 1000000, 1000001, 1000002, 2000000, 1 << 32, math.MaxInt} {
		c := configOf("1 1 02/2/.")
		c.Number = number
		if got := impl.GoodConfig(c); got != (number >= 1 && number <= 1000000) {
			t.Error(number, got)
		}
	}
	for many := range 12 {
		for _, home := range []string{".", "0", "12"} {
			c := impl.Config{Number: 1}
			for range many {
				c.Homes = append(c.Homes, configOf("1 - " + home).Homes[0])
			}
			if got := impl.GoodConfig(c); got != (many >= 1 && many <= 8) {
				t.Error(many, home, got)
			}
		}
	}
}

// All configs of one home with three nodes at most, and any Down of three nodes at most.
func TestGoodConfigOfAllThatAreSmall(t *testing.T) {
	good := 0
	var lists []string
	for many := range 4 {
		lists = append(lists, partsOf(".01bc", many)...)
	}
	for _, down := range lists {
		for _, home := range lists {
			if home == "" {
				continue
			}
			c := configOf("1 " + down + "- " + home)
			want := goodConfigAgain(c)
			if impl.GoodConfig(c) != want {
				t.Fatalf("%v: not %v", c, want)
			}
			if want {
				good++
			}
		}
	}
	if good < 30 {
		t.Error(good)
	}
}

// newConfigAgain tells the document's words a second time: the nodes are told round and round, and a part begins at its place.
func newConfigAgain(parts, nodes, copies int) string {
	if parts < 1 || parts > 8 || nodes < 1 || nodes > 12 || copies < 1 || copies > nodes {
		return ""
	}
	round := strings.Repeat(nodeLetters[:nodes], 12)
	var homes []string
	for part := range parts {
		home := round[part : part+copies]
		homes = append(homes, home[:1]+risingText(home[1:]))
	}
	return "1 - " + strings.Join(homes, "/")
}

func TestNewConfig(t *testing.T) {
	for _, x := range []struct {
		parts, nodes, copies int
		want                 string
	}{
		{1, 1, 1, "1 - 0"}, {1, 12, 1, "1 - 0"}, {1, 12, 12, "1 - 0123456789ab"}, {1, 2, 2, "1 - 01"},
		{3, 3, 2, "1 - 01/12/20"}, {3, 3, 3, "1 - 012/102/201"}, {4, 3, 2, "1 - 01/12/20/01"},
		{8, 1, 1, "1 - 0/0/0/0/0/0/0/0"}, {8, 3, 1, "1 - 0/1/2/0/1/2/0/1"}, {8, 2, 2, "1 - 01/10/01/10/01/10/01/10"}, {8, 12, 1, "1 - 0/1/2/3/4/5/6/7"},
		// round past node 0, and rising all the same
		{4, 4, 3, "1 - 012/123/203/301"}, {8, 8, 4, "1 - 0123/1234/2345/3456/4567/5067/6017/7012"}, {8, 9, 3, "1 - 012/123/234/345/456/567/678/708"},
		{8, 12, 12, "1 - 0123456789ab/1023456789ab/2013456789ab/3012456789ab/4012356789ab/5012346789ab/6012345789ab/7012345689ab"},
		{8, 12, 11, "1 - 0123456789a/123456789ab/203456789ab/301456789ab/401256789ab/501236789ab/601234789ab/701234589ab"},
		{8, 12, 6, "1 - 012345/123456/234567/345678/456789/56789a/6789ab/7089ab"},
	} {
		if again := newConfigAgain(x.parts, x.nodes, x.copies); again != x.want {
			t.Fatal(x, again)
		}
		if c, ok := impl.NewConfig(x.parts, x.nodes, x.copies); !ok || configText(c) != x.want || !impl.GoodConfig(c) {
			t.Errorf("%d %d %d: %s %v, not %s", x.parts, x.nodes, x.copies, configText(c), ok, x.want)
		}
	}
}

// All arguments that there may be, and those beside them.
func TestNewConfigOfAll(t *testing.T) {
	numbers := append([]int{math.MinInt, -2, -1, 1 << 32, 1<<32 + 1, math.MaxInt}, upTo(15)...)
	many := 0
	for _, parts := range numbers {
		for _, nodes := range numbers {
			for _, copies := range numbers {
				c, ok := impl.NewConfig(parts, nodes, copies)
				want := newConfigAgain(parts, nodes, copies)
				if ok != (want != "") || ok && configText(c) != want || !ok && !isZeroConfig(c) {
					t.Fatalf("%d %d %d: %v %v, not %q", parts, nodes, copies, c, ok, want)
				}
				if ok {
					many++
					checkNew(t, configSpans(c, "new"), nil)
				}
			}
		}
	}
	if many != 8*(12*13/2) {
		t.Error(many)
	}
}

// What is done to one home is not done to another.
func TestHomesOfANewConfigLieApart(t *testing.T) {
	c, _ := impl.NewConfig(3, 4, 3)
	c.Homes[0].Backups = append(c.Homes[0].Backups, 9)
	c.Homes[1].Backups[0] = 8
	c.Homes = append(c.Homes, impl.Home{Primary: 7})
	if got := configText(c); got != "1 - 0129/183/203/7" {
		t.Error(got)
	}
	if again, _ := impl.NewConfig(3, 4, 3); configText(again) != "1 - 012/123/203" {
		t.Error(again)
	}
}
