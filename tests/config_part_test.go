package tests

import (
	"math"
	"math/big"
	"testing"

	"loop.example/g00218/impl"
)

// partAgain tells the document's words a second time, with numbers that are cut at 2^32 in the end alone.
func partAgain(key string, parts int) int {
	h := big.NewInt(5381)
	for _, letter := range []byte(key) {
		h.Mul(h, big.NewInt(33))
		h.Add(h, big.NewInt(int64(letter)))
	}
	h.Mod(h, new(big.Int).Lsh(big.NewInt(1), 32))
	return int(h.Mod(h, big.NewInt(int64(parts))).Int64())
}

// uncutPart is what a word that has room for more than 2^32 would tell.
func uncutPart(key string, parts int) int {
	h := uint64(5381)
	for _, letter := range []byte(key) {
		h = 33*h + uint64(letter)
	}
	return int(h % uint64(parts))
}

func TestPartOf(t *testing.T) {
	for _, x := range []struct {
		key   string
		parts int
		want  int
	}{
		{"a", 4, 2}, {"a", 1, 0}, {"a", 2, 0}, {"a", 3, 1}, {"a", 5, 0}, {"a", 6, 4}, {"a", 7, 3}, {"a", 8, 6},
		{"b", 4, 3}, {"z", 7, 0}, {"0", 8, 5}, {"9", 5, 0}, {"9", 8, 6},
		{"ab", 8, 0}, {"ba", 8, 0}, {"x1", 3, 1}, {"1x", 7, 0}, {"aaa", 8, 0}, {"key", 5, 4},
		// beyond 2^32 from four bytes on
		{"aaaa", 3, 0}, {"aaaa", 7, 4}, {"zzzz", 5, 0}, {"0000", 6, 5},
		{"aaaaaaaa", 3, 1}, {"aaaaaaaa", 8, 5}, {"zzzzzzzz", 5, 3}, {"zzzzzzzz", 7, 1}, {"00000000", 6, 1}, {"k1k2k3k4", 7, 4},
	} {
		if again := partAgain(x.key, x.parts); again != x.want {
			t.Errorf("%s %d: told again it is %d", x.key, x.parts, again)
		}
		if got, ok := impl.PartOf(x.key, x.parts); !ok || got != x.want {
			t.Errorf("%s %d: %d %v, not %d", x.key, x.parts, got, ok, x.want)
		}
	}
}

func TestPartOfManyKeys(t *testing.T) {
	m := mixer(7)
	many := make([]int, 8)
	cut := 0
	for range 20000 {
		key := ""
		for range 1 + m.below(8) {
			at := m.below(36)
			key += "abcdefghijklmnopqrstuvwxyz0123456789"[at : at+1]
		}
		for parts := 1; parts <= 8; parts++ {
			got, ok := impl.PartOf(key, parts)
			if !ok || got != partAgain(key, parts) {
				t.Fatalf("%s %d: %d %v", key, parts, got, ok)
			}
			if got != uncutPart(key, parts) {
				cut++
			}
			many[got]++
		}
	}
	if cut < 10000 || many[7] < 1000 {
		t.Error(cut, many)
	}
}

func TestPartOfNoKey(t *testing.T) {
	for _, key := range []string{"", "aaaaaaaaa", "123456789", "aaaaaaaaaaaaaaaa", "A", "Z", "a b", " a", "a ", "a-b", "a_b", "a;", "a\x00", "\x00", "a\n", "ä", "\xff", "aaaaaaaA", "Aaaaaaaa", "aaaa.aaa"} {
		for parts := -1; parts <= 9; parts++ {
			if got, ok := impl.PartOf(key, parts); ok || got != 0 {
				t.Errorf("%q %d: %d", key, parts, got)
			}
		}
	}
	// each byte, alone and behind others
	for b := range 256 {
		good := b >= 'a' && b <= 'z' || b >= '0' && b <= '9'
		for _, ahead := range []string{"", "q", "qwertzu"} {
			key := ahead + string([]byte{byte(b)})
			got, ok := impl.PartOf(key, 7)
			if ok != good || ok && got != partAgain(key, 7) || !ok && got != 0 {
				t.Errorf("%q: %d %v", key, got, ok)
			}
		}
	}
}

func TestPartOfNoParts(t *testing.T) {
	for _, parts := range []int{math.MinInt, -8, -1, 0, 9, 10, 1 << 32, 1<<32 + 1, math.MaxInt} {
		for _, key := range []string{"a", "aaaaaaaa", "", "aaaaaaaaa"} {
			if got, ok := impl.PartOf(key, parts); ok || got != 0 {
				t.Errorf("%q %d: %d", key, parts, got)
			}
		}
	}
}
