package tests

import (
	"fmt"
	"math"
	"slices"
	"strings"
	"testing"

	"loop.example/g00218/impl"
)

// logged reads entries that are told like "7@2.1:a=x": the Txn, the tid, the key and the value.
func logged(text string) []impl.Entry {
	var l []impl.Entry
	for _, word := range strings.Fields(text) {
		var e impl.Entry
		head, cell, _ := strings.Cut(word, ":")
		if _, err := fmt.Sscanf(head, "%d@%d.%d", &e.Txn, &e.Tid.Epoch, &e.Tid.Seq); err != nil {
			panic(word)
		}
		e.Key, e.Value, _ = strings.Cut(cell, "=")
		l = append(l, e)
	}
	return l
}

// loggedText tells entries in the form that logged reads.
func loggedText(l []impl.Entry) string {
	var words []string
	for _, e := range l {
		words = append(words, fmt.Sprintf("%d@%d.%d:%s=%s", e.Txn, e.Tid.Epoch, e.Tid.Seq, e.Key, e.Value))
	}
	return strings.Join(words, " ")
}

// recordsText tells records like "a=x@2.1", with an owner and a lock, where there should be none.
func recordsText(l []impl.Record) string {
	var words []string
	for _, r := range l {
		word := fmt.Sprintf("%s=%s@%d.%d", r.Key, r.Value, r.Tid.Epoch, r.Tid.Seq)
		if r.Owner != 0 || r.Tid.Locked {
			word += fmt.Sprintf("!%d", r.Owner)
		}
		words = append(words, word)
	}
	return strings.Join(words, " ")
}

func plainEntry() impl.Entry {
	return impl.Entry{Txn: 515, Key: "k1", Value: "v 2", Tid: tidOf(7, 9)}
}

// manyEntries are n entries with a key each.
func manyEntries(n int) []impl.Entry {
	var l []impl.Entry
	for i, key := range numbered(n) {
		l = append(l, impl.Entry{Txn: i, Key: key, Value: key, Tid: tidOf(1, i)})
	}
	return l
}

// entriesWith are the plain entry with one field put to each of its variants.
func entriesWith[T any](put func(*impl.Entry, T), variants ...T) []impl.Entry {
	var l []impl.Entry
	for _, v := range variants {
		e := plainEntry()
		put(&e, v)
		l = append(l, e)
	}
	return l
}

func putEntryTxn(e *impl.Entry, n int)        { e.Txn = n }
func putEntryKey(e *impl.Entry, key string)   { e.Key = key }
func putEntryValue(e *impl.Entry, s string)   { e.Value = s }
func putEntryTid(e *impl.Entry, tid impl.Tid) { e.Tid = tid }

func goodEntries() []impl.Entry {
	var tids []impl.Tid
	for _, x := range edgeTids() {
		if !x.Locked && x != tidOf(0, 0) {
			tids = append(tids, x)
		}
	}
	return slices.Concat(
		entriesWith(putEntryTxn, 0, 1, 65534, 65535),
		entriesWith(putEntryKey, goodKeys()...),
		entriesWith(putEntryValue, goodValues()...),
		entriesWith(putEntryTid, tids...))
}

func badEntries() []impl.Entry {
	tids := append(badTids(), tidOf(0, 0))
	for _, x := range edgeTids() {
		if x.Locked {
			tids = append(tids, x)
		}
	}
	return slices.Concat(
		entriesWith(putEntryTxn, -1, 65536, math.MinInt, math.MaxInt, 1<<32, 1<<16|1),
		entriesWith(putEntryKey, badKeys()...),
		entriesWith(putEntryValue, badValues()...),
		entriesWith(putEntryTid, tids...))
}

// goodLogs are told with their names: the edges of what is a log.
func goodLogs() map[string][]impl.Entry {
	return map[string][]impl.Entry{
		"nothing":               nil,
		"an empty list":         {},
		"80 entries":            manyEntries(80),
		"80 times one":          slices.Repeat([]impl.Entry{plainEntry()}, 80),
		"like values":           logged("1@1.1:a=x 2@1.1:a=x"),
		"like values far apart": append(append(logged("1@1.1:a=x"), manyEntries(78)...), logged("1@1.1:a=x")...),
		"one tid at two keys":   logged("1@1.1:a=x 1@1.1:b=y"),
		"a key with two tids":   logged("1@1.1:a=x 1@1.2:a=y 1@2.1:a=z"),
		"a tid that falls":      logged("1@2.2:a=x 1@1.3:a=y 1@1.2:a=z"),
		"keys that fall":        logged("1@1.1:b=x 1@1.1:a=y"),
		"epoch 0":               logged("0@0.1:a="),
		"seq 0":                 logged("0@1.0:a="),
		"empty values":          logged("1@1.1:a= 2@1.1:a="),
	}
}

func badLogs() map[string][]impl.Entry {
	return map[string][]impl.Entry{
		"81 entries":              manyEntries(81),
		"81 times one":            slices.Repeat([]impl.Entry{plainEntry()}, 81),
		"1000 entries":            slices.Repeat(manyEntries(10), 100),
		"unlike values":           logged("1@1.1:a=x 1@1.1:a=y"),
		"unlike values by two":    logged("1@1.1:a=x 2@1.1:a=y"),
		"one of them empty":       logged("1@1.1:a=x 2@1.1:a="),
		"the other one empty":     logged("1@1.1:a= 2@1.1:a=x"),
		"unlike values far apart": append(append(logged("1@1.1:a=x"), manyEntries(78)...), logged("1@1.1:a=y")...),
		"the third one unlike":    logged("1@1.1:a=x 1@1.1:a=x 1@1.1:a=y"),
		"a zero entry":            {{}},
	}
}

func TestLimitOfLogs(t *testing.T) {
	if impl.MaxLog != 80 {
		t.Error(impl.MaxLog)
	}
}

func TestGoodLog(t *testing.T) {
	for name, l := range goodLogs() {
		if !impl.GoodLog(l) {
			t.Error(name, "is good")
		}
	}
	for name, l := range badLogs() {
		if impl.GoodLog(l) {
			t.Error(name, "is not good")
		}
	}
	for _, e := range goodEntries() {
		if !impl.GoodLog([]impl.Entry{e}) {
			t.Errorf("%+v is good", e)
		}
	}
}

// A bad entry spoils a log wherever it stands.
func TestGoodLogOfBadEntries(t *testing.T) {
	others := logged("1@1.1:a=x 2@1.2:b=y")
	for _, e := range badEntries() {
		for at := range len(others) + 1 {
			if l := slices.Insert(slices.Clone(others), at, e); impl.GoodLog(l) {
				t.Errorf("%+v at %d is not good", e, at)
			}
		}
	}
}

// goodEntryAgain and goodLogAgain tell the document's words a second time.
func goodEntryAgain(e impl.Entry) bool {
	return 0 <= e.Txn && e.Txn <= 65535 && keyAgain(e.Key) && valueAgain(e.Value) &&
		0 <= e.Tid.Epoch && e.Tid.Epoch <= impl.MaxEpoch && 0 <= e.Tid.Seq && e.Tid.Seq <= impl.MaxSeq &&
		!e.Tid.Locked && e.Tid.Epoch+e.Tid.Seq > 0
}

func goodLogAgain(l []impl.Entry) bool {
	for i, e := range l {
		if !goodEntryAgain(e) {
			return false
		}
		for _, other := range l[:i] {
			if other.Key == e.Key && orderOf(other.Tid, e.Tid) == 0 && other.Value != e.Value {
				return false
			}
		}
	}
	return len(l) <= 80
}

// smallLogs are all lists of at most n entries of two Txns, keys, tids and values each.
func smallLogs(n int) [][]impl.Entry {
	var kinds []impl.Entry
	for i := range 16 {
		kinds = append(kinds, impl.Entry{Txn: i & 1, Key: "ab"[i>>1&1:][:1], Value: "xy"[i>>2&1:][:1], Tid: tidOf(1+i>>3, 2-i>>3)})
	}
	all := [][]impl.Entry{nil}
	for from := 0; len(all[from]) < n; from++ {
		for _, e := range kinds {
			all = append(all, append(slices.Clone(all[from]), e))
		}
	}
	return all
}

// someLog is a good log of some length: what its values are hangs on their keys and tids alone.
func someLog(seed uint64) []impl.Entry {
	m := mixer(seed)
	keys, epochs, seqs := m.below(9)+1, m.below(5)+1, m.below(5)+1
	var l []impl.Entry
	for range m.below(81) {
		epoch, seq, key := m.below(epochs), m.below(seqs), m.below(keys)
		value := fmt.Sprint(key*7 + epoch*5 + seq*3)[:1]
		l = append(l, impl.Entry{Txn: m.below(3), Key: string([]byte{'a' + byte(key)}), Value: value, Tid: tidOf(epoch, seq+1)})
	}
	return l
}

func TestGoodLogOfAllThatIsShort(t *testing.T) {
	good := 0
	for _, l := range smallLogs(3) {
		if want := goodLogAgain(l); impl.GoodLog(l) != want {
			t.Fatalf("%s: not %v", loggedText(l), want)
		} else if want {
			good++
		}
	}
	if good < 1000 || good > 4000 {
		t.Error(good)
	}
}

func TestGoodLogOfManyLogs(t *testing.T) {
	for seed := range 400 {
		l := someLog(uint64(seed))
		if !impl.GoodLog(l) {
			t.Fatal(loggedText(l))
		}
		m := mixer(seed)
		for range min(len(l), 3) {
			other := slices.Clone(l)
			other[m.below(len(l))].Value = fmt.Sprint(m.below(4))
			if want := goodLogAgain(other); impl.GoodLog(other) != want {
				t.Fatalf("%s: not %v", loggedText(other), want)
			}
		}
	}
}

// checkNoAnswer asks whether all functions of logs give a log that is not good the zero answer.
func checkNoAnswer(t *testing.T, l []impl.Entry) {
	t.Helper()
	if r, ok := impl.ReplayLog(l); r != nil || ok {
		t.Error("ReplayLog", loggedText(l), r, ok)
	}
	if c, ok := impl.CompactLog(l); c != nil || ok {
		t.Error("CompactLog", loggedText(l), c, ok)
	}
	for _, epoch := range []int{0, 1, impl.MaxEpoch} {
		if late, early, ok := impl.TruncateLog(l, epoch); late != nil || early != nil || ok {
			t.Error("TruncateLog", loggedText(l), late, early, ok)
		}
	}
	for _, other := range [][]impl.Entry{nil, logged("1@1.1:a=x"), l} {
		if both, ok := impl.MergeLogs(l, other); both != nil || ok {
			t.Error("MergeLogs", loggedText(l), both, ok)
		}
		if both, ok := impl.MergeLogs(other, l); both != nil || ok {
			t.Error("MergeLogs of it as the other one", loggedText(l), both, ok)
		}
	}
	if s, ok := impl.LogText(l); s != "" || ok {
		t.Errorf("LogText %s %q %v", loggedText(l), s, ok)
	}
}

func TestBadLogsHaveTheZeroAnswer(t *testing.T) {
	for _, l := range badLogs() {
		checkNoAnswer(t, l)
	}
	for _, e := range badEntries() {
		checkNoAnswer(t, []impl.Entry{e})
		checkNoAnswer(t, append(logged("1@1.1:a=x 2@1.2:b=y"), e))
	}
	for _, l := range smallLogs(2) {
		if !goodLogAgain(l) {
			checkNoAnswer(t, l)
		}
	}
}
