package tests

import (
	"math"
	"slices"
	"testing"

	"loop.example/g00218/impl"
)

func replayed(t *testing.T, l []impl.Entry) []impl.Record {
	t.Helper()
	r, ok := impl.ReplayLog(l)
	if !ok {
		t.Fatalf("no replay of %s", loggedText(l))
	}
	return r
}

func compacted(t *testing.T, l []impl.Entry) []impl.Entry {
	t.Helper()
	c, ok := impl.CompactLog(l)
	if !ok {
		t.Fatalf("nothing short of %s", loggedText(l))
	}
	return c
}

// replayAgain does for each entry in order what the document says.
func replayAgain(l []impl.Entry) []impl.Record {
	var records []impl.Record
	for _, e := range l {
		at := slices.IndexFunc(records, func(r impl.Record) bool { return r.Key == e.Key })
		if at < 0 {
			at = len(records)
			records = append(records, impl.Record{})
		} else if orderOf(records[at].Tid, e.Tid) >= 0 {
			continue
		}
		records[at] = impl.Record{Key: e.Key, Value: e.Value, Tid: e.Tid, Owner: 0}
	}
	slices.SortFunc(records, func(a, b impl.Record) int {
		if a.Key < b.Key {
			return -1
		}
		return 1
	})
	return records
}

// compactAgain keeps an entry, if none of its key has a greater tid, and none ahead of it the same.
func compactAgain(l []impl.Entry) []impl.Entry {
	var kept []impl.Entry
	for i, e := range l {
		first := !slices.ContainsFunc(l[:i], func(other impl.Entry) bool { return other.Key == e.Key && orderOf(other.Tid, e.Tid) == 0 })
		greatest := !slices.ContainsFunc(l, func(other impl.Entry) bool { return other.Key == e.Key && orderOf(other.Tid, e.Tid) > 0 })
		if first && greatest {
			kept = append(kept, e)
		}
	}
	slices.SortFunc(kept, func(a, b impl.Entry) int {
		if a.Key < b.Key {
			return -1
		}
		return 1
	})
	return kept
}

func TestReplayLog(t *testing.T) {
	for _, x := range []struct{ log, want string }{
		{"", ""},
		{"1@1.1:a=x", "a=x@1.1"},
		{"1@1.1:a=", "a=@1.1"},
		{"1@2.1:a=new 2@1.1:a=old", "a=new@2.1"},
		{"2@1.1:a=old 1@2.1:a=new", "a=new@2.1"},
		{"1@1.2:a=new 2@1.1:a=old", "a=new@1.2"},
		{"2@1.1:a=old 1@1.2:a=new", "a=new@1.2"},
		{"1@2.0:a=new 2@1.9:a=old", "a=new@2.0"},
		{"2@1.9:a=old 1@2.0:a=new", "a=new@2.0"},
		{"1@1.1:a=x 2@1.1:a=x", "a=x@1.1"},
		{"1@1.3:a=z 1@1.1:a=x 1@1.2:a=y 1@1.1:a=x", "a=z@1.3"},
		{"1@1.1:b=x 1@1.1:a=y", "a=y@1.1 b=x@1.1"},
		{"1@1.1:b=x 1@1.1:ab=y 1@1.1:a=z 1@1.1:9=w", "9=w@1.1 a=z@1.1 ab=y@1.1 b=x@1.1"},
		{"1@9.1:a=x 1@1.1:b=y 1@1.2:b=z", "a=x@9.1 b=z@1.2"},
		{"0@0.1:a=x 65535@1048575.16777215:a=y", "a=y@1048575.16777215"},
		{"65535@1048575.16777215:a=y 0@1048575.16777214:a=x", "a=y@1048575.16777215"},
		{"1@1.1:a=x 1@2.1:a=", "a=@2.1"},
	} {
		if got := recordsText(replayed(t, logged(x.log))); got != x.want {
			t.Errorf("%s: %s, not %s", x.log, got, x.want)
		}
	}
}

func TestCompactLog(t *testing.T) {
	for _, x := range []struct{ log, want string }{
		{"", ""},
		{"1@1.1:a=x", "1@1.1:a=x"},
		{"1@2.1:a=new 2@1.1:a=old", "1@2.1:a=new"},
		{"2@1.1:a=old 1@2.1:a=new", "1@2.1:a=new"},
		{"3@1.1:a=x 2@1.1:a=x 4@1.1:a=x", "3@1.1:a=x"},
		{"1@1.1:a=w 9@1.2:a=x 2@1.2:a=x", "9@1.2:a=x"},
		{"9@1.2:a=x 2@1.2:a=x 1@1.1:a=w", "9@1.2:a=x"},
		{"1@1.1:b=x 2@1.1:a=y", "2@1.1:a=y 1@1.1:b=x"},
		{"1@1.1:b=x 2@1.1:ab=y 3@9.1:a=z 4@1.1:b=x 5@1.1:9=w", "5@1.1:9=w 3@9.1:a=z 2@1.1:ab=y 1@1.1:b=x"},
		{"1@2.0:a=x 2@1.5:a=y 3@1.6:b=z 4@2.0:a=x", "1@2.0:a=x 3@1.6:b=z"},
	} {
		if got := loggedText(compacted(t, logged(x.log))); got != x.want {
			t.Errorf("%s: %s, not %s", x.log, got, x.want)
		}
	}
}

// A log may have more keys than a store has records.
func TestLogsOfManyKeys(t *testing.T) {
	l := manyEntries(80)
	if r := replayed(t, l); len(r) != 80 || !slices.Equal(r, replayAgain(l)) {
		t.Error(recordsText(r))
	}
	slices.Reverse(l)
	if c := compacted(t, l); !slices.Equal(c, manyEntries(80)) {
		t.Error(loggedText(c))
	}
}

// checkReplay holds a good log against the document's words, and what is short of it against the whole.
func checkReplay(t *testing.T, l []impl.Entry) {
	t.Helper()
	want := replayAgain(l)
	if got := replayed(t, l); !slices.Equal(got, want) {
		t.Fatalf("%s: %s, not %s", loggedText(l), recordsText(got), recordsText(want))
	}
	short := compacted(t, l)
	if want := compactAgain(l); !slices.Equal(short, want) {
		t.Fatalf("%s: %s, not %s", loggedText(l), loggedText(short), loggedText(want))
	}
	if got := replayed(t, short); !slices.Equal(got, want) {
		t.Fatalf("%s, made short: %s, not %s", loggedText(l), recordsText(got), recordsText(want))
	}
	if again := compacted(t, short); !slices.Equal(again, short) {
		t.Fatalf("%s, made short twice: %s", loggedText(l), loggedText(again))
	}
}

func TestReplayOfAllThatIsShort(t *testing.T) {
	for _, l := range smallLogs(3) {
		if goodLogAgain(l) {
			checkReplay(t, l)
		}
	}
}

func TestReplayOfManyLogs(t *testing.T) {
	for seed := range 400 {
		checkReplay(t, someLog(uint64(seed)))
	}
	for _, l := range goodLogs() {
		checkReplay(t, l)
	}
}

// inAllOrders calls what is given with each order of a list.
func inAllOrders(l []impl.Entry, call func([]impl.Entry)) {
	if len(l) == 0 {
		call(nil)
		return
	}
	inAllOrders(l[1:], func(rest []impl.Entry) {
		for at := range len(l) {
			call(slices.Insert(slices.Clone(rest), at, l[0]))
		}
	})
}

func shuffled(m *mixer, l []impl.Entry) []impl.Entry {
	l = slices.Clone(l)
	for i := range l {
		j := m.below(i + 1)
		l[i], l[j] = l[j], l[i]
	}
	return l
}

// Promise 6: in any order the same is left.
func TestAnyOrderLeavesTheSame(t *testing.T) {
	for _, l := range smallLogs(3) {
		if !goodLogAgain(l) {
			continue
		}
		want := replayed(t, l)
		inAllOrders(l, func(other []impl.Entry) {
			if got := replayed(t, other); !slices.Equal(got, want) {
				t.Fatalf("%s: %s, %s: %s", loggedText(l), recordsText(want), loggedText(other), recordsText(got))
			}
		})
	}
	for seed := range 300 {
		l, m := someLog(uint64(seed)), mixer(seed)
		want := replayed(t, l)
		for range 10 {
			other := shuffled(&m, l)
			if got := replayed(t, other); !slices.Equal(got, want) {
				t.Fatalf("%s: %s, %s: %s", loggedText(l), recordsText(want), loggedText(other), recordsText(got))
			}
		}
	}
}

func TestAllOrdersOfFive(t *testing.T) {
	l := logged("1@1.1:a=x 2@1.2:a=y 3@2.0:a=z 4@1.2:b=x 5@1.1:b=y")
	orders := 0
	inAllOrders(l, func(other []impl.Entry) {
		orders++
		if got := recordsText(replayed(t, other)); got != "a=z@2.0 b=x@1.2" {
			t.Errorf("%s: %s", loggedText(other), got)
		}
	})
	if orders != 120 {
		t.Error(orders)
	}
}

// Promise 6: however often entries are played, the same is left.
func TestEntriesTwiceLeaveTheSame(t *testing.T) {
	for seed := range 300 {
		m := mixer(seed)
		l := someLog(uint64(seed))
		l = l[:min(len(l), 40)]
		want := replayed(t, l)
		twice := slices.Concat(l, l)
		for _, other := range [][]impl.Entry{twice, shuffled(&m, twice), shuffled(&m, twice)} {
			if got := replayed(t, other); !slices.Equal(got, want) {
				t.Fatalf("%s: %s, %s: %s", loggedText(l), recordsText(want), loggedText(other), recordsText(got))
			}
		}
		if len(l) > 0 {
			often := append(slices.Clone(l), slices.Repeat(l[m.below(len(l)):][:1], 80-len(l))...)
			if got := replayed(t, often); !slices.Equal(got, want) {
				t.Fatalf("%s: %s, not %s", loggedText(often), recordsText(got), recordsText(want))
			}
		}
	}
}

func TestTruncateLog(t *testing.T) {
	whole := "1@2.1:a=x 2@1.1:a=w 3@3.0:b=y 4@0.7:c=u 5@2.0:b=v 6@2.1:a=x 7@3.0:a=z 8@1.1:a=w"
	for _, x := range []struct {
		log         string
		epoch       int
		late, early string
	}{
		{"", 0, "", ""},
		{"", impl.MaxEpoch, "", ""},
		{"1@1.1:a=x", 0, "1@1.1:a=x", ""},
		{"1@1.1:a=x", 1, "", "1@1.1:a=x"},
		{"1@0.1:a=x", 0, "", "1@0.1:a=x"},
		{whole, 0, "1@2.1:a=x 2@1.1:a=w 3@3.0:b=y 5@2.0:b=v 6@2.1:a=x 7@3.0:a=z 8@1.1:a=w", "4@0.7:c=u"},
		{whole, 1, "1@2.1:a=x 3@3.0:b=y 5@2.0:b=v 6@2.1:a=x 7@3.0:a=z", "2@1.1:a=w 4@0.7:c=u"},
		{whole, 2, "3@3.0:b=y 7@3.0:a=z", "1@2.1:a=x 5@2.0:b=v 4@0.7:c=u"},
		{whole, 3, "", "7@3.0:a=z 3@3.0:b=y 4@0.7:c=u"},
		{whole, impl.MaxEpoch, "", "7@3.0:a=z 3@3.0:b=y 4@0.7:c=u"},
		{"1@1048575.0:b=x 1@1048574.9:a=y 1@1048575.0:a=z", impl.MaxEpoch - 1, "1@1048575.0:b=x 1@1048575.0:a=z", "1@1048574.9:a=y"},
		{"1@1048575.0:b=x 1@1048574.9:a=y 1@1048575.0:a=z", impl.MaxEpoch, "", "1@1048575.0:a=z 1@1048575.0:b=x"},
		{"1@5.0:b=x 2@5.0:b=x", 4, "1@5.0:b=x 2@5.0:b=x", ""},
		{"1@5.0:b=x 2@5.0:b=x", 5, "", "1@5.0:b=x"},
	} {
		late, early, ok := impl.TruncateLog(logged(x.log), x.epoch)
		if loggedText(late) != x.late || loggedText(early) != x.early || !ok {
			t.Errorf("%s at %d: %s, %s, %v", x.log, x.epoch, loggedText(late), loggedText(early), ok)
		}
	}
}

func TestTruncateLogOfEpochsThatAreNone(t *testing.T) {
	for _, l := range goodLogs() {
		for _, epoch := range []int{-1, impl.MaxEpoch + 1, math.MinInt, math.MaxInt, 1 << 32} {
			if late, early, ok := impl.TruncateLog(l, epoch); late != nil || early != nil || ok {
				t.Error(loggedText(l), epoch, late, early, ok)
			}
		}
	}
}

// checkTruncate holds both parts against the document's words, and asks whether together they leave what the whole does.
func checkTruncate(t *testing.T, l []impl.Entry, epoch int) {
	t.Helper()
	late, early, ok := impl.TruncateLog(l, epoch)
	above := slices.DeleteFunc(slices.Clone(l), func(e impl.Entry) bool { return e.Tid.Epoch <= epoch })
	others := slices.DeleteFunc(slices.Clone(l), func(e impl.Entry) bool { return e.Tid.Epoch > epoch })
	if !ok || !slices.Equal(late, above) || !slices.Equal(early, compactAgain(others)) {
		t.Fatalf("%s at %d: %s, %s, %v", loggedText(l), epoch, loggedText(late), loggedText(early), ok)
	}
	want := replayed(t, l)
	for _, both := range [][]impl.Entry{slices.Concat(late, early), slices.Concat(early, late)} {
		if got := replayed(t, both); !slices.Equal(got, want) {
			t.Fatalf("%s at %d: %s, not %s", loggedText(l), epoch, recordsText(got), recordsText(want))
		}
	}
}

func TestTruncateLogOfManyLogs(t *testing.T) {
	for _, l := range smallLogs(3) {
		if goodLogAgain(l) {
			for epoch := range 4 {
				checkTruncate(t, l, epoch)
			}
		}
	}
	for seed := range 300 {
		for _, epoch := range []int{0, 1, 2, 3, 4, 5, impl.MaxEpoch} {
			checkTruncate(t, someLog(uint64(seed)), epoch)
		}
	}
}
