package tests

import (
	"slices"
	"testing"

	"loop.example/g00218/impl"
)

// mergeAgain tells the document's words a second time.
func mergeAgain(a, b []impl.Entry) ([]impl.Entry, bool) {
	if !goodLogAgain(a) || !goodLogAgain(b) {
		return nil, false
	}
	merged := slices.Clone(a)
	for _, e := range b {
		has := false
		for _, other := range a {
			if other.Key == e.Key && orderOf(other.Tid, e.Tid) == 0 {
				if other.Value != e.Value {
					return nil, false
				}
				has = true
			}
		}
		if !has {
			merged = append(merged, e)
		}
	}
	if !goodLogAgain(merged) {
		return nil, false
	}
	return merged, true
}

func TestMergeLogs(t *testing.T) {
	for _, x := range []struct {
		a, b, want string
		ok         bool
	}{
		{"", "", "", true},
		{"1@1.1:a=x", "", "1@1.1:a=x", true},
		{"", "1@1.1:a=x", "1@1.1:a=x", true},
		{"1@1.1:a=x", "1@1.1:a=x", "1@1.1:a=x", true},
		{"1@1.1:a=x", "2@1.1:a=x", "1@1.1:a=x", true},
		{"1@1.1:b=x", "2@1.1:a=y", "1@1.1:b=x 2@1.1:a=y", true},
		{"1@1.1:a=x", "2@1.2:a=y", "1@1.1:a=x 2@1.2:a=y", true},
		{"1@1.1:a=x", "2@2.1:a=y", "1@1.1:a=x 2@2.1:a=y", true},
		{"1@2.1:a=x", "2@1.1:a=y", "1@2.1:a=x 2@1.1:a=y", true},
		{"2@2.1:c=x 1@1.1:a=y", "3@3.1:b=z 4@1.1:a=y 5@1.1:b=w", "2@2.1:c=x 1@1.1:a=y 3@3.1:b=z 5@1.1:b=w", true},
		// what each has twice by itself stays
		{"1@1.1:a=x 2@1.1:a=x", "", "1@1.1:a=x 2@1.1:a=x", true},
		{"", "1@1.1:a=x 2@1.1:a=x", "1@1.1:a=x 2@1.1:a=x", true},
		{"1@1.1:c=y", "1@1.1:a=x 1@1.1:a=x 2@1.1:a=x", "1@1.1:c=y 1@1.1:a=x 1@1.1:a=x 2@1.1:a=x", true},
		{"1@1.1:a=x 2@1.1:a=x", "3@1.1:a=x 4@1.1:a=x 5@1.2:a=y", "1@1.1:a=x 2@1.1:a=x 5@1.2:a=y", true},
		// one key and one tid of both, with unlike values
		{"1@1.1:a=x", "1@1.1:a=y", "", false},
		{"1@1.1:a=x", "2@1.1:a=", "", false},
		{"1@1.1:a=", "2@1.1:a=x", "", false},
		{"1@1.1:a=x 1@1.2:a=y", "1@1.3:a=z 1@1.2:a=x", "", false},
		{"1@1.1:a=x", "1@1.1:b=y 1@1.1:a=x 1@2.1:a=y", "1@1.1:a=x 1@1.1:b=y 1@2.1:a=y", true},
		// logs that are none
		{"1@1.1:a=x 1@1.1:a=y", "1@1.1:b=y", "", false},
		{"1@1.1:b=x", "1@1.1:a=x 1@1.1:a=y", "", false},
		{"1@0.0:a=x", "1@1.1:a=x", "", false},
		{"1@1.1:a=x", "1@0.0:a=x", "", false},
		{"", "-1@1.1:a=x", "", false},
		{"-1@1.1:a=x", "", "", false},
		// not even where nothing of it would be taken
		{"1@1.1:a=x", "-1@1.1:a=x", "", false},
		{"1@1.1:a=x", "65536@1.1:a=x", "", false},
	} {
		got, ok := impl.MergeLogs(logged(x.a), logged(x.b))
		if loggedText(got) != x.want || ok != x.ok {
			t.Errorf("%s and %s: %s %v, not %s %v", x.a, x.b, loggedText(got), ok, x.want, x.ok)
		}
	}
}

func TestMergeLogsHasALimit(t *testing.T) {
	all := manyEntries(81)
	one := logged("1@1.1:a=x")
	for _, x := range []struct {
		a, b []impl.Entry
		many int
	}{
		{all[:80], nil, 80},
		{nil, all[:80], 80},
		{all[:79], all[79:80], 80},
		{all[:40], all[40:80], 80},
		{all[:1], all[1:81], -1},
		{all[:80], all[80:], -1},
		{all[:41], all[41:81], -1},
		{all[:80], all[:80], 80},
		{all[:80], all[79:80], 80},
		{all[:80], all[79:81], -1},
		{all[:81], nil, -1},
		{nil, all[:81], -1},
		{all[:60], all[20:80], 80},
		{all[:60], all[20:81], -1},
		// entries of b that b has twice count twice
		{all[:40], slices.Repeat(one, 40), 80},
		{all[:40], slices.Repeat(one, 41), -1},
		{slices.Repeat(one, 80), slices.Repeat(one, 80), 80},
		{one, slices.Repeat(one, 80), 1},
		{one, slices.Repeat(one, 81), -1},
	} {
		got, ok := impl.MergeLogs(x.a, x.b)
		if x.many < 0 {
			if got != nil || ok {
				t.Error(len(x.a), len(x.b), len(got), ok)
			}
			continue
		}
		if want, _ := mergeAgain(x.a, x.b); len(got) != x.many || !ok || !slices.Equal(got, want) {
			t.Error(len(x.a), len(x.b), len(got), ok)
		}
	}
}

func checkMerge(t *testing.T, a, b []impl.Entry) bool {
	t.Helper()
	want, good := mergeAgain(a, b)
	got, ok := impl.MergeLogs(a, b)
	if !slices.Equal(got, want) || ok != good || !ok && got != nil {
		t.Fatalf("%s and %s: %s %v, not %s %v", loggedText(a), loggedText(b), loggedText(got), ok, loggedText(want), good)
	}
	if !ok {
		return false
	}
	if left, want := replayed(t, got), replayAgain(slices.Concat(a, b)); !slices.Equal(left, want) {
		t.Fatalf("%s and %s leave %s, not %s", loggedText(a), loggedText(b), recordsText(left), recordsText(want))
	}
	return true
}

func TestMergeLogsOfAllThatIsShort(t *testing.T) {
	merged := 0
	for _, a := range smallLogs(2) {
		for _, b := range smallLogs(2) {
			if checkMerge(t, a, b) {
				merged++
			}
		}
	}
	if merged < 20000 || merged > 60000 {
		t.Error(merged)
	}
}

// Promise 6: which log is merged into which, and how often, does not matter for what is left.
func TestMergeLogsOfManyLogs(t *testing.T) {
	merged, refused := 0, 0
	for seed := range 600 {
		a, b := someLog(uint64(seed)), someLog(uint64(seed+1000))
		if seed%2 == 0 {
			a, b = a[:min(len(a), 40)], b[:min(len(b), 40)]
		}
		if !checkMerge(t, a, b) {
			refused++
			continue
		}
		merged++
		both, _ := impl.MergeLogs(a, b)
		again, ok := impl.MergeLogs(both, b)
		if !ok || !slices.Equal(again, both) {
			t.Fatalf("%s and %s again: %s %v", loggedText(both), loggedText(b), loggedText(again), ok)
		}
		if other, ok := impl.MergeLogs(b, a); ok && !slices.Equal(replayed(t, other), replayed(t, both)) {
			t.Fatalf("%s and %s leave unlike things in unlike orders", loggedText(a), loggedText(b))
		}
	}
	if merged < 100 || refused < 20 {
		t.Error(merged, refused)
	}
}

// The two parts of a log that was made short come together again.
func TestWhatWasTruncatedIsMerged(t *testing.T) {
	for seed := range 200 {
		l := someLog(uint64(seed))
		for epoch := range 6 {
			late, early, _ := impl.TruncateLog(l, epoch)
			both, ok := impl.MergeLogs(late, early)
			if !ok || !slices.Equal(both, slices.Concat(late, early)) || !slices.Equal(replayed(t, both), replayed(t, l)) {
				t.Fatalf("%s at %d: %s %v", loggedText(l), epoch, loggedText(both), ok)
			}
		}
	}
}
