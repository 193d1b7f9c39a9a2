package tests

import (
	"fmt"
	"math"
	"slices"
	"strings"
	"testing"
	"unsafe"

	"loop.example/g00218/impl"
)

// logAnswers asks all functions of logs, and tells what they answered as one text.
func logAnswers(l, other []impl.Entry, epoch int) string {
	records, ok1 := impl.ReplayLog(l)
	short, ok2 := impl.CompactLog(l)
	both, ok3 := impl.MergeLogs(l, other)
	turned, ok4 := impl.MergeLogs(other, l)
	late, early, ok5 := impl.TruncateLog(l, epoch)
	text, ok6 := impl.LogText(l)
	return fmt.Sprint(impl.GoodLog(l), records, ok1, short, ok2, both, ok3, turned, ok4, late, early, ok5, text, ok6)
}

// someLogs are good ones, at the edges and long ones, and some that are not.
func someLogs() [][]impl.Entry {
	var all [][]impl.Entry
	for _, logs := range []map[string][]impl.Entry{goodLogs(), badLogs()} {
		for _, l := range logs {
			all = append(all, l)
		}
	}
	for seed := range 30 {
		all = append(all, someLog(uint64(seed)))
	}
	return all
}

func otherLogs() [][]impl.Entry {
	return [][]impl.Entry{nil, logged("1@1.1:a=x"), logged("9@9.9:b=y 9@9.9:zz=y"), someLog(99)[:20]}
}

func TestNoLogIsWrittenInto(t *testing.T) {
	for _, l := range someLogs() {
		for _, other := range otherLogs() {
			old, otherOld := slices.Clone(l), slices.Clone(other)
			for _, epoch := range []int{-1, 0, 1, 2, impl.MaxEpoch} {
				logAnswers(l, other, epoch)
			}
			if !slices.Equal(l, old) || !slices.Equal(other, otherOld) {
				t.Errorf("%s became %s, %s became %s", loggedText(old), loggedText(l), loggedText(otherOld), loggedText(other))
			}
		}
	}
}

// roomyLog is the log with room behind it, where entries lie that must not matter.
func roomyLog(l []impl.Entry, behind impl.Entry) []impl.Entry {
	return append(slices.Clone(l), behind, behind, behind, behind)[:len(l)]
}

// Whatever lies behind the lengths, good or bad, is neither read nor written nor handed out.
func TestLogsKeepToTheirLengths(t *testing.T) {
	for _, l := range someLogs() {
		for _, other := range otherLogs() {
			for _, behind := range append(logged("1@9.9:a=z 0@0.1:b= 7@1.1:a=zz"), impl.Entry{}) {
				long, more := roomyLog(l, behind), roomyLog(other, behind)
				old, moreOld := slices.Clone(long[:cap(long)]), slices.Clone(more[:cap(more)])
				if got, want := logAnswers(long, more, 1), logAnswers(l, other, 1); got != want {
					t.Fatalf("%s: %s, not %s", loggedText(l), got, want)
				}
				if !slices.Equal(long[:cap(long)], old) || !slices.Equal(more[:cap(more)], moreOld) {
					t.Fatalf("%s: written behind its length", loggedText(l))
				}
			}
		}
	}
}

func entrySpans(l []impl.Entry, what string) []span {
	spans := []span{spanOf(l, what)}
	for _, e := range l {
		spans = append(spans, textSpan(e.Key, what+"'s key"), textSpan(e.Value, what+"'s value"))
	}
	return spans
}

func recordSpans(l []impl.Record, what string) []span {
	spans := []span{spanOf(l, what)}
	for _, r := range l {
		spans = append(spans, textSpan(r.Key, what+"'s key"), textSpan(r.Value, what+"'s value"))
	}
	return spans
}

func TestLogsAreNewMemory(t *testing.T) {
	behind := impl.Entry{Key: "z", Value: "z"}
	for _, l := range someLogs() {
		l = roomyLog(l, behind)
		given := entrySpans(l, "log")
		records, _ := impl.ReplayLog(l)
		checkNew(t, recordSpans(records, "records"), given)
		short, _ := impl.CompactLog(l)
		checkNew(t, entrySpans(short, "short log"), given)
		for _, other := range otherLogs() {
			other = roomyLog(other, behind)
			both := slices.Concat(given, entrySpans(other, "other log"))
			merged, _ := impl.MergeLogs(l, other)
			checkNew(t, entrySpans(merged, "merged log"), both)
			merged, _ = impl.MergeLogs(other, l)
			checkNew(t, entrySpans(merged, "log that was merged the other way"), both)
		}
		merged, _ := impl.MergeLogs(l, l)
		checkNew(t, entrySpans(merged, "log merged with itself"), given)
		for _, epoch := range []int{0, 1, 2, 3, impl.MaxEpoch} {
			late, early, _ := impl.TruncateLog(l, epoch)
			checkNew(t, slices.Concat(entrySpans(late, "late"), entrySpans(early, "early")), given)
		}
		text, ok := impl.LogText(l)
		checkNew(t, []span{textSpan(text, "text")}, given)
		if ok {
			back, _ := impl.ReadLog(text)
			checkNew(t, entrySpans(back, "log that was read"), append(given, textSpan(text, "text")))
		}
	}
}

// An empty part of a log does not tell where that log lies.
func TestEmptyLogsAreNewMemory(t *testing.T) {
	l := manyEntries(4)
	for _, none := range [][]impl.Entry{l[:0], l[2:2], l[:0:0], l[4:]} {
		records, _ := impl.ReplayLog(none)
		short, _ := impl.CompactLog(none)
		merged, _ := impl.MergeLogs(none, none)
		late, early, _ := impl.TruncateLog(none, 1)
		for _, answer := range [][]impl.Entry{short, merged, late, early} {
			if cap(answer) > 0 || sharesList(answer, l) {
				t.Error(cap(answer))
			}
			checkNew(t, entrySpans(answer, "answer"), entrySpans(l, "log"))
		}
		checkNew(t, recordSpans(records, "records"), entrySpans(l, "log"))
	}
}

// Two answers to one question lie apart: one may be written into.
func TestTwoAnswersOfLogsShareNoMemory(t *testing.T) {
	l := logged("1@1.1:b=x 2@2.1:a=y 3@1.2:b=z")
	text, _ := impl.LogText(l)
	for range 2 {
		records, _ := impl.ReplayLog(l)
		short, _ := impl.CompactLog(l)
		merged, _ := impl.MergeLogs(l, l)
		late, early, _ := impl.TruncateLog(l, 1)
		back, _ := impl.ReadLog(text)
		if recordsText(records) != "a=y@2.1 b=z@1.2" || loggedText(short) != "2@2.1:a=y 3@1.2:b=z" || !slices.Equal(merged, l) ||
			loggedText(late) != "2@2.1:a=y" || loggedText(early) != "3@1.2:b=z" || !slices.Equal(back, l) {
			t.Error(records, short, merged, late, early, back)
		}
		clear(records)
		for _, answer := range [][]impl.Entry{short, merged, late, early, back} {
			clear(answer[:cap(answer)])
		}
	}
}

// Texts laid over bytes that change later show whether an answer still hangs on them.
func TestLogsDoNotHangOnWhatWasGiven(t *testing.T) {
	b := []byte("abcdefgh")
	key := unsafe.String(&b[0], len(b))
	l := []impl.Entry{{Txn: 1, Key: key, Value: key, Tid: tidOf(1, 1)}, {Txn: 2, Key: key, Value: key, Tid: tidOf(2, 1)}}
	records, _ := impl.ReplayLog(l)
	short, _ := impl.CompactLog(l)
	merged, _ := impl.MergeLogs(l[:1], l[1:])
	late, early, _ := impl.TruncateLog(l, 1)
	text, _ := impl.LogText(l)
	bytes := []byte(text)
	back, _ := impl.ReadLog(unsafe.String(&bytes[0], len(bytes)))
	copy(b, "zzzzzzzz")
	clear(bytes)
	first, second := "1@1.1:abcdefgh=abcdefgh", "2@2.1:abcdefgh=abcdefgh"
	if recordsText(records) != "abcdefgh=abcdefgh@2.1" || text != "1 1.1 abcdefgh=abcdefgh;2 2.1 abcdefgh=abcdefgh;" {
		t.Error(recordsText(records), text)
	}
	if loggedText(short) != second || loggedText(merged) != first+" "+second || loggedText(late) != second || loggedText(early) != first || loggedText(back) != first+" "+second {
		t.Error(short, merged, late, early, back)
	}
}

func TestReadLogDoesNotWriteIntoItsText(t *testing.T) {
	for _, s := range append(badTexts(), "1 1.1 a=x;2 2.2 b=y;") {
		if b := []byte(s); len(b) > 0 {
			impl.ReadLog(unsafe.String(&b[0], len(b)))
			if string(b) != s {
				t.Errorf("%q became %q", s, b)
			}
		}
	}
}

// Logs of anything at all are answered, and those that are not good by the zero answer.
func TestLogsOfAnything(t *testing.T) {
	numbers := []int{math.MinInt, -1, 0, 0, 1, 1, 2, 65535, 65536, impl.MaxEpoch, impl.MaxSeq, math.MaxInt}
	texts := []string{"", "a", "a", "b", "?", "a=b", "\xff\x00", strings.Repeat("x", 1000)}
	for seed := range 5000 {
		m := mixer(seed)
		number := func() int { return numbers[m.below(len(numbers))] }
		text := func() string { return texts[m.below(len(texts))] }
		var l []impl.Entry
		for range m.below(4) {
			l = append(l, impl.Entry{Txn: number(), Key: text(), Value: text(), Tid: impl.Tid{Epoch: number(), Seq: number(), Locked: m.below(9) == 0}})
		}
		other, epoch := slices.Clone(l[:m.below(len(l)+1)]), number()
		logAnswers(l, other, epoch)
		if good := goodLogAgain(l); impl.GoodLog(l) != good {
			t.Fatalf("%+v: not %v", l, good)
		} else if good {
			checkReplay(t, l)
		} else {
			checkNoAnswer(t, l)
		}
	}
}

// Long and senseless texts have the zero answer, without a panic.
func TestReadLogAnswersAtAnyText(t *testing.T) {
	for _, s := range []string{
		strings.Repeat(";", 1<<20), strings.Repeat("1", 1<<20), strings.Repeat(" ", 1<<20), strings.Repeat("=", 1<<20), strings.Repeat("1 1.1 a=", 1<<17),
		"1 1.1 " + strings.Repeat("a", 1<<20) + "=x;", "1 1.1 a=" + strings.Repeat("x", 1<<20) + ";", "1 1." + strings.Repeat("0", 1<<20) + " a=x;",
	} {
		if l, ok := impl.ReadLog(s); l != nil || ok {
			t.Errorf("%.20q: %d %v", s, len(l), ok)
		}
	}
	m := mixer(6)
	for range 20000 {
		b := make([]byte, m.below(30))
		for i := range b {
			b[i] = "01 1.1 a=x;\xff"[m.below(12)]
		}
		want, ok := readLogAgain(string(b))
		if got, read := impl.ReadLog(string(b)); read != ok || !slices.Equal(got, want) {
			t.Fatalf("%q: %+v %v", b, got, read)
		}
	}
}
