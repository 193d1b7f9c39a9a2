package tests

import (
	"fmt"
	"regexp"
	"slices"
	"strconv"
	"strings"
	"testing"

	"loop.example/g00218/impl"
)

const entryForm = `(0|[1-9][0-9]*) (0|[1-9][0-9]*)\.(0|[1-9][0-9]*) ([a-z0-9]{1,8})=([ -:<-~]{0,20});`

var (
	oneEntry   = regexp.MustCompile(entryForm)
	allEntries = regexp.MustCompile(`\A(` + entryForm + `)*\z`)
)

// readLogAgain reads a text by the form of its entries; numbers that are too great for an int are so for a log too.
func readLogAgain(s string) ([]impl.Entry, bool) {
	if !allEntries.MatchString(s) {
		return nil, false
	}
	var l []impl.Entry
	for _, part := range oneEntry.FindAllStringSubmatch(s, -1) {
		var n [3]int
		for i := range n {
			var err error
			if n[i], err = strconv.Atoi(part[i+1]); err != nil {
				return nil, false
			}
		}
		l = append(l, impl.Entry{Txn: n[0], Key: part[4], Value: part[5], Tid: tidOf(n[1], n[2])})
	}
	if !goodLogAgain(l) {
		return nil, false
	}
	return l, true
}

func logTextAgain(l []impl.Entry) string {
	s := ""
	for _, e := range l {
		s += fmt.Sprintf("%d %d.%d %s=%s;", e.Txn, e.Tid.Epoch, e.Tid.Seq, e.Key, e.Value)
	}
	return s
}

func TestLogText(t *testing.T) {
	for _, x := range []struct {
		log  []impl.Entry
		want string
	}{
		{nil, ""},
		{[]impl.Entry{}, ""},
		{logged("0@0.1:a="), "0 0.1 a=;"},
		{logged("0@1.0:a=x"), "0 1.0 a=x;"},
		{logged("65535@1048575.16777215:abcdefgh=01234567890123456789"), "65535 1048575.16777215 abcdefgh=01234567890123456789;"},
		{logged("2@2.0:k=new 1@1.1:k=old 1@1.1:j=x"), "2 2.0 k=new;1 1.1 k=old;1 1.1 j=x;"},
		{logged("1@1.1:k=x 1@1.1:k=x"), "1 1.1 k=x;1 1.1 k=x;"},
		{[]impl.Entry{{Txn: 10, Key: "0", Value: "=", Tid: tidOf(20, 100)}}, "10 20.100 0==;"},
		{[]impl.Entry{{Txn: 7, Key: "a", Value: " 1 1.1 b=c ", Tid: tidOf(1, 1)}}, "7 1.1 a= 1 1.1 b=c ;"},
	} {
		if got, ok := impl.LogText(x.log); got != x.want || !ok {
			t.Errorf("%+v: %q %v, not %q", x.log, got, ok, x.want)
		}
		if back, ok := impl.ReadLog(x.want); !slices.Equal(back, x.log) || !ok {
			t.Errorf("%q: %+v %v", x.want, back, ok)
		}
	}
}

// Promise 6: a log comes back from its text.
func TestLogsComeBackFromTheirTexts(t *testing.T) {
	var logs [][]impl.Entry
	for _, l := range goodLogs() {
		logs = append(logs, l)
	}
	for _, e := range goodEntries() {
		logs = append(logs, []impl.Entry{e}, append(logged("3@9.9:zzz=y"), e), append([]impl.Entry{e}, logged("3@9.9:zzz=y")...))
	}
	for _, l := range smallLogs(3) {
		if goodLogAgain(l) {
			logs = append(logs, l)
		}
	}
	for seed := range 300 {
		logs = append(logs, someLog(uint64(seed)))
	}
	for _, l := range logs {
		s, ok := impl.LogText(l)
		if s != logTextAgain(l) || !ok {
			t.Fatalf("%+v: %q %v", l, s, ok)
		}
		if back, ok := impl.ReadLog(s); !slices.Equal(back, l) || !ok {
			t.Fatalf("%q: %+v %v", s, back, ok)
		}
	}
}

func TestReadLog(t *testing.T) {
	for _, s := range []string{
		"0 0.1 a=;",
		"1 1.1 a==;",
		"1 1.1 a=b=c;",
		"1 1.1 a= ;",
		"1 1.1 a=b c;",
		"1 1.1 a= 1 1.1 b=;",
		"1 1.1 1=1;",
		"1 1.1 a=x;1 1.1 a=x;",
		"65535 1048575.16777215 zzzzzzzz=~~~~~~~~~~~~~~~~~~~~;",
		"10 100.1000 a=00;",
	} {
		back, ok := impl.ReadLog(s)
		want, good := readLogAgain(s)
		if !ok || !good || !slices.Equal(back, want) {
			t.Errorf("%q: %+v %v, not %+v %v", s, back, ok, want, good)
		}
	}
}

// badTexts are told with a good entry ahead of and behind each of them, too.
func badTexts() []string {
	l := []string{
		// ends within an entry, or without its last mark
		"1", "1 ", "1 1", "1 1.", "1 1.1", "1 1.1 ", "1 1.1 a", "1 1.1 a=", "1 1.1 a=x", "1;", "1 1.1;", "1 1.1 a;", " ", ";", ";;",
		// parts that lack or are too many
		" 1.1 a=x;", "1 .1 a=x;", "1 1. a=x;", "1 1.1 =x;", "1.1 a=x;", "1 1 a=x;", "1 1.1a=x;", "11.1 a=x;", "1 1.1.1 a=x;", "1 1 1.1 a=x;", "1 1.1 a b=x;",
		// blanks and other bytes that have no place there
		" 1 1.1 a=x;", "1  1.1 a=x;", "1 1.1  a=x;", "1 1.1 a =x;", "1 1 .1 a=x;", "1 1. 1 a=x;", "1\t1.1 a=x;", "1 1.1\na=x;", "1 1.1 a=x\n;", "1,1.1 a=x;", "1 1,1 a=x;", "1 1.1 a:x;",
		"1 1.1 a=x;\n", "1 1.1 a=x; ", "1 1.1 a=x;;", ";1 1.1 a=x;", "1 1.1 a=x; 1 1.1 b=x;", "1 1.1 a=x;x", "1 1.1 a=x;\x00", "\x001 1.1 a=x;",
		// needless noughts
		"01 1.1 a=x;", "00 1.1 a=x;", "1 01.1 a=x;", "1 00.1 a=x;", "1 1.01 a=x;", "1 1.00 a=x;", "0000000000000000000000001 1.1 a=x;",
		// signs and other forms of numbers
		"+1 1.1 a=x;", "-1 1.1 a=x;", "-0 1.1 a=x;", "+0 1.1 a=x;", "1 +1.1 a=x;", "1 -1.1 a=x;", "1 -0.1 a=x;", "1 1.+1 a=x;", "1 1.-1 a=x;", "1 1.-0 a=x;",
		"0x1 1.1 a=x;", "1_0 1.1 a=x;", "1 1_0.1 a=x;", "1 1.1_0 a=x;", "1e1 1.1 a=x;", "a 1.1 a=x;", "1 b.1 a=x;", "1 1.c a=x;", "\u0661 1.1 a=x;", "1 1.1\u00a0a=x;",
		// beyond a limit
		"65536 1.1 a=x;", "1 1048576.1 a=x;", "1 1.16777216 a=x;", "100000 1.1 a=x;",
		// beyond 32 and 64 bits, where a number may come round to a good one
		"4294967297 1.1 a=x;", "1 4294967297.1 a=x;", "1 1.4294967297 a=x;",
		"9223372036854775807 1.1 a=x;", "9223372036854775808 1.1 a=x;", "18446744073709551617 1.1 a=x;", "1 18446744073709551617.1 a=x;", "1 1.18446744073709551617 a=x;", "184467440737095516170 1.1 a=x;",
		strings.Repeat("9", 100) + " 1.1 a=x;", "1 " + strings.Repeat("1", 100) + ".1 a=x;",
		// tids that no entry has
		"1 0.0 a=x;", "0 0.0 a=;",
	}
	for _, key := range badKeys() {
		// a key that has the mark itself ends there; what is behind it is of the value
		if !strings.Contains(key, "=") {
			l = append(l, "1 1.1 "+key+"=x;")
		}
	}
	for _, value := range badValues() {
		l = append(l, "1 1.1 a="+value+";")
	}
	return l
}

func checkNoLog(t *testing.T, s string) {
	t.Helper()
	if _, good := readLogAgain(s); good {
		t.Fatalf("%q is the text of a log", s)
	}
	if l, ok := impl.ReadLog(s); l != nil || ok {
		t.Errorf("%q: %+v %v", s, l, ok)
	}
}

func TestReadLogOfTextsThatNoLogHas(t *testing.T) {
	for _, s := range badTexts() {
		checkNoLog(t, s)
		checkNoLog(t, "1 1.1 j=x;"+s)
		// without its last mark a value would go on
		if strings.HasSuffix(s, ";") {
			checkNoLog(t, s+"1 1.1 j=x;")
		}
	}
}

// A value with the mark in it ends there, and what is behind it is no entry.
func TestReadLogOfMarksInValues(t *testing.T) {
	for _, s := range []string{"1 1.1 a=;;", "1 1.1 a=x;y;", "1 1.1 a=;x;", "1 1.1 a=x;;1 1.1 b=x;"} {
		checkNoLog(t, s)
	}
}

func TestReadLogOfLogsThatAreNotGood(t *testing.T) {
	for name, l := range badLogs() {
		s := logTextAgain(l)
		if back, ok := impl.ReadLog(s); back != nil || ok {
			t.Error(name, back, ok)
		}
	}
	for _, l := range smallLogs(3) {
		if !goodLogAgain(l) {
			checkNoLog(t, logTextAgain(l))
		}
	}
	for _, e := range badEntries() {
		if !e.Tid.Locked && !strings.Contains(e.Key, "=") {
			s := logTextAgain([]impl.Entry{e})
			if back, ok := impl.ReadLog(s); back != nil || ok {
				t.Errorf("%q: %+v %v", s, back, ok)
			}
		}
	}
}

func TestReadLogHasALimit(t *testing.T) {
	all := manyEntries(81)
	if l, ok := impl.ReadLog(logTextAgain(all[:80])); !slices.Equal(l, all[:80]) || !ok {
		t.Error(len(l), ok)
	}
	same := slices.Repeat(logged("1@1.1:a=x"), 80)
	if l, ok := impl.ReadLog(logTextAgain(same)); !slices.Equal(l, same) || !ok {
		t.Error(len(l), ok)
	}
	for _, s := range []string{logTextAgain(all), strings.Repeat("1 1.1 a=x;", 81), strings.Repeat("1 1.1 a=x;", 100000)} {
		if l, ok := impl.ReadLog(s); l != nil || ok {
			t.Error(len(s), len(l), ok)
		}
	}
}

// Each text that is near a good one is read as its form says, and has no other log.
func TestReadLogOfTextsThatAreChanged(t *testing.T) {
	bytes := []byte("0159 .=;az+-A\x00\xff")
	good := 0
	for seed := range 40 {
		l := someLog(uint64(seed))
		s := []byte(logTextAgain(l[:min(len(l), 3)]))
		for at := range len(s) {
			for _, c := range bytes {
				put, more := slices.Clone(s), slices.Insert(slices.Clone(s), at, c)
				put[at] = c
				for _, other := range [][]byte{put, more, slices.Delete(slices.Clone(s), at, at+1), s[:at]} {
					want, ok := readLogAgain(string(other))
					got, read := impl.ReadLog(string(other))
					if read != ok || !slices.Equal(got, want) || !ok && got != nil {
						t.Fatalf("%q: %+v %v, not %+v %v", other, got, read, want, ok)
					}
					if text, _ := impl.LogText(got); read && text != string(other) {
						t.Fatalf("%q is read, and told as %q", other, text)
					} else if read {
						good++
					}
				}
			}
		}
	}
	if good < 1000 {
		t.Error(good)
	}
}

// All texts of few bytes, and those that are put together of the parts of entries.
func TestReadLogOfAllThatIsShort(t *testing.T) {
	parts := []string{"1 ", "0", "1", "1.", ".2 ", " ", "a=", "=", "b", ";", "x;"}
	texts := []string{""}
	good := 0
	for from := 0; from < len(texts); from++ {
		s := texts[from]
		want, ok := readLogAgain(s)
		if got, read := impl.ReadLog(s); read != ok || !slices.Equal(got, want) {
			t.Fatalf("%q: %+v %v, not %+v %v", s, got, read, want, ok)
		} else if read {
			good++
		}
		if len(texts) < 300000 {
			for _, part := range parts {
				texts = append(texts, s+part)
			}
		}
	}
	if good < 10 {
		t.Error(good)
	}
}
