package tests

import (
	"fmt"
	"maps"
	"math"
	"slices"
	"strconv"
	"strings"
	"testing"

	"loop.example/g00218/impl"
)

// steps reads words such as b, r1a, w1a=x, l1, c1, i1 and g1: begin, read, write, lock, check, install and give up.
func steps(text string) []impl.Step {
	var l []impl.Step
	for _, word := range strings.Fields(text) {
		rest := strings.TrimLeft(word[1:], "-0123456789")
		txn, _ := strconv.Atoi(word[1 : len(word)-len(rest)])
		key, value, _ := strings.Cut(rest, "=")
		l = append(l, impl.Step{Kind: strings.IndexByte("?brwlcig", word[0]), Txn: txn, Key: key, Value: value})
	}
	return l
}

// played is the store that a play leaves in epoch 1, where each step has code OccOk.
func played(t *testing.T, text string) impl.Store {
	t.Helper()
	s, codes, ok := impl.PlayStore(1, steps(text))
	if !ok || slices.Max(append(codes, 0)) != impl.OccOk {
		t.Fatalf("%s: %v %v", text, codes, ok)
	}
	return s
}

// told is a store as a text: its records as a=1@6.2, with !3 behind where 3 owns them, its Txns as 3L[looks]{writes}@tid, its Order.
func told(s impl.Store) string {
	var parts []string
	for _, r := range s.Records {
		part := fmt.Sprintf("%s=%s@%d.%d", r.Key, r.Value, r.Tid.Epoch, r.Tid.Seq)
		if r.Tid.Locked || r.Owner != 0 {
			part += fmt.Sprintf("!%d", r.Owner)
		}
		parts = append(parts, part)
	}
	for _, x := range s.Txns {
		var looks, writes []string
		for _, k := range x.Looks {
			looks = append(looks, fmt.Sprintf("%s=%s@%d.%d", k.Key, k.Value, k.Tid.Epoch, k.Tid.Seq))
		}
		for _, w := range x.Writes {
			writes = append(writes, w.Key+"="+w.Value)
		}
		part := fmt.Sprintf("%d%c[%s]{%s}", x.Id, "?RLCDG"[x.State], strings.Join(looks, ","), strings.Join(writes, ","))
		if x.Tid != (impl.Tid{}) {
			part += fmt.Sprintf("@%d.%d", x.Tid.Epoch, x.Tid.Seq)
		}
		parts = append(parts, part)
	}
	for _, id := range s.Order {
		parts = append(parts, strconv.Itoa(id))
	}
	return strings.Join(parts, " ")
}

func TestDoStep(t *testing.T) {
	const ok, bad, locked, gone, full = impl.OccOk, impl.OccBad, impl.OccLocked, impl.OccChanged, impl.OccFull
	const wroteA = "b w1a=1 l1 c1 i1 "
	for _, c := range []struct {
		play, step string
		text       string
		code       int
		left       string
	}{
		// begin
		{"", "b", "1", ok, "1R[]{}"},
		{"b", "b", "2", ok, "1R[]{} 2R[]{}"},
		{"b g1", "b", "2", ok, "1G[]{} 2R[]{}"},
		// a read of a key that it writes, that it has looked at, that is not there, that is, that is another one's
		{"b w1a=x", "r1a", "x", ok, "1R[]{a=x}"},
		{"b r1a w1a=x", "r1a", "x", ok, "1R[a=@0.0]{a=x}"},
		{"b r1a", "r1a", "", ok, "1R[a=@0.0]{}"},
		{"b r1b", "r1a", "", ok, "1R[b=@0.0,a=@0.0]{}"},
		{wroteA + "b", "r2a", "1", ok, "a=1@1.0 1D[]{a=1}@1.0 2R[a=1@1.0]{} 1"},
		{wroteA + "b", "r2b", "", ok, "a=1@1.0 1D[]{a=1}@1.0 2R[b=@0.0]{} 1"},
		{"b b w1a=1 l1", "r2a", "", locked, ""},
		{"b b w1a=1 l1 c1", "r2a", "", locked, ""},
		{"b b w1a=1 l1 w2a=2", "r2a", "2", ok, "a=@0.0!1 1L[]{a=1} 2R[]{a=2}"},
		{"b b r2a w1a=1 l1", "r2a", "", ok, "a=@0.0!1 1L[]{a=1} 2R[a=@0.0]{}"},
		{"b b r2a w1a=1 l1 c1 i1", "r2a", "", ok, "a=1@1.0 1D[]{a=1}@1.0 2R[a=@0.0]{} 1"},
		{"b w1a=1 l1 g1 b", "r2a", "", ok, "a=@0.0 1G[]{a=1} 2R[a=@0.0]{}"},
		// a write, in its place, and twice of one key
		{"b", "w1a=1", "", ok, "1R[]{a=1}"},
		{"b w1b=2", "w1a=1", "", ok, "1R[]{a=1,b=2}"},
		{"b w1a=1 w1c=3", "w1b=2", "", ok, "1R[]{a=1,b=2,c=3}"},
		{"b w1a=1 w1b=2", "w1a=3", "", ok, "1R[]{a=3,b=2}"},
		{"b w1a=1", "w1a=", "", ok, "1R[]{a=}"},
		{"b b w1a=1 l1", "w2a=2", "", ok, "a=@0.0!1 1L[]{a=1} 2R[]{a=2}"},
		// a lock, of nothing, of keys that are not there, of keys that are, of another one's
		{"b", "l1", "", ok, "1L[]{}"},
		{"b w1a=1 w1c=3", "l1", "", ok, "a=@0.0!1 c=@0.0!1 1L[]{a=1,c=3}"},
		{wroteA + "b w2a=2 w2b=2", "l2", "", ok, "a=1@1.0!2 b=@0.0!2 1D[]{a=1}@1.0 2L[]{a=2,b=2} 1"},
		{"b b w1b=1 l1 w2a=2 w2c=2", "l2", "", ok, "a=@0.0!2 b=@0.0!1 c=@0.0!2 1L[]{b=1} 2L[]{a=2,c=2}"},
		{"b b w1a=1 l1 w2a=2", "l2", "", locked, ""},
		{"b b w1b=1 l1 w2a=2 w2b=2", "l2", "", locked, ""},
		{"b b w1b=1 l1 c1 w2a=2 w2b=2", "l2", "", locked, ""},
		{"b b w1a=1 l1 g1 w2a=2", "l2", "", ok, "a=@0.0!2 1G[]{a=1} 2L[]{a=2}"},
		{"b b r2a w1a=1 l1", "l2", "", ok, "a=@0.0!1 1L[]{a=1} 2L[a=@0.0]{}"},
		// a check, of nothing, of looks that are as they were, of a record of its own
		{"b l1", "c1", "", ok, "1C[]{}@1.0 1"},
		{"b r1a l1", "c1", "", ok, "1C[a=@0.0]{}@1.0 1"},
		{"b r1a w1a=1 l1", "c1", "", ok, "a=@0.0!1 1C[a=@0.0]{a=1}@1.0 1"},
		{wroteA + "b r2a l2", "c2", "", ok, "a=1@1.0 1D[]{a=1}@1.0 2C[a=1@1.0]{}@1.1 1 2"},
		{wroteA + "b w2a=2 l2", "c2", "", ok, "a=1@1.0!2 1D[]{a=1}@1.0 2C[]{a=2}@1.1 1 2"},
		{wroteA + "b r2a w2b=2 l2", "c2", "", ok, "a=1@1.0 b=@0.0!2 1D[]{a=1}@1.0 2C[a=1@1.0]{b=2}@1.1 1 2"},
		{wroteA + "b r2b l2", "c2", "", ok, "a=1@1.0 1D[]{a=1}@1.0 2C[b=@0.0]{}@1.0 1 2"},
		// a record that another one made and left counts as not there
		{"b b r2a w1a=1 l1 g1 l2", "c2", "", ok, "a=@0.0 1G[]{a=1} 2C[a=@0.0]{}@1.0 2"},
		// who checks first comes first, whatever its number
		{"b b l2 c2 l1", "c1", "", ok, "1C[]{}@1.0 2C[]{}@1.0 2 1"},
		// a check where a look's record has another tid, or another owner; it owns nothing then
		{"b b r2a w2b=2 w1a=1 l1 c1 i1 l2", "c2", "", gone, "a=1@1.0 b=@0.0 1D[]{a=1}@1.0 2G[a=@0.0]{b=2} 1"},
		{wroteA + "b b r2a w2c=2 w3a=3 l3 c3 i3 l2", "c2", "", gone, "a=3@1.1 c=@0.0 1D[]{a=1}@1.0 2G[a=1@1.0]{c=2} 3D[]{a=3}@1.1 1 3"},
		{wroteA + "b b r2a w2c=2 w3a=3 l3 l2", "c2", "", gone, "a=1@1.0!3 c=@0.0 1D[]{a=1}@1.0 2G[a=1@1.0]{c=2} 3L[]{a=3} 1"},
		{wroteA + "b b r2a w2c=2 w3a=3 l3 c3 l2", "c2", "", gone, "a=1@1.0!3 c=@0.0 1D[]{a=1}@1.0 2G[a=1@1.0]{c=2} 3C[]{a=3}@1.1 1 3"},
		{"b b r2a w1a=1 l1 l2", "c2", "", gone, "a=@0.0!1 1L[]{a=1} 2G[a=@0.0]{}"},
		{"b b r2a w2a=2 w1a=1 l1 c1 i1 l2", "c2", "", gone, "a=1@1.0 1D[]{a=1}@1.0 2G[a=@0.0]{a=2} 1"},
		// also where what was written is what it saw, and where the first look is as it was
		{wroteA + "b b r2a w3a=1 l3 c3 i3 l2", "c2", "", gone, "a=1@1.1 1D[]{a=1}@1.0 2G[a=1@1.0]{} 3D[]{a=1}@1.1 1 3"},
		{"b b r2b r2a w1a=1 l1 c1 i1 l2", "c2", "", gone, "a=1@1.0 1D[]{a=1}@1.0 2G[b=@0.0,a=@0.0]{} 1"},
		// two that each looked at what the other one writes: the second one to check is gone, also where both are locked
		{"b b r1a w1b=1 r2b w2a=2 l1 c1 l2", "c2", "", gone, "a=@0.0 b=@0.0!1 1C[a=@0.0]{b=1}@1.0 2G[b=@0.0]{a=2} 1"},
		{"b b r1a w1b=1 r2b w2a=2 l1 l2", "c1", "", gone, "a=@0.0!2 b=@0.0 1G[a=@0.0]{b=1} 2L[b=@0.0]{a=2}"},
		// install, of nothing, of new records and old ones
		{"b l1 c1", "i1", "", ok, "1D[]{}@1.0 1"},
		{"b w1a=1 w1b=2 l1 c1", "i1", "", ok, "a=1@1.0 b=2@1.0 1D[]{a=1,b=2}@1.0 1"},
		{wroteA + "b w2a=2 l2 c2", "i2", "", ok, "a=2@1.1 1D[]{a=1}@1.0 2D[]{a=2}@1.1 1 2"},
		{"b b w1a=1 w1c=1 w2b=2 l1 l2 c2 c1", "i1", "", ok, "a=1@1.0 b=@0.0!2 c=1@1.0 1D[]{a=1,c=1}@1.0 2C[]{b=2}@1.0 2 1"},
		// give up, running and locked
		{"b", "g1", "", ok, "1G[]{}"},
		{"b r1a w1b=1", "g1", "", ok, "1G[a=@0.0]{b=1}"},
		{"b w1a=1 l1", "g1", "", ok, "a=@0.0 1G[]{a=1}"},
		{wroteA + "b b w2a=2 w2b=2 w3c=3 l3 l2", "g2", "", ok, "a=1@1.0 b=@0.0 c=@0.0!3 1D[]{a=1}@1.0 2G[]{a=2,b=2} 3L[]{c=3} 1"},
		// a Txn that is not there
		{"", "r1a", "", bad, ""}, {"b", "r2a", "", bad, ""}, {"b", "r0a", "", bad, ""}, {"b", "w-1a=1", "", bad, ""}, {"b", "l2", "", bad, ""}, {"b l1", "c0", "", bad, ""}, {"b l1 c1", "i21", "", bad, ""}, {"b", "g0", "", bad, ""},
		// a key that is none
		{"b", "r1", "", bad, ""}, {"b", "r1A", "", bad, ""}, {"b", "r1abcdefghi", "", bad, ""}, {"b", "w1=1", "", bad, ""}, {"b", "w1a-b=1", "", bad, ""},
		// a value that is none
		{"b", "w1a=1;2", "", bad, ""}, {"b", "w1a=123456789012345678901", "", bad, ""}, {"b", "w1a=\x7f", "", bad, ""},
		// a begin with a Txn
		{"", "b1", "", bad, ""}, {"b", "b1", "", bad, ""}, {"b", "b2", "", bad, ""}, {"b", "b-1", "", bad, ""},
		// a kind that is none
		{"b", "?1a", "", bad, ""},
	} {
		s := played(t, c.play)
		left, text, code := impl.DoStep(s, steps(c.step)[0])
		want := c.left
		if c.code != ok && c.code != gone {
			want = told(s)
		}
		if told(left) != want || left.Epoch != 1 || text != c.text || code != c.code {
			t.Errorf("%s: %s: %q %d, %s is left, not %s", c.play, c.step, text, code, told(left), want)
		}
	}
}

// Each kind of step is asked of a Txn in each state; what wants another state is refused, and changes nothing.
func TestStepsWantAState(t *testing.T) {
	s := mixedStore()
	wanted := map[int][]int{impl.DoRead: {4}, impl.DoWrite: {4}, impl.DoLock: {4}, impl.DoCheck: {3}, impl.DoInstall: {2}, impl.DoGiveUp: {3, 4}}
	kinds := []int{-1, 0, 8, 9, math.MinInt, math.MaxInt}
	for kind := range 8 {
		kinds = append(kinds, kind)
	}
	for _, kind := range kinds {
		for _, txn := range []int{math.MinInt, -1, 0, 1, 2, 3, 4, 5, 6, 7, 20, 21, 1 << 40, math.MaxInt} {
			left, text, code := impl.DoStep(s, impl.Step{Kind: kind, Txn: txn, Key: "y", Value: "v"})
			may := slices.Contains(wanted[kind], txn) || kind == impl.DoBegin && txn == 0
			if may != (code == impl.OccOk) || may == sameStore(left, s) {
				t.Errorf("kind %d of %d: %d, %s is left", kind, txn, code, told(left))
			}
			if !may && (code != impl.OccBad || text != "") {
				t.Errorf("kind %d of %d: %q %d", kind, txn, text, code)
			}
		}
	}
}

func TestStepsWantKeysAndValues(t *testing.T) {
	s := mixedStore()
	for _, key := range badKeys() {
		for _, kind := range []int{impl.DoRead, impl.DoWrite} {
			if left, text, code := impl.DoStep(s, impl.Step{Kind: kind, Txn: 4, Key: key, Value: "v"}); !sameStore(left, s) || text != "" || code != impl.OccBad {
				t.Errorf("kind %d of %q: %q %d, %s is left", kind, key, text, code, told(left))
			}
		}
	}
	for _, value := range badValues() {
		if left, text, code := impl.DoStep(s, impl.Step{Kind: impl.DoWrite, Txn: 4, Key: "a", Value: value}); !sameStore(left, s) || text != "" || code != impl.OccBad {
			t.Errorf("%q: %q %d, %s is left", value, text, code, told(left))
		}
	}
	for _, key := range goodKeys() {
		left, _, code := impl.DoStep(s, impl.Step{Kind: impl.DoRead, Txn: 4, Key: key})
		want := impl.OccOk
		if slices.Contains([]string{"b", "c", "e"}, key) {
			want = impl.OccLocked
		}
		// those that are locked, that it writes, and that it has looked at
		same := slices.Contains([]string{"b", "c", "e", "a", "f", "z"}, key)
		if code != want || same != sameStore(left, s) {
			t.Errorf("%s: %d, %s is left", key, code, told(left))
		}
		for _, value := range goodValues() {
			left, text, code := impl.DoStep(s, impl.Step{Kind: impl.DoWrite, Txn: 4, Key: key, Value: value})
			if text != "" || code != impl.OccOk || !slices.Contains(left.Txns[3].Writes, impl.Cell{Key: key, Value: value}) {
				t.Errorf("%s=%s: %q %d, %s is left", key, value, text, code, told(left))
			}
			if again, text, code := impl.DoStep(left, impl.Step{Kind: impl.DoRead, Txn: 4, Key: key}); text != value || code != impl.OccOk || !sameStore(again, left) {
				t.Errorf("%s=%s: %q %d", key, value, text, code)
			}
		}
	}
}

// What a kind does not need does not matter.
func TestStepsTakeWhatTheyNeed(t *testing.T) {
	s := mixedStore()
	for _, x := range []impl.Step{{Kind: impl.DoBegin}, {Kind: impl.DoLock, Txn: 4}, {Kind: impl.DoCheck, Txn: 3}, {Kind: impl.DoInstall, Txn: 2}, {Kind: impl.DoGiveUp, Txn: 3}, {Kind: impl.DoGiveUp, Txn: 4}, {Kind: impl.DoRead, Txn: 4, Key: "y"}} {
		want, wantText, wantCode := impl.DoStep(s, x)
		for _, key := range []string{"", "a", "y", "?", strings.Repeat("k", 300)} {
			for _, value := range []string{"", "v", ";", strings.Repeat("v", 300)} {
				more := impl.Step{Kind: x.Kind, Txn: x.Txn, Key: key, Value: value}
				if x.Kind == impl.DoRead {
					more.Key = x.Key
				}
				if left, text, code := impl.DoStep(s, more); !sameStore(left, want) || text != wantText || code != wantCode || code != impl.OccOk {
					t.Errorf("%+v: %q %d, %s is left", more, text, code, told(left))
				}
			}
		}
	}
}

// checkStep holds a step against the document's words told again; what is left of a good store is good, what is refused changes nothing.
func checkStep(t *testing.T, s impl.Store, x impl.Step) (impl.Store, string, int) {
	t.Helper()
	left, text, code := impl.DoStep(s, x)
	want, wantText, wantCode := stepAgain(s, x)
	if !sameStore(left, want) || text != wantText || code != wantCode {
		t.Fatalf("%s: %+v: %q %d, %s is left, not %q %d, %s", told(s), x, text, code, told(left), wantText, wantCode, told(want))
	}
	if !impl.GoodStore(left) {
		t.Fatalf("%s: %+v: %s is left, which is not good", told(s), x, told(left))
	}
	if code != impl.OccOk && text != "" || code != impl.OccOk && code != impl.OccChanged && !sameStore(left, s) {
		t.Fatalf("%s: %+v: %q %d, %s is left", told(s), x, text, code, told(left))
	}
	return left, text, code
}

// stepAgain tells by the document's words, one after the other, what a step does to a good store.
func stepAgain(s impl.Store, x impl.Step) (impl.Store, string, int) {
	left := deepStore(s)
	if x.Kind == impl.DoBegin {
		switch {
		case x.Txn != 0:
			return left, "", impl.OccBad
		case len(s.Txns) == 20:
			return left, "", impl.OccFull
		}
		id := len(s.Txns) + 1
		left.Txns = append(left.Txns, impl.Running{Id: id, State: impl.TxnRuns})
		return left, strconv.Itoa(id), impl.OccOk
	}
	states := map[int][]int{
		impl.DoRead: {impl.TxnRuns}, impl.DoWrite: {impl.TxnRuns}, impl.DoLock: {impl.TxnRuns}, impl.DoCheck: {impl.TxnLocked},
		impl.DoInstall: {impl.TxnChecked}, impl.DoGiveUp: {impl.TxnRuns, impl.TxnLocked},
	}
	if x.Txn < 1 || x.Txn > len(s.Txns) || !slices.Contains(states[x.Kind], s.Txns[x.Txn-1].State) {
		return left, "", impl.OccBad
	}
	me := &left.Txns[x.Txn-1]
	records := map[string]impl.Record{}
	for _, r := range s.Records {
		records[r.Key] = r
	}
	text, code := "", impl.OccOk
	switch x.Kind {
	case impl.DoRead:
		text, code = readAgain(me, records, x.Key)
	case impl.DoWrite:
		code = writeAgain(me, x.Key, x.Value)
	case impl.DoLock:
		code = lockAgain(me, records)
	case impl.DoCheck:
		if code = checkAgain(me, records, s.Epoch); code == impl.OccOk {
			left.Order = append(left.Order, me.Id)
		}
	case impl.DoInstall:
		for _, w := range me.Writes {
			records[w.Key] = impl.Record{Key: w.Key, Value: w.Value, Tid: me.Tid}
		}
		me.State = impl.TxnDone
	case impl.DoGiveUp:
		goAgain(me, records)
	}
	left.Records = nil
	for _, key := range slices.Sorted(maps.Keys(records)) {
		left.Records = append(left.Records, records[key])
	}
	return left, text, code
}

func readAgain(me *impl.Running, records map[string]impl.Record, key string) (string, int) {
	if !keyAgain(key) {
		return "", impl.OccBad
	}
	for _, w := range me.Writes {
		if w.Key == key {
			return w.Value, impl.OccOk
		}
	}
	for _, k := range me.Looks {
		if k.Key == key {
			return k.Value, impl.OccOk
		}
	}
	if records[key].Tid.Locked {
		return "", impl.OccLocked
	}
	if len(me.Looks) >= 40 {
		return "", impl.OccFull
	}
	me.Looks = append(me.Looks, impl.Look{Key: key, Value: records[key].Value, Tid: records[key].Tid})
	return records[key].Value, impl.OccOk
}

func writeAgain(me *impl.Running, key, value string) int {
	if !keyAgain(key) || !valueAgain(value) {
		return impl.OccBad
	}
	me.Writes = slices.DeleteFunc(me.Writes, func(w impl.Cell) bool { return w.Key == key })
	me.Writes = append(me.Writes, impl.Cell{Key: key, Value: value})
	slices.SortFunc(me.Writes, func(a, b impl.Cell) int { return strings.Compare(a.Key, b.Key) })
	return impl.OccOk
}

func lockAgain(me *impl.Running, records map[string]impl.Record) int {
	all := maps.Clone(records)
	for _, w := range me.Writes {
		if owner := records[w.Key].Owner; owner != 0 && owner != me.Id {
			return impl.OccLocked
		}
		r := records[w.Key]
		all[w.Key] = impl.Record{Key: w.Key, Value: r.Value, Tid: lockedTid(r.Tid.Epoch, r.Tid.Seq), Owner: me.Id}
	}
	if len(all) > 40 {
		return impl.OccFull
	}
	maps.Copy(records, all)
	me.State = impl.TxnLocked
	return impl.OccOk
}

func checkAgain(me *impl.Running, records map[string]impl.Record, epoch int) int {
	var tids []impl.Tid
	for _, k := range me.Looks {
		r := records[k.Key]
		if r.Tid.Epoch != k.Tid.Epoch || r.Tid.Seq != k.Tid.Seq || r.Owner != 0 && r.Owner != me.Id {
			goAgain(me, records)
			return impl.OccChanged
		}
		tids = append(tids, k.Tid)
	}
	for _, w := range me.Writes {
		tids = append(tids, records[w.Key].Tid)
	}
	next, ok := impl.NextTid(tids, epoch)
	if !ok {
		return impl.OccFull
	}
	me.State, me.Tid = impl.TxnChecked, next
	return impl.OccOk
}

func goAgain(me *impl.Running, records map[string]impl.Record) {
	for key, r := range records {
		if r.Owner == me.Id {
			records[key] = impl.Record{Key: key, Value: r.Value, Tid: tidOf(r.Tid.Epoch, r.Tid.Seq)}
		}
	}
	me.State = impl.TxnGone
}

// Every step that can be told of the stores at the edges, held against the document's words told again.
func TestDoStepOfStoresAtTheEdges(t *testing.T) {
	codes := map[int]int{}
	for _, c := range goodChanges() {
		s := changed(c)
		for kind := range 9 {
			for txn := range 8 {
				for _, key := range []string{"a", "b", "d", "k001", "y"} {
					_, _, code := checkStep(t, s, impl.Step{Kind: kind, Txn: txn, Key: key, Value: "v"})
					codes[code]++
				}
			}
		}
	}
	if len(codes) != 5 {
		t.Error(codes)
	}
}
