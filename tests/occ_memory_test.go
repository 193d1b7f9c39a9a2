package tests

import (
	"fmt"
	"math"
	"slices"
	"strings"
	"testing"
	"unsafe"

	"loop.example/g00218/impl"
)

// storeAnswers asks all functions of stores, and tells what they answered as one text.
func storeAnswers(s impl.Store, x impl.Step, many int) string {
	left, text, code := impl.DoStep(s, x)
	r, ok1 := impl.LookUp(s, x.Key)
	cells, ok2 := impl.MapOf(s)
	replayed, ok3 := impl.ReplayOrder(s, many)
	later, ok4 := impl.AdvanceEpoch(s)
	return fmt.Sprint(impl.GoodStore(s), left, text, code, r, ok1, cells, ok2, replayed, ok3, later, ok4)
}

// manySteps are steps of all kinds, of Txns that are there and that are not.
func manySteps() []impl.Step {
	var l []impl.Step
	for kind := range 9 {
		for txn := range 7 {
			for _, key := range []string{"a", "c", "y", "?"} {
				l = append(l, impl.Step{Kind: kind, Txn: txn, Key: key, Value: "new value"})
			}
		}
	}
	return l
}

// someStores are good ones, those at the edges and those that were played, and some that are not.
func someStores() []impl.Store {
	var l []impl.Store
	for i, c := range append(goodChanges(), badChanges()...) {
		if i%50 == 0 || i < 10 {
			l = append(l, changed(c))
		}
	}
	for seed := range 20 {
		s, _, _ := impl.PlayStore(3, someSteps(uint64(seed)))
		l = append(l, s)
	}
	return l
}

// wholeStore is the store with all that lies behind the lengths of its lists.
func wholeStore(s impl.Store) impl.Store {
	s.Records, s.Txns, s.Order = slices.Clone(s.Records[:cap(s.Records)]), slices.Clone(s.Txns[:cap(s.Txns)]), slices.Clone(s.Order[:cap(s.Order)])
	for i, x := range s.Txns {
		s.Txns[i].Looks, s.Txns[i].Writes = slices.Clone(x.Looks[:cap(x.Looks)]), slices.Clone(x.Writes[:cap(x.Writes)])
	}
	return s
}

// roomyStore is the store with room behind each list, where something lies that must not matter.
func roomyStore(s impl.Store, behind string) impl.Store {
	s = deepStore(s)
	record, cell, look := impl.Record{Key: behind, Value: behind}, impl.Cell{Key: behind, Value: behind}, impl.Look{Key: behind, Value: behind}
	for i, x := range s.Txns {
		s.Txns[i].Looks = append(x.Looks, look, look)[:len(x.Looks)]
		s.Txns[i].Writes = append(x.Writes, cell, cell)[:len(x.Writes)]
	}
	id := len(s.Txns) + 1
	running := impl.Running{Id: id, State: impl.TxnRuns, Looks: []impl.Look{look}, Writes: []impl.Cell{cell}}
	s.Records = append(s.Records, record, record)[:len(s.Records)]
	s.Txns = append(s.Txns, running, running)[:len(s.Txns)]
	s.Order = append(s.Order, id, id)[:len(s.Order)]
	return s
}

func TestNoStoreIsWrittenInto(t *testing.T) {
	for _, s := range someStores() {
		old := deepStore(s)
		for _, x := range manySteps() {
			for _, many := range []int{-1, 0, 1, len(s.Order)} {
				storeAnswers(s, x, many)
			}
		}
		if !sameStore(s, old) {
			t.Errorf("%+v became %+v", old, s)
		}
	}
}

func TestNoStepIsWrittenInto(t *testing.T) {
	for seed := range 40 {
		l := someSteps(uint64(seed))
		old := slices.Clone(l)
		impl.PlayStore(3, l)
		if !slices.Equal(l, old) {
			t.Errorf("%+v became %+v", old, l)
		}
	}
}

// Whatever lies behind the lengths, good or bad, is neither read nor written nor handed out.
func TestStoresKeepToTheirLengths(t *testing.T) {
	for _, s := range someStores() {
		for _, behind := range []string{"a", "zzzz", "?"} {
			long := roomyStore(s, behind)
			old := wholeStore(long)
			for _, x := range manySteps() {
				many := len(s.Order)
				if got, want := storeAnswers(long, x, many), storeAnswers(s, x, many); got != want {
					t.Fatalf("%+v: %s, not %s", s, got, want)
				}
			}
			if !sameStore(wholeStore(long), old) {
				t.Fatalf("%+v became %+v", old, wholeStore(long))
			}
		}
	}
	l := steps("b w1a=1 l1 c1 i1 b")
	s, codes, ok := impl.PlayStore(1, l[:4])
	if !ok || len(codes) != 4 || told(s) != "a=@0.0!1 1C[]{a=1}@1.0 1" {
		t.Error(codes, ok, told(s))
	}
	if _, codes, ok := impl.PlayStore(1, slices.Repeat(l, 40)[:120]); len(codes) != 120 || !ok {
		t.Error(codes, ok)
	}
}

// A span is where a list or a text lies in memory.
type span struct {
	from, end uintptr
	what      string
}

func spanOf[E any](l []E, what string) span {
	from := uintptr(unsafe.Pointer(unsafe.SliceData(l)))
	return span{from, from + uintptr(cap(l))*unsafe.Sizeof(*new(E)), what}
}

func textSpan(text string, what string) span {
	if text == "" {
		return span{what: what}
	}
	from := uintptr(unsafe.Pointer(unsafe.StringData(text)))
	return span{from, from + uintptr(len(text)), what}
}

func cellSpans(l []impl.Cell, what string) []span {
	spans := []span{spanOf(l, what)}
	for _, c := range l {
		spans = append(spans, textSpan(c.Key, what+"'s key"), textSpan(c.Value, what+"'s value"))
	}
	return spans
}

// spansOf are all lists and texts of a store.
func spansOf(s impl.Store) []span {
	spans := []span{spanOf(s.Records, "records"), spanOf(s.Txns, "Txns"), spanOf(s.Order, "order")}
	for _, r := range s.Records {
		spans = append(spans, textSpan(r.Key, "record's key"), textSpan(r.Value, "record's value"))
	}
	for _, x := range s.Txns {
		spans = append(spans, spanOf(x.Looks, "looks"))
		for _, k := range x.Looks {
			spans = append(spans, textSpan(k.Key, "look's key"), textSpan(k.Value, "look's value"))
		}
		spans = append(spans, cellSpans(x.Writes, "writes")...)
	}
	return spans
}

func stepSpans(l ...impl.Step) []span {
	var spans []span
	for _, x := range l {
		spans = append(spans, textSpan(x.Key, "step's key"), textSpan(x.Value, "step's value"))
	}
	return append(spans, spanOf(l, "steps"))
}

// checkNew asks whether what was answered lies apart from what was given, and each part of it from all others; an empty list, too, is not to tell where another one lies.
func checkNew(t *testing.T, answer, given []span) {
	t.Helper()
	for i, a := range answer {
		for j, b := range slices.Concat(answer[:i], given) {
			if a.from < b.end && b.from < a.end || a.from != 0 && a.from == b.from {
				t.Fatalf("%s lies in %s (%v)", a.what, b.what, j < i)
			}
		}
	}
}

func TestStoresAreNewMemory(t *testing.T) {
	for _, s := range someStores() {
		given := roomyStore(s, "z")
		for _, x := range manySteps() {
			left, text, _ := impl.DoStep(given, x)
			checkNew(t, append(spansOf(left), textSpan(text, "text")), append(spansOf(given), stepSpans(x)...))
			// and what follows from an answer lies apart from it
			if next, text, code := impl.DoStep(left, x); code == impl.OccOk {
				checkNew(t, append(spansOf(next), textSpan(text, "text")), spansOf(left))
			}
		}
		later, _ := impl.AdvanceEpoch(given)
		checkNew(t, spansOf(later), spansOf(given))
		cells, _ := impl.MapOf(given)
		checkNew(t, cellSpans(cells, "map"), spansOf(given))
		replayed, _ := impl.ReplayOrder(given, len(given.Order))
		checkNew(t, cellSpans(replayed, "replay"), spansOf(given))
		for _, key := range []string{"a", "c", "k003"} {
			r, _ := impl.LookUp(given, key)
			checkNew(t, []span{textSpan(r.Key, "key"), textSpan(r.Value, "value")}, append(spansOf(given), textSpan(key, "asked key")))
		}
	}
}

func TestWhatPlayStoreTellsIsNewMemory(t *testing.T) {
	for seed := range 60 {
		l := someSteps(uint64(seed))
		s, codes, _ := impl.PlayStore(3, l)
		other, otherCodes, _ := impl.PlayStore(3, l)
		given := append(stepSpans(l...), spansOf(other)...)
		checkNew(t, append(spansOf(s), spanOf(codes, "codes")), append(given, spanOf(otherCodes, "other codes")))
	}
}

// Lists of the argument that lie in one memory do not bring those of the answer together.
func TestStoresThatShareMemoryAreParted(t *testing.T) {
	looks, writes := manyLooks(6), manyWrites(6)
	s := impl.Store{Epoch: 1, Txns: []impl.Running{
		{Id: 1, State: impl.TxnRuns, Looks: looks[:3], Writes: writes[:2]},
		{Id: 2, State: impl.TxnRuns, Looks: looks[:3], Writes: writes[1:4]},
		{Id: 3, State: impl.TxnRuns, Looks: looks[3:3], Writes: writes[2:2]},
		{Id: 4, State: impl.TxnGone, Looks: looks[2:4], Writes: writes},
	}}
	old := deepStore(s)
	for _, x := range []impl.Step{{Kind: impl.DoRead, Txn: 1, Key: "y"}, {Kind: impl.DoWrite, Txn: 1, Key: "y"}, {Kind: impl.DoWrite, Txn: 1, Key: "k001", Value: "x"}, {Kind: impl.DoRead, Txn: 3, Key: "y"}, {Kind: impl.DoWrite, Txn: 3, Key: "y"}, {Kind: impl.DoLock, Txn: 2}, {Kind: impl.DoGiveUp, Txn: 2}, {Kind: impl.DoBegin}} {
		left, _, code := impl.DoStep(s, x)
		if checkNew(t, spansOf(left), spansOf(s)); code != impl.OccOk {
			t.Error(x, code)
		}
	}
	if !sameStore(s, old) || !slices.Equal(looks, manyLooks(6)) || !slices.Equal(writes, manyWrites(6)) {
		t.Error(s, looks, writes)
	}
}

// Texts laid over bytes that change later show whether an answer still hangs on them.
func TestStoresDoNotHangOnWhatWasGiven(t *testing.T) {
	b := []byte("abcdefgh")
	key := unsafe.String(&b[0], len(b))
	l := []impl.Step{{Kind: impl.DoBegin}, {Kind: impl.DoRead, Txn: 1, Key: key}, {Kind: impl.DoWrite, Txn: 1, Key: key, Value: key}, {Kind: impl.DoLock, Txn: 1}, {Kind: impl.DoCheck, Txn: 1}, {Kind: impl.DoInstall, Txn: 1}}
	s, _, _ := impl.PlayStore(1, l)
	given := impl.Store{Epoch: 1, Records: []impl.Record{{Key: key, Value: key, Tid: tidOf(1, 0)}}, Txns: []impl.Running{
		{Id: 1, State: impl.TxnDone, Looks: []impl.Look{{Key: key}}, Writes: []impl.Cell{{Key: key, Value: key}}, Tid: tidOf(1, 0)}, {Id: 2, State: impl.TxnRuns}}, Order: []int{1}}
	read, text, _ := impl.DoStep(given, impl.Step{Kind: impl.DoRead, Txn: 2, Key: key})
	refused, _, _ := impl.DoStep(given, impl.Step{Kind: impl.DoRead, Txn: 1, Key: key})
	later, _ := impl.AdvanceEpoch(given)
	r, _ := impl.LookUp(given, key)
	cells, _ := impl.MapOf(given)
	replayed, _ := impl.ReplayOrder(given, 1)
	copy(b, strings.Repeat("z", len(b)))
	for i, x := range []impl.Store{s, read, refused, later} {
		if got := told(x); strings.Contains(got, "z") || !strings.HasPrefix(got, "abcdefgh=abcdefgh@1.0 1D[abcdefgh=@0.0]{abcdefgh=abcdefgh}@1.0") {
			t.Error(i, got)
		}
	}
	if want := (impl.Cell{Key: "abcdefgh", Value: "abcdefgh"}); text != "abcdefgh" || r.Key != "abcdefgh" || r.Value != "abcdefgh" || !slices.Equal(cells, []impl.Cell{want}) || !slices.Equal(replayed, []impl.Cell{want}) {
		t.Error(text, r, cells, replayed)
	}
}

// Stores of anything at all are answered, and those that are not good by the zero answer.
func TestStoresOfAnything(t *testing.T) {
	numbers := []int{math.MinInt, -1, 0, 1, 2, 3, 4, 5, 6, 20, 21, 1000, math.MaxInt}
	texts := []string{"", "a", "b", "?", "\xff\x00", strings.Repeat("x", 1000)}
	for seed := range 3000 {
		m := mixer(seed)
		number := func() int { return numbers[m.below(len(numbers))] }
		text := func() string { return texts[m.below(len(texts))] }
		tid := func() impl.Tid { return impl.Tid{Epoch: number(), Seq: number(), Locked: m.below(2) == 0} }
		s := impl.Store{Epoch: number()}
		for range m.below(4) {
			s.Records = append(s.Records, impl.Record{Key: text(), Value: text(), Tid: tid(), Owner: number()})
			s.Order = append(s.Order, number())
			s.Txns = append(s.Txns, impl.Running{Id: number(), State: number(), Looks: []impl.Look{{Key: text(), Value: text(), Tid: tid()}}, Writes: []impl.Cell{{Key: text(), Value: text()}}, Tid: tid()})
		}
		x := impl.Step{Kind: number(), Txn: number(), Key: text(), Value: text()}
		many := number()
		storeAnswers(s, x, many)
		if good := goodStoreAgain(s); impl.GoodStore(s) != good {
			t.Fatalf("%+v: not %v", s, good)
		} else if left, told, code := impl.DoStep(s, x); !good && (!sameStore(left, impl.Store{}) || told != "" || code != impl.OccBad) {
			t.Fatalf("%+v: %+v %q %d", s, left, told, code)
		}
		impl.PlayStore(number(), slices.Repeat([]impl.Step{x}, m.below(130)))
	}
}
