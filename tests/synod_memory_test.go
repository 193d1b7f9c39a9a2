package tests

import (
	"fmt"
	"math"
	"slices"
	"strings"
	"testing"
	"unsafe"

	"loop.example/g00218/impl"
)

// synodAnswers asks all functions of synods, and tells what they answered as one text.
func synodAnswers(s impl.Synod, x impl.SynodStep) string {
	left, ok1 := impl.StepSynod(s, x)
	l, ok2 := impl.ChosenIn(s)
	value, ok3 := impl.ValueAt(s, x.Ballot)
	return fmt.Sprint(impl.GoodSynod(s), left, ok1, l, ok2, value, ok3)
}

// someSynods are good ones, at the edges and played ones, and some that are not.
func someSynods() []impl.Synod {
	l := []impl.Synod{{}, mixedSynod(), votedSynod(3, []string{"b", "a", "b"}, []int{2, 2, 3})}
	for i, c := range append(goodSynodChanges(), badSynodChanges()...) {
		if i%40 == 0 || i < 10 {
			l = append(l, changedSynod(c))
		}
	}
	for seed := range 60 {
		nodes, values, steps := somePlayOfBallots(uint64(seed))
		s, _, _ := impl.PlaySynod(nodes, values, steps)
		half, _, _ := impl.PlaySynod(nodes, values, steps[:len(steps)/4])
		l = append(l, s, half)
	}
	return l
}

// wholeSynod is the synod with all that lies behind the lengths of its lists.
func wholeSynod(s impl.Synod) impl.Synod {
	s.Acceptors, s.Proposers = slices.Clone(s.Acceptors[:cap(s.Acceptors)]), slices.Clone(s.Proposers[:cap(s.Proposers)])
	for i, p := range s.Proposers {
		s.Proposers[i].Promises, s.Proposers[i].Votes = slices.Clone(p.Promises[:cap(p.Promises)]), slices.Clone(p.Votes[:cap(p.Votes)])
	}
	return s
}

// roomySynod is the synod with room behind each list, where something lies that must not matter.
func roomySynod(s impl.Synod, n int) impl.Synod {
	s = deepSynod(s)
	for i, p := range s.Proposers {
		s.Proposers[i].Promises = append(p.Promises, toldOf(n, n, "behind"), toldOf(n, n, ";"))[:len(p.Promises)]
		s.Proposers[i].Votes = append(p.Votes, n, n, n)[:len(p.Votes)]
	}
	behind := impl.Proposer{Own: "behind", Promises: toldBy(n), Fixed: n > 0, Value: "behind", Votes: []int{n}}
	s.Acceptors = append(s.Acceptors, accepted(n, n, "behind"), accepted(n, n, ";"))[:len(s.Acceptors)]
	s.Proposers = append(s.Proposers, behind, behind)[:len(s.Proposers)]
	return s
}

func TestNoSynodIsWrittenInto(t *testing.T) {
	for _, s := range someSynods() {
		old := deepSynod(s)
		for _, x := range manySynodSteps() {
			synodAnswers(s, x)
		}
		if !sameSynod(s, old) {
			t.Errorf("%s became %s", synodText(old), synodText(s))
		}
	}
}

func TestNoStepOfASynodIsWrittenInto(t *testing.T) {
	for seed := range 100 {
		nodes, values, l := somePlayOfBallots(uint64(seed))
		old, oldValues := slices.Clone(l), slices.Clone(values)
		impl.PlaySynod(nodes, values, l)
		impl.NewSynod(nodes, values)
		if !slices.Equal(l, old) || !slices.Equal(values, oldValues) {
			t.Errorf("%+v of %q became %+v of %q", old, oldValues, l, values)
		}
	}
}

// Whatever lies behind the lengths, good or bad, is neither read nor written nor handed out.
func TestSynodsKeepToTheirLengths(t *testing.T) {
	for _, s := range someSynods() {
		for _, n := range []int{-1, 0, 1, 3} {
			long := roomySynod(s, n)
			old := wholeSynod(long)
			for _, x := range manySynodSteps() {
				if got, want := synodAnswers(long, x), synodAnswers(s, x); got != want {
					t.Fatalf("%s: %s, not %s", synodText(s), got, want)
				}
			}
			if !sameSynod(wholeSynod(long), old) {
				t.Fatalf("%s became %s", synodText(old), synodText(wholeSynod(long)))
			}
		}
	}
	l, values := synodSteps("p1:0 a1:0 p2:0"), []string{"a", "b", ";"}
	if s, did, ok := impl.PlaySynod(1, values[:2], l[:2]); !ok || len(did) != 2 || synodText(s) != "1/1=a a{0/0=}!a[0] b{}?[]" {
		t.Error(synodText(s), did, ok)
	}
	if _, did, ok := impl.PlaySynod(1, values[:1], slices.Repeat(l, 50)[:120]); len(did) != 120 || !ok {
		t.Error(did, ok)
	}
	if s, ok := impl.NewSynod(2, slices.Repeat(values[:1], 9)[:8]); !ok || len(s.Proposers) != 8 {
		t.Error(synodText(s), ok)
	}
}

// synodSpans are all lists and texts of a synod.
func synodSpans(s impl.Synod, what string) []span {
	spans := []span{spanOf(s.Acceptors, what+"'s acceptors"), spanOf(s.Proposers, what+"'s proposers")}
	for _, a := range s.Acceptors {
		spans = append(spans, textSpan(a.Value, what+"'s acceptor's value"))
	}
	for _, p := range s.Proposers {
		spans = append(spans, textSpan(p.Own, what+"'s own"), textSpan(p.Value, what+"'s value"), spanOf(p.Promises, what+"'s promises"), spanOf(p.Votes, what+"'s votes"))
		for _, x := range p.Promises {
			spans = append(spans, textSpan(x.Value, what+"'s promise's value"))
		}
	}
	return spans
}

func textsSpans(l []string, what string) []span {
	spans := []span{spanOf(l, what)}
	for _, text := range l {
		spans = append(spans, textSpan(text, what+"'s text"))
	}
	return spans
}

func TestSynodsAreNewMemory(t *testing.T) {
	for _, s := range someSynods() {
		given := roomySynod(s, 1)
		spans := synodSpans(given, "given")
		for _, x := range manySynodSteps() {
			value, _ := impl.ValueAt(given, x.Ballot)
			checkNew(t, []span{textSpan(value, "value")}, spans)
			left, ok := impl.StepSynod(given, x)
			if !ok {
				continue
			}
			checkNew(t, synodSpans(left, "left"), spans)
			// and what follows from an answer lies apart from it
			if next, ok := impl.StepSynod(left, askVote(x.Ballot, x.Node)); ok {
				checkNew(t, synodSpans(next, "next"), synodSpans(left, "left"))
			}
		}
		l, _ := impl.ChosenIn(given)
		checkNew(t, textsSpans(l, "chosen"), spans)
	}
}

func TestWhatPlaySynodTellsIsNewMemory(t *testing.T) {
	for seed := range 100 {
		nodes, values, l := somePlayOfBallots(uint64(seed))
		s, did, _ := impl.PlaySynod(nodes, values, l)
		other, otherDid, _ := impl.PlaySynod(nodes, values, l)
		given := slices.Concat(textsSpans(values, "values"), []span{spanOf(l, "steps"), spanOf(otherDid, "other did")})
		checkNew(t, append(synodSpans(s, "synod"), spanOf(did, "did")), append(given, synodSpans(other, "other")...))
		a, _ := impl.NewSynod(nodes, values)
		b, _ := impl.NewSynod(nodes, values)
		checkNew(t, synodSpans(a, "new"), append(given, synodSpans(b, "another")...))
		one, _ := impl.ChosenIn(s)
		again, _ := impl.ChosenIn(s)
		checkNew(t, textsSpans(one, "chosen"), append(textsSpans(again, "chosen again"), synodSpans(s, "synod")...))
	}
}

// Lists and texts of the argument that lie in one memory do not bring those of the answer together.
func TestSynodsThatShareMemoryAreParted(t *testing.T) {
	nodes := []int{0, 1, 2, 3, 4}
	text := "abcdefghij"
	shared := []impl.Promise{toldOf(0, 1, text), toldOf(1, 1, text), toldOf(2, 1, text), toldOf(3, 1, text[2:])}
	s := impl.Synod{Acceptors: slices.Repeat([]impl.Acceptor{accepted(1, 1, text)}, 5), Proposers: []impl.Proposer{
		{Own: text, Promises: toldBy(1, 3, 4), Fixed: true, Value: text, Votes: nodes[:2]},
		{Own: text, Promises: shared[:3], Fixed: true, Value: text, Votes: nodes[:2]},
		{Own: text[1:], Promises: shared[:2]},
		{Own: text[2:5], Promises: shared, Fixed: true, Value: text, Votes: nodes[1:3]},
		{Own: text, Promises: shared[2:4], Votes: nodes[:0]},
	}}
	old := deepSynod(s)
	for _, x := range synodSteps("p3:2 p3:4 p3:0 p5:0 p5:1 p5:4 p5:3 a1:2 a1:4 a2:2 a2:3 a2:4 a4:0 a4:3 a4:4") {
		left, ok := checkSynodStep(t, s, x)
		if checkNew(t, synodSpans(left, "left"), append(synodSpans(s, "given"), spanOf(nodes, "nodes"), spanOf(shared, "shared"))); !ok {
			t.Error(x, ok)
		}
	}
	if !sameSynod(s, old) || !slices.Equal(nodes, upTo(5)) {
		t.Error(synodText(s), nodes)
	}
	values := slices.Repeat([]string{text}, 3)
	fresh, _ := impl.NewSynod(3, values)
	checkNew(t, synodSpans(fresh, "new"), textsSpans(values, "values"))
}

// Two answers to one question lie apart: one may be written into.
func TestTwoAnswersOfSynodsShareNoMemory(t *testing.T) {
	s := mixedSynod()
	voted := votedSynod(3, []string{"b", "a"}, []int{2, 2})
	for range 2 {
		left, _ := impl.StepSynod(s, askVote(2, 3))
		l, _ := impl.ChosenIn(voted)
		if !slices.Equal(left.Proposers[1].Votes, []int{2, 3}) || !sameProposer(left.Proposers[0], mixedSynod().Proposers[0]) || !slices.Equal(l, []string{"a", "b"}) {
			t.Error(synodText(left), l)
		}
		for _, p := range left.Proposers {
			clear(p.Promises[:cap(p.Promises)])
			clear(p.Votes[:cap(p.Votes)])
		}
		clear(left.Proposers[:cap(left.Proposers)])
		clear(left.Acceptors[:cap(left.Acceptors)])
		clear(l[:cap(l)])
	}
}

// Texts laid over bytes that change later show whether an answer still hangs on them.
func TestSynodsDoNotHangOnWhatWasGiven(t *testing.T) {
	b := []byte("abcdefgh")
	text := unsafe.String(&b[0], len(b))
	fresh, _ := impl.NewSynod(1, []string{text})
	played, _, _ := impl.PlaySynod(1, []string{text, "own"}, synodSteps("p1:0 a1:0 p2:0 a2:0"))
	given := impl.Synod{Acceptors: []impl.Acceptor{accepted(1, 1, text)}, Proposers: []impl.Proposer{
		{Own: text, Promises: toldBy(0), Fixed: true, Value: text, Votes: []int{0}},
		{Own: text},
	}}
	promised, _ := impl.StepSynod(given, askPromise(2, 0))
	given.Proposers[0].Votes = nil
	voted, _ := impl.StepSynod(given, askVote(1, 0))
	given.Proposers[0].Votes = []int{0}
	chosen, _ := impl.ChosenIn(given)
	value, _ := impl.ValueAt(given, 1)
	copy(b, strings.Repeat("z", len(b)))
	for i, want := range []string{
		"0/0= abcdefgh{}?[]",
		"2/2=abcdefgh abcdefgh{0/0=}!abcdefgh[0] own{0/1=abcdefgh}!abcdefgh[0]",
		"2/1=abcdefgh abcdefgh{0/0=}!abcdefgh[0] abcdefgh{0/1=abcdefgh}!abcdefgh[]",
		"1/1=abcdefgh abcdefgh{0/0=}!abcdefgh[0] abcdefgh{}?[]",
	} {
		if got := synodText([]impl.Synod{fresh, played, promised, voted}[i]); got != want {
			t.Error(got, want)
		}
	}
	if !slices.Equal(chosen, []string{"abcdefgh"}) || value != "abcdefgh" {
		t.Error(chosen, value)
	}
}

// What was asked before does not matter: nothing is kept from call to call.
func TestSynodsAreAnsweredAlikeAgain(t *testing.T) {
	var first []string
	all := someSynods()
	for _, s := range all {
		first = append(first, synodAnswers(s, askPromise(2, 1)))
	}
	for i, s := range slices.Backward(all) {
		if got := synodAnswers(s, askPromise(2, 1)); got != first[i] {
			t.Errorf("%s: %s, and %s at first", synodText(s), got, first[i])
		}
	}
}

// drawnSynod is a synod of anything at all, most of it small.
func drawnSynod(m *mixer, small func() int, text func() string) impl.Synod {
	s := impl.Synod{}
	for range 1 + m.below(4) - m.below(8)/7 {
		a := accepted(m.below(2), 0, "")
		if m.below(8) == 0 {
			a = accepted(small(), small(), text())
		}
		s.Acceptors = append(s.Acceptors, a)
	}
	for i := range 1 + m.below(4) - m.below(8)/7 {
		p := impl.Proposer{Own: text()}
		for node := range s.Acceptors {
			if m.below(2) == 0 {
				p.Promises = append(p.Promises, toldOf(node, m.below(i+1), ""))
			}
		}
		if m.below(9) == 0 {
			p.Promises = append(p.Promises, toldOf(small(), small(), text()))
		}
		if len(s.Acceptors) > 0 {
			p.Fixed, p.Value = fixedAgain(p, len(s.Acceptors))
		}
		if m.below(9) == 0 {
			p.Fixed, p.Value = m.below(2) == 0, text()
		}
		if p.Fixed && m.below(2) == 0 || m.below(9) == 0 {
			p.Votes = []int{small()}
		}
		s.Proposers = append(s.Proposers, p)
	}
	return s
}

// Synods of anything at all are answered, and those that are not good by the zero answer.
func TestSynodsOfAnything(t *testing.T) {
	numbers := []int{math.MinInt, -1, 0, 0, 1, 1, 2, 2, 3, 3, 4, 5, 8, 9, 12, 13, 1000, math.MaxInt}
	texts := []string{"", "", "", "a", "b", "a", "b", ";", "\xff\x00", strings.Repeat("x", 1000)}
	good, did := 0, 0
	for seed := range 40000 {
		m := mixer(seed)
		number := func() int { return numbers[m.below(len(numbers))] }
		text := func() string { return texts[m.below(7+3*(m.below(8)/7))] }
		small := func() int {
			if m.below(8) > 0 {
				return m.below(4)
			}
			return number()
		}
		s := drawnSynod(&m, small, text)
		x := impl.SynodStep{Accept: m.below(2) == 0, Ballot: small(), Node: small()}
		if m.below(4) > 0 {
			x.Ballot, x.Node = 1+m.below(3), m.below(3)
		}
		want := goodSynodAgain(s)
		if impl.GoodSynod(s) != want {
			t.Fatalf("%s: not %v", synodText(s), want)
		}
		if !want {
			l, ok := impl.ChosenIn(s)
			value, ok2 := impl.ValueAt(s, x.Ballot)
			if ok || ok2 || l != nil || value != "" {
				t.Fatalf("%s: %v %v, %q %v", synodText(s), l, ok, value, ok2)
			}
		} else {
			good++
			checkSynodAnswers(t, s, x.Ballot)
		}
		if _, ok := checkSynodStep(t, s, x); ok {
			did++
		}
		impl.PlaySynod(number(), slices.Repeat([]string{text()}, m.below(10)), slices.Repeat([]impl.SynodStep{x}, m.below(130)))
	}
	if good < 5000 || did < 1000 {
		t.Error(good, did)
	}
}

// checkSynodAnswers holds what is told of a good synod against the document's words.
func checkSynodAnswers(t *testing.T, s impl.Synod, ballot int) {
	t.Helper()
	var want []string
	for _, value := range chosenAgain(s) {
		want = append(want, value)
	}
	slices.Sort(want)
	if l, ok := impl.ChosenIn(s); !ok || !slices.Equal(l, slices.Compact(want)) {
		t.Fatalf("%s: %q %v, not %q", synodText(s), l, ok, want)
	}
	value, ok := impl.ValueAt(s, ballot)
	if is := ballot >= 1 && ballot <= len(s.Proposers) && s.Proposers[ballot-1].Fixed; ok != is || is && value != s.Proposers[ballot-1].Value || !is && value != "" {
		t.Fatalf("%s: %d: %q %v", synodText(s), ballot, value, ok)
	}
}
