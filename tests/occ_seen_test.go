package tests

import (
	"slices"
	"testing"

	"loop.example/g00218/impl"
)

// someSteps mixes steps of a few Txns at a time on few keys: mostly such as their state lets them take, so that many of them end.
func someSteps(seed uint64) []impl.Step {
	m := mixer(seed)
	keys, size, atOnce := m.below(5)+1, m.below(impl.MaxOccSteps)+1, m.below(4)+1
	s := impl.Store{Epoch: 1}
	var l []impl.Step
	for range size {
		x := nextStep(&m, s, atOnce)
		x.Key, x.Value = string([]byte{'a' + byte(m.below(keys))}), string([]byte{'0' + byte(m.below(10))})
		switch m.below(40) {
		case 0:
			x.Kind = m.below(9)
		case 1:
			x.Txn = m.below(22)
		case 2:
			x.Key = "?"
		}
		l = append(l, x)
		s, _, _ = stepAgain(s, x)
	}
	return l
}

// nextStep is one that a Txn which has not ended may take, or a begin.
func nextStep(m *mixer, s impl.Store, atOnce int) impl.Step {
	var live []impl.Running
	for _, x := range s.Txns {
		if x.State < impl.TxnDone {
			live = append(live, x)
		}
	}
	if len(live) < atOnce && m.below(3) > 0 || len(live) == 0 {
		return impl.Step{Kind: impl.DoBegin}
	}
	x := live[m.below(len(live))]
	next := impl.Step{Kind: x.State + impl.DoLock - impl.TxnRuns, Txn: x.Id}
	if x.State == impl.TxnRuns && m.below(4) > 0 {
		next.Kind = impl.DoRead + m.below(2)
	} else if m.below(25) == 0 {
		next.Kind = impl.DoGiveUp
	}
	return next
}

// checkSeen holds a store against promise 5: what was seen, and the tids of those that write one key.
func checkSeen(t *testing.T, s impl.Store) {
	t.Helper()
	for i, id := range s.Order {
		ahead, ok := impl.ReplayOrder(s, i)
		if !ok {
			t.Fatalf("%s: no replay of %d", told(s), i)
		}
		values := map[string]impl.Cell{}
		for _, c := range ahead {
			values[c.Key] = c
		}
		x := s.Txns[id-1]
		for _, k := range x.Looks {
			if k.Value != values[k.Key].Value {
				t.Fatalf("%s: %d looked at %s, and ahead of it stands %v", told(s), id, k.Key, ahead)
			}
		}
		for _, other := range s.Order[:i] {
			if y := s.Txns[other-1]; writesOneKey(x, y) && orderOf(x.Tid, y.Tid) <= 0 {
				t.Fatalf("%s: %d writes behind %d, and its tid is not greater", told(s), id, other)
			}
		}
	}
}

func writesOneKey(x, y impl.Running) bool {
	return slices.ContainsFunc(x.Writes, func(w impl.Cell) bool {
		return slices.ContainsFunc(y.Writes, func(v impl.Cell) bool { return v.Key == w.Key })
	})
}

// checkMap asks whether the records, where all that have checked are done, are what the Order leaves.
func checkMap(t *testing.T, s impl.Store) {
	t.Helper()
	for _, id := range s.Order {
		if s.Txns[id-1].State == impl.TxnChecked {
			s, _, _ = checkStep(t, s, impl.Step{Kind: impl.DoInstall, Txn: id})
		}
	}
	left, _ := impl.MapOf(s)
	want, ok := impl.ReplayOrder(s, len(s.Order))
	if !ok || !slices.Equal(left, want) {
		t.Fatalf("%s: the map is %v, the replay %v", told(s), left, want)
	}
}

// Long plays, step by step: each does what the document's words told again say, and promise 5 holds of what is left.
func TestLongPlaysOfStores(t *testing.T) {
	counted := map[int]int{}
	ended, looked := 0, 0
	for seed := range 1500 {
		l := someSteps(uint64(seed))
		epoch := seed%1000 + 1
		at := impl.Store{Epoch: epoch}
		var codes []int
		for _, x := range l {
			var code int
			at, _, code = checkStep(t, at, x)
			codes = append(codes, code)
			counted[code]++
		}
		s, again, ok := impl.PlayStore(epoch, l)
		if !ok || !sameStore(s, at) || !slices.Equal(again, codes) {
			t.Fatalf("%v: %v %v, %s is left, not %v, %s", l, again, ok, told(s), codes, told(at))
		}
		checkSeen(t, s)
		checkMap(t, s)
		ended += len(s.Order)
		for _, id := range s.Order {
			looked += len(s.Txns[id-1].Looks)
		}
	}
	for code := impl.OccOk; code <= impl.OccChanged; code++ {
		if counted[code] < 500 {
			t.Error(counted)
		}
	}
	if ended < 3000 || looked < 2000 {
		t.Error(ended, looked)
	}
}

// Epochs that advance between steps do not matter for what is seen.
func TestPlaysOverManyEpochs(t *testing.T) {
	for seed := range 300 {
		m := mixer(seed + 7)
		s := impl.Store{Epoch: 1}
		for _, x := range someSteps(uint64(seed)) {
			if m.below(6) == 0 {
				s, _ = impl.AdvanceEpoch(s)
			}
			s, _, _ = checkStep(t, s, x)
		}
		checkSeen(t, s)
		checkMap(t, s)
	}
}

// bodies are all programs of at most n reads and writes of the keys a and b.
func bodies(n int) []string {
	all := []string{""}
	last := all
	for range n {
		var longer []string
		for _, body := range last {
			for _, op := range []string{"ra", "rb", "wa", "wb"} {
				longer = append(longer, body+op)
			}
		}
		all, last = append(all, longer...), longer
	}
	return all
}

// program are the steps of a body as those of a Txn, with its lock, check and install.
func program(txn int, body string) []impl.Step {
	var l []impl.Step
	for ; body != ""; body = body[2:] {
		x := impl.Step{Kind: impl.DoRead, Txn: txn, Key: body[1:2]}
		if body[0] == 'w' {
			x.Kind, x.Value = impl.DoWrite, string([]byte{'0' + byte(txn)})
		}
		l = append(l, x)
	}
	return append(l, impl.Step{Kind: impl.DoLock, Txn: txn}, impl.Step{Kind: impl.DoCheck, Txn: txn}, impl.Step{Kind: impl.DoInstall, Txn: txn})
}

// checkMixes goes through all ways to mix two programs.
func checkMixes(t *testing.T, s impl.Store, a, b []impl.Step) int {
	if len(a) == 0 && len(b) == 0 {
		checkSeen(t, s)
		return len(s.Order)
	}
	ended := 0
	if len(a) > 0 {
		left, _, _ := impl.DoStep(s, a[0])
		ended += checkMixes(t, left, a[1:], b)
	}
	if len(b) > 0 {
		left, _, _ := impl.DoStep(s, b[0])
		ended += checkMixes(t, left, a, b[1:])
	}
	return ended
}

// All mixes of two small Txns, behind one that wrote a.
func TestAllMixesOfTwo(t *testing.T) {
	s := played(t, "b w1a=1 l1 c1 i1 b b")
	ended := 0
	for _, a := range bodies(2) {
		for _, b := range bodies(2) {
			if a <= b {
				ended += checkMixes(t, s, program(2, a), program(3, b))
			}
		}
	}
	if ended < 10000 {
		t.Error(ended)
	}
}

// Two that each look at what the other one writes cannot both have been first: just one of them checks.
func TestTwoThatLookAtWhatTheOtherWrites(t *testing.T) {
	s := played(t, "b w1a=1 w1b=1 l1 c1 i1 b b")
	for _, word := range []string{"r2a w2b=2 r3b w3a=3 l2 l3 c2 c3", "r2a w2b=2 r3b w3a=3 l2 c2 l3 c3", "r2a w2b=2 r3b w3a=3 l2 c2 i2 l3 c3", "r2a r3b w2b=2 w3a=3 l3 c3 l2 c2 i3"} {
		at := s
		for _, x := range steps(word) {
			at, _, _ = checkStep(t, at, x)
		}
		checkSeen(t, at)
		if len(at.Order) != 2 {
			t.Errorf("%s: %s", word, told(at))
		}
	}
}
