package tests

import (
	"fmt"
	"math"
	"slices"
	"testing"

	"loop.example/g00218/impl"
)

// plainFence has a member that lags, one that has acked, and one that runs old and new things; two of what was ended last.
func plainFence() impl.Fence {
	return impl.Fence{
		Epoch:   6,
		Durable: 2,
		Members: []impl.Member{
			{Id: 0, Epoch: 4, Running: []int{4}, Acked: 3},
			{Id: 7, Epoch: 6, Running: []int{6, 6}, Acked: 5},
			{Id: 40, Epoch: 6, Running: []int{4, 5, 5, 6}, Acked: 2},
		},
		Ended: []int{1, 4, 2, 6, 3},
	}
}

// aloneFence has one member, which has acked nothing since Durable.
func aloneFence(epoch, durable int, running ...int) impl.Fence {
	return impl.Fence{Epoch: epoch, Durable: durable, Members: []impl.Member{{Id: 3, Epoch: epoch, Running: running, Acked: durable}}}
}

func deepFence(f impl.Fence) impl.Fence {
	f.Members, f.Ended = slices.Clone(f.Members), slices.Clone(f.Ended)
	for i := range f.Members {
		f.Members[i].Running = slices.Clone(f.Members[i].Running)
	}
	return f
}

func sameMember(a, b impl.Member) bool {
	return a.Id == b.Id && a.Epoch == b.Epoch && a.Acked == b.Acked && slices.Equal(a.Running, b.Running)
}

func sameFence(a, b impl.Fence) bool {
	return a.Epoch == b.Epoch && a.Durable == b.Durable && slices.EqualFunc(a.Members, b.Members, sameMember) && slices.Equal(a.Ended, b.Ended)
}

func isZeroFence(f impl.Fence) bool {
	return f.Epoch == 0 && f.Durable == 0 && f.Members == nil && f.Ended == nil
}

// A fenceChange is put to the fence of plainFence, and has a name.
type fenceChange struct {
	name string
	put  func(f *impl.Fence)
}

func fenceChanges[T any](name string, put func(f *impl.Fence, x T), things ...T) []fenceChange {
	var changes []fenceChange
	for _, x := range things {
		changes = append(changes, fenceChange{fmt.Sprintf("%s %v", name, x), func(f *impl.Fence) { put(f, x) }})
	}
	return changes
}

func changedFence(c fenceChange) impl.Fence {
	f := plainFence()
	c.put(&f)
	return f
}

// putFenceEpoch puts an Epoch that the member is in too.
func putFenceEpoch(f *impl.Fence, n int) { *f = aloneFence(n, 0) }

// putEpochBeyond puts an Epoch beside members that are in older ones.
func putEpochBeyond(f *impl.Fence, n int) { f.Epoch = n }

// putDurable puts a Durable just behind which the member is; the fence's Epoch is 6.
func putDurable(f *impl.Fence, n int) { *f = aloneFence(6, n) }

func putManyMembers(f *impl.Fence, n int) {
	f.Members = nil
	for id := range n {
		f.Members = append(f.Members, impl.Member{Id: 5 * id, Epoch: 3 + id%4, Acked: 2})
	}
}

func putIds(f *impl.Fence, ids [3]int) {
	for i, id := range ids {
		f.Members[i].Id = id
	}
}

func putEpochOfFirst(f *impl.Fence, n int) {
	f.Members[0] = impl.Member{Id: 0, Epoch: n, Acked: 2}
}

func putEpochOfLast(f *impl.Fence, n int) {
	f.Members[2] = impl.Member{Id: 40, Epoch: n, Acked: 2}
}

func putAckedOfFirst(f *impl.Fence, n int) {
	f.Members[0] = impl.Member{Id: 0, Epoch: 5, Acked: n}
}

func putAckedOfLast(f *impl.Fence, n int) {
	f.Members[2] = impl.Member{Id: 40, Epoch: 6, Acked: n}
}

// putRunning puts what runs at a member of Epoch 5 that has acked 3.
func putRunning(f *impl.Fence, running []int) {
	f.Members[1] = impl.Member{Id: 7, Epoch: 5, Running: running, Acked: 3}
}

// putRunningOfLast puts what runs at the last member, of Epoch 6 and without anything acked since Durable.
func putRunningOfLast(f *impl.Fence, running []int) { f.Members[2].Running = running }

func putManyRunning(f *impl.Fence, n int) {
	f.Members[2].Running = slices.Repeat([]int{5}, n)
}

func putManyEnded(f *impl.Fence, n int) { f.Ended = slices.Repeat([]int{4}, n) }

func putEnded(f *impl.Fence, ended []int) { f.Ended = ended }

func goodFenceChanges() []fenceChange {
	const least, greatest = math.MinInt, math.MaxInt
	return slices.Concat(
		fenceChanges("Epoch", putFenceEpoch, 1, 2, 999, 1000),
		fenceChanges("Epoch beyond", putEpochBeyond, 6, 7, 999, 1000),
		fenceChanges("Durable", putDurable, 0, 1, 4, 5),
		fenceChanges("members", putManyMembers, 1, 2, 7, 8),
		fenceChanges("Ids", putIds, [][3]int{{0, 1, 2}, {0, 1, 99}, {0, 98, 99}, {97, 98, 99}, {5, 7, 40}}...),
		fenceChanges("Epoch of the first", putEpochOfFirst, 3, 4, 5, 6),
		fenceChanges("Epoch of the last", putEpochOfLast, 3, 4, 5, 6),
		fenceChanges("Acked of the first", putAckedOfFirst, 2, 3, 4),
		fenceChanges("Acked of the last", putAckedOfLast, 2, 3, 4, 5),
		fenceChanges("Running", putRunning, [][]int{nil, {}, {4}, {5}, {4, 4}, {4, 5}, {5, 5}, {4, 4, 4, 5, 5}}...),
		fenceChanges("Running of the last", putRunningOfLast, [][]int{nil, {3}, {6}, {3, 3}, {3, 6}, {3, 4, 5, 6}}...),
		fenceChanges("so many Running", putManyRunning, 0, 1, 19, 20),
		fenceChanges("so many Ended", putManyEnded, 0, 1, 199, 200),
		// they are told in the order in which they ended
		fenceChanges("Ended", putEnded, [][]int{nil, {}, {1}, {6}, {6, 1}, {1, 6, 1}, {3, 3}, {6, 5, 4, 3, 2, 1}}...),
	)
}

func badFenceChanges() []fenceChange {
	const least, greatest = math.MinInt, math.MaxInt
	return slices.Concat(
		fenceChanges("Epoch", putFenceEpoch, 0, -1, 1001, 1002, least, greatest, 1<<32+1),
		fenceChanges("Epoch beyond", putEpochBeyond, 5, 2, 1, 0, -1, 1001, least, greatest, 1<<32+6),
		fenceChanges("Durable", putDurable, -1, 6, 7, least, greatest, 1<<32),
		fenceChanges("members", putManyMembers, 0, 9, 10, 20),
		fenceChanges("Ids", putIds, [][3]int{
			{-1, 7, 40}, {least, 7, 40}, {0, 7, 100}, {0, 7, 101}, {0, 7, greatest}, {98, 99, 100}, {0, 7, 1<<32 + 40},
			{0, 0, 40}, {7, 7, 40}, {0, 40, 40}, {7, 7, 7}, {99, 99, 99}, {0, 0, 0},
			{7, 0, 40}, {0, 40, 7}, {40, 7, 0}, {0, 7, 6}, {8, 7, 40}, {0, -1, 40}, {0, 7, -1}, {0, 100, 40}, {100, 7, 40},
		}...),
		fenceChanges("Epoch of the first", putEpochOfFirst, 2, 1, 0, -1, 7, 8, least, greatest, 1<<32+6),
		fenceChanges("Epoch of the last", putEpochOfLast, 2, 1, 0, -1, 7, 8, least, greatest, 1<<32+6),
		fenceChanges("Acked of the first", putAckedOfFirst, 1, 0, -1, 5, 6, least, greatest, 1<<32+2),
		fenceChanges("Acked of the last", putAckedOfLast, 1, 0, -1, 6, 7, least, greatest, 1<<32+2),
		fenceChanges("Running", putRunning, [][]int{
			{3}, {6}, {2}, {0}, {-1}, {least}, {greatest}, {1<<32 + 4},
			{5, 4}, {4, 5, 4}, {5, 5, 4, 4}, {4, 4, 5, 5, 4}, {3, 4}, {4, 3}, {4, 6}, {5, 6}, {6, 5}, {4, 4, 3}, {4, 5, 5, 6},
		}...),
		fenceChanges("Running of the last", putRunningOfLast, [][]int{{2}, {7}, {1}, {2, 6}, {3, 7}, {4, 3}, {6, 5}, {3, 4, 3}, {3, 5, 4, 6}}...),
		fenceChanges("so many Running", putManyRunning, 21, 22, 200),
		fenceChanges("so many Ended", putManyEnded, 201, 202, 1000),
		// each is an epoch that the fence has had
		fenceChanges("Ended", putEnded, [][]int{{0}, {7}, {-1}, {least}, {greatest}, {1, 6, 7}, {0, 6, 1}, {0, 7, -1, 1001, least, greatest}}...),
	)
}

// goodFenceAgain tells the document's words a second time.
func goodFenceAgain(f impl.Fence) bool {
	if f.Epoch < 1 || f.Epoch > 1000 || f.Durable < 0 || f.Durable >= f.Epoch {
		return false
	}
	if len(f.Members) == 0 || len(f.Members) > 8 || len(f.Ended) > 200 {
		return false
	}
	for _, epoch := range f.Ended {
		if epoch < 1 || epoch > f.Epoch {
			return false
		}
	}
	for i, m := range f.Members {
		if m.Id < 0 || m.Id > 99 || i > 0 && f.Members[i-1].Id >= m.Id {
			return false
		}
		if m.Epoch <= f.Durable || m.Epoch > f.Epoch || m.Acked < f.Durable || m.Acked >= m.Epoch {
			return false
		}
		if len(m.Running) > 20 || !slices.IsSorted(m.Running) {
			return false
		}
		for _, epoch := range m.Running {
			if epoch <= m.Acked || epoch > m.Epoch {
				return false
			}
		}
	}
	return true
}

func TestLimitsOfFences(t *testing.T) {
	if impl.MaxMembers != 8 || impl.MaxFenceSteps != 120 {
		t.Error(impl.MaxMembers, impl.MaxFenceSteps)
	}
	kinds := []int{impl.FenceBegin, impl.FenceEnd, impl.FenceAck, impl.FenceAdvance, impl.FenceLeave, impl.FenceJoin}
	if !slices.Equal(kinds, []int{1, 2, 3, 4, 5, 6}) {
		t.Error(kinds)
	}
}

func TestGoodFence(t *testing.T) {
	if f := plainFence(); !impl.GoodFence(f) || !goodFenceAgain(f) {
		t.Error(f, "is good")
	}
	if impl.GoodFence(impl.Fence{}) || impl.GoodFence(impl.Fence{Epoch: 1}) || impl.GoodFence(impl.Fence{Epoch: 1, Members: []impl.Member{{}}}) {
		t.Error("a fence without members that are in an Epoch is not good")
	}
	for _, c := range goodFenceChanges() {
		if f := changedFence(c); !impl.GoodFence(f) || !goodFenceAgain(f) {
			t.Errorf("%s: %v is good", c.name, f)
		}
	}
	for _, c := range badFenceChanges() {
		if f := changedFence(c); impl.GoodFence(f) || goodFenceAgain(f) {
			t.Errorf("%s: %v is not good", c.name, f)
		}
	}
}

// Every one of eight members is looked at: its Id, its Epoch, what it has acked and what runs there.
func TestGoodFenceLooksAtEachMember(t *testing.T) {
	for at := range 8 {
		for _, c := range []struct {
			put  func(m *impl.Member)
			good bool
		}{
			{func(m *impl.Member) {}, true},
			{func(m *impl.Member) { m.Id++ }, true},
			{func(m *impl.Member) { m.Id += 10 }, at == 7},
			{func(m *impl.Member) { m.Id -= 10 }, false},
			{func(m *impl.Member) { m.Epoch = 3 }, true},
			{func(m *impl.Member) { m.Epoch = 2 }, false},
			{func(m *impl.Member) { m.Epoch = 7 }, false},
			{func(m *impl.Member) { m.Acked = 1 }, false},
			{func(m *impl.Member) { m.Acked = 4 }, true},
			{func(m *impl.Member) { m.Acked = 5 }, false},
			{func(m *impl.Member) { m.Running = []int{3, 5} }, true},
			{func(m *impl.Member) { m.Running = []int{2, 5} }, false},
			{func(m *impl.Member) { m.Running = []int{3, 6} }, false},
			{func(m *impl.Member) { m.Running = []int{3, 5, 4} }, false},
			{func(m *impl.Member) { m.Running = slices.Repeat([]int{5}, 20) }, true},
			{func(m *impl.Member) { m.Running = slices.Repeat([]int{5}, 21) }, false},
		} {
			f := impl.Fence{Epoch: 6, Durable: 2}
			for i := range 8 {
				f.Members = append(f.Members, impl.Member{Id: 10 * i, Epoch: 5, Acked: 2})
			}
			c.put(&f.Members[at])
			if impl.GoodFence(f) != c.good || goodFenceAgain(f) != c.good {
				t.Errorf("%d: %v: not %v", at, f, c.good)
			}
		}
	}
}

// smallMembers are all members of an Id with numbers in 0..greatest and at most two things that run.
func smallMembers(id, greatest int) []impl.Member {
	runs := [][]int{nil}
	for a := 0; a <= greatest; a++ {
		runs = append(runs, []int{a})
		for b := 0; b <= greatest; b++ {
			runs = append(runs, []int{a, b})
		}
	}
	var l []impl.Member
	for epoch := 0; epoch <= greatest; epoch++ {
		for acked := -1; acked < greatest; acked++ {
			for _, running := range runs {
				l = append(l, impl.Member{Id: id, Epoch: epoch, Running: running, Acked: acked})
			}
		}
	}
	return l
}

// smallFences goes through all fences of one member, and of two, whose numbers are small.
func smallFences(see func(f impl.Fence)) {
	fences := func(greatest int, members ...impl.Member) {
		for epoch := 0; epoch <= greatest; epoch++ {
			for durable := -1; durable <= epoch; durable++ {
				see(impl.Fence{Epoch: epoch, Durable: durable, Members: members, Ended: []int{epoch, 1}})
			}
		}
	}
	for _, a := range smallMembers(0, 4) {
		fences(4, a)
	}
	for _, a := range smallMembers(0, 2) {
		for _, b := range smallMembers(1, 2) {
			fences(2, a, b)
		}
	}
}

func TestGoodFenceOfAllThatAreSmall(t *testing.T) {
	good, bad := 0, 0
	smallFences(func(f impl.Fence) {
		want := goodFenceAgain(f)
		if impl.GoodFence(f) != want {
			t.Fatalf("%v: not %v", f, want)
		}
		if want {
			good++
		} else {
			bad++
		}
	})
	if good < 300 || bad < 10000 {
		t.Error(good, bad)
	}
}

// checkNoFence asks whether all functions give a fence that is not good the zero answer.
func checkNoFence(t *testing.T, f impl.Fence) {
	t.Helper()
	if n, ok := impl.LastingIn(f); ok || n != 0 {
		t.Errorf("%v: %d %v", f, n, ok)
	}
	if n, ok := impl.LeastEpoch(f); ok || n != 0 {
		t.Errorf("%v: %d %v", f, n, ok)
	}
	for _, s := range manyFenceSteps() {
		if left, ok := impl.StepFence(f, s); ok || !isZeroFence(left) {
			t.Errorf("%v: %v: %v %v", f, s, left, ok)
		}
	}
}

func TestFencesThatAreNotGoodHaveTheZeroAnswer(t *testing.T) {
	checkNoFence(t, impl.Fence{})
	for _, c := range badFenceChanges() {
		checkNoFence(t, changedFence(c))
	}
}
