package tests

import (
	"cmp"
	"fmt"
	"slices"
	"strings"
	"testing"

	"loop.example/g00218/impl"
)

// A toldRead is what a read told, with the Txn by which it is sorted.
type toldRead struct {
	txn  int
	text string
}

// runAgain tells by the document's words what the ops read and leave.
func runAgain(l []impl.Op) ([]string, []impl.Cell) {
	values := map[string]string{}
	var told []toldRead
	for i, o := range l {
		number, bytes := 0, 0
		for _, before := range l[:i] {
			if before.Txn == o.Txn {
				number++
			}
		}
		for _, r := range told {
			if r.txn == o.Txn {
				_, value, _ := strings.Cut(r.text, "=")
				bytes += len(value)
			}
		}
		switch o.Kind {
		case impl.OpRead:
			told = append(told, toldRead{o.Txn, fmt.Sprintf("r%d%s=%s", o.Txn, o.Key, values[o.Key])})
		case impl.OpWrite:
			values[o.Key] = fmt.Sprintf("%d:%d.%d", o.Txn, bytes, number)
		}
	}
	slices.SortStableFunc(told, func(a, b toldRead) int { return cmp.Compare(a.txn, b.txn) })
	var reads []string
	for _, r := range told {
		reads = append(reads, r.text)
	}
	var cells []impl.Cell
	for key, value := range values {
		cells = append(cells, impl.Cell{Key: key, Value: value})
	}
	slices.SortFunc(cells, func(a, b impl.Cell) int { return cmp.Compare(a.Key, b.Key) })
	return reads, cells
}

func TestRunOps(t *testing.T) {
	for _, c := range []struct {
		ops   string
		reads []string
		cells []impl.Cell
	}{
		{"", nil, nil},
		{"c1 c2", nil, nil},
		// a key that nobody wrote is read as empty, and is no cell
		{"r1a c1", []string{"r1a="}, nil},
		{"w1a c1", nil, []impl.Cell{{Key: "a", Value: "1:0.0"}}},
		{"w1a w1a w1a c1", nil, []impl.Cell{{Key: "a", Value: "1:0.2"}}},
		// a write behind reads: 5 bytes, then 5 and 5; its number counts reads and writes of its Txn alone
		{"w1a r2a w2b r2b w2c c1 c2", []string{"r2a=1:0.0", "r2b=2:5.1"}, []impl.Cell{{Key: "a", Value: "1:0.0"}, {Key: "b", Value: "2:5.1"}, {Key: "c", Value: "2:10.3"}}},
		// the same value read twice counts twice, a key that nobody wrote has no bytes
		{"w1a c1 r2a r2a r2z w2a c2", []string{"r2a=1:0.0", "r2a=1:0.0", "r2z="}, []impl.Cell{{Key: "a", Value: "2:10.3"}}},
		// reads behind the write do not count in it
		{"w1a w2b r2a c1 c2", []string{"r2a=1:0.0"}, []impl.Cell{{Key: "a", Value: "1:0.0"}, {Key: "b", Value: "2:0.0"}}},
		// what others read does not count
		{"w1a r3a w2b c1 c2 c3", []string{"r3a=1:0.0"}, []impl.Cell{{Key: "a", Value: "1:0.0"}, {Key: "b", Value: "2:0.0"}}},
		// reads are sorted by their Txn, those of one stay in their order
		{"r8z r2b r1c r2a r1a r8a c1 c2 c8", []string{"r1c=", "r1a=", "r2b=", "r2a=", "r8z=", "r8a="}, nil},
		// a value of more bytes is read: 10.3 has one more than 5.1
		{"w1a r2a w2b r2b w2c r3c w3d c1 c2 c3", []string{"r2a=1:0.0", "r2b=2:5.1", "r3c=2:10.3"}, []impl.Cell{{Key: "a", Value: "1:0.0"}, {Key: "b", Value: "2:5.1"}, {Key: "c", Value: "2:10.3"}, {Key: "d", Value: "3:6.1"}}},
		// cells rise by bytes: digits ahead of letters, a key that ends ahead of a longer one
		{"w1b w1ab w1a w1z w10 w19a w1aa c1", nil, []impl.Cell{{Key: "0", Value: "1:0.4"}, {Key: "9a", Value: "1:0.5"}, {Key: "a", Value: "1:0.2"}, {Key: "aa", Value: "1:0.6"}, {Key: "ab", Value: "1:0.1"}, {Key: "b", Value: "1:0.0"}, {Key: "z", Value: "1:0.3"}}},
		{"w1abcdefgh r8abcdefgh w8abcdefgh c8 c1", []string{"r8abcdefgh=1:0.0"}, []impl.Cell{{Key: "abcdefgh", Value: "8:5.1"}}},
		// the last one in time wins, whoever commits first
		{"w1a w2a c2 c1", nil, []impl.Cell{{Key: "a", Value: "2:0.0"}}},
	} {
		reads, cells, ok := impl.RunOps(ops(c.ops))
		if !slices.Equal(reads, c.reads) || !slices.Equal(cells, c.cells) || !ok {
			t.Errorf("%s: %q %q %v", c.ops, reads, cells, ok)
		}
	}
}

func TestRunOpsOfManySchedules(t *testing.T) {
	for _, l := range manySchedules() {
		reads, cells, ok := impl.RunOps(l)
		wantReads, wantCells := runAgain(l)
		if !slices.Equal(reads, wantReads) || !slices.Equal(cells, wantCells) || !ok {
			t.Fatalf("%+v: %q %q %v", l, reads, cells, ok)
		}
	}
}

func TestReadsFrom(t *testing.T) {
	for _, c := range []struct {
		ops  string
		want []impl.Pair
	}{
		{"", nil},
		{"w1a c1", nil},
		{"r1a c1", []impl.Pair{{From: 0, To: 1}}},
		{"r1a w2a c1 c2", []impl.Pair{{From: 0, To: 1}}},
		{"w2b r1a c1 c2", []impl.Pair{{From: 0, To: 1}}},
		{"w2a r1a c1 c2", []impl.Pair{{From: 2, To: 1}}},
		{"w2a c2 r1a c1", []impl.Pair{{From: 2, To: 1}}},
		{"w1a r1a c1", []impl.Pair{{From: 1, To: 1}}},
		{"w1a w2a r1a c1 c2", []impl.Pair{{From: 2, To: 1}}},
		{"w2a w1a r1a c1 c2", []impl.Pair{{From: 1, To: 1}}},
		{"w2a w3a r1a c1 c2 c3", []impl.Pair{{From: 3, To: 1}}},
		{"w2a w3a c3 c2 r1a c1", []impl.Pair{{From: 3, To: 1}}},
		{"w3a r8a r1a r8b r8a c1 c3 c8", []impl.Pair{{From: 3, To: 8}, {From: 3, To: 1}, {From: 0, To: 8}, {From: 3, To: 8}}},
	} {
		if x, ok := impl.ReadsFrom(ops(c.ops)); !slices.Equal(x, c.want) || !ok {
			t.Errorf("%s: %v %v", c.ops, x, ok)
		}
	}
}

// What RunOps tells that a read saw begins with the Txn that wrote it.
func TestReadsFromIsWhatWasRead(t *testing.T) {
	for _, l := range manySchedules() {
		pairs, ok := impl.ReadsFrom(l)
		slices.SortStableFunc(pairs, func(a, b impl.Pair) int { return cmp.Compare(a.To, b.To) })
		reads, _ := runAgain(l)
		if !ok || len(pairs) != len(reads) {
			t.Fatalf("%+v: %v %v", l, pairs, ok)
		}
		for i, text := range reads {
			want := impl.Pair{To: int(text[1] - '0')}
			if _, value, _ := strings.Cut(text, "="); value != "" {
				want.From = int(value[0] - '0')
			}
			if pairs[i] != want {
				t.Fatalf("%+v: %v, not %v", l, pairs[i], want)
			}
		}
	}
}

// The order of the pairs is that of the reads, not that of the readers.
func TestReadsFromIsInTheOrderOfTheReads(t *testing.T) {
	for _, l := range longSchedules() {
		pairs, _ := impl.ReadsFrom(l)
		i := 0
		for _, o := range l {
			if o.Kind == impl.OpRead {
				if pairs[i].To != o.Txn {
					t.Fatalf("%+v: %v", l, pairs)
				}
				i++
			}
		}
	}
}
