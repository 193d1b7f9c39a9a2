package tests

import (
	"math"
	"slices"
	"strings"
	"testing"

	"loop.example/g00218/impl"
)

func plainMsg() impl.Msg {
	return impl.Msg{Kind: impl.MsgCopy, From: 3, To: 4, Txn: 515, Key: "k1", Value: "v 2", Tid: impl.Tid{Epoch: 7, Seq: 9, Locked: true}}
}

// msgsWith are the plain message with one field put to each of its variants.
func msgsWith[T any](put func(*impl.Msg, T), variants ...T) []impl.Msg {
	var l []impl.Msg
	for _, v := range variants {
		m := plainMsg()
		put(&m, v)
		l = append(l, m)
	}
	return l
}

func putKind(m *impl.Msg, n int)     { m.Kind = n }
func putFrom(m *impl.Msg, n int)     { m.From = n }
func putTo(m *impl.Msg, n int)       { m.To = n }
func putTxn(m *impl.Msg, n int)      { m.Txn = n }
func putKey(m *impl.Msg, s string)   { m.Key = s }
func putValue(m *impl.Msg, s string) { m.Value = s }
func putTid(m *impl.Msg, x impl.Tid) { m.Tid = x }

// goodValues are texts of all bytes that a value may have, and of the lengths at its limit.
func goodValues() []string {
	l := []string{"", strings.Repeat("x", 19), strings.Repeat("x", 20), "x", "=", ": ,"}
	for c := 32; c <= 126; c++ {
		if c != ';' {
			l = append(l, string([]byte{byte(c)}), string([]byte{'a', byte(c), 'b'}))
		}
	}
	return l
}

// badValues have one byte that no value has at the front, amid or at the end, or are too long.
func badValues() []string {
	l := []string{strings.Repeat("x", 21), strings.Repeat("x", 255), strings.Repeat("x", 256), strings.Repeat("x", 276)}
	for c := range 256 {
		if c < 32 || c > 126 || c == ';' {
			b := string([]byte{byte(c)})
			l = append(l, b, b+"yz", "x"+b+"z", "xy"+b)
		}
	}
	return l
}

func goodKeys() []string {
	l := []string{"a", "ab", "abcdefg", "abcdefgh", "01234567", "zzzzzzz9"}
	for _, c := range []byte("abcdefghijklmnopqrstuvwxyz0123456789") {
		l = append(l, string([]byte{c}), string([]byte{'q', c}))
	}
	return l
}

func badKeys() []string {
	l := []string{"", "abcdefghi", strings.Repeat("k", 255), strings.Repeat("k", 256), strings.Repeat("k", 257), strings.Repeat("k", 264)}
	for c := range 256 {
		if !(c >= 'a' && c <= 'z' || c >= '0' && c <= '9') {
			b := string([]byte{byte(c)})
			l = append(l, b, b+"b", "a"+b, "a"+b+"c")
		}
	}
	return l
}

func goodMsgs() []impl.Msg {
	return slices.Concat(
		[]impl.Msg{
			plainMsg(),
			{Kind: impl.MsgRead, Key: "0"},
			{Kind: impl.MsgNo, From: 255, To: 255, Txn: 65535, Key: "zzzzzzzz", Value: strings.Repeat("~", 20), Tid: impl.Tid{Epoch: impl.MaxEpoch, Seq: impl.MaxSeq, Locked: true}},
		},
		msgsWith(putKind, 1, 2, 3, 4, 5, 6, 7, 8),
		msgsWith(putFrom, 0, 1, 127, 128, 254, 255),
		msgsWith(putTo, 0, 1, 127, 128, 254, 255),
		msgsWith(putTxn, 0, 1, 255, 256, 32768, 65534, 65535),
		msgsWith(putKey, goodKeys()...),
		msgsWith(putValue, goodValues()...),
		msgsWith(putTid, edgeTids()...),
	)
}

func badMsgs() []impl.Msg {
	far := []int{math.MinInt, math.MaxInt, 1 << 32, 1<<32 + 5, -1 << 32}
	return slices.Concat(
		[]impl.Msg{{}, {Kind: impl.MsgRead}, {Key: "a"}},
		msgsWith(putKind, append(far, -1, 0, 9, 255, 256, 257)...),
		msgsWith(putFrom, append(far, -1, 256, 257, 65536)...),
		msgsWith(putTo, append(far, -1, 256, 257, 65536)...),
		msgsWith(putTxn, append(far, -1, 65536, 65537, 1<<24)...),
		msgsWith(putKey, badKeys()...),
		msgsWith(putValue, badValues()...),
		msgsWith(putTid, badTids()...),
	)
}

func TestKindsAreCountedUp(t *testing.T) {
	kinds := []int{impl.MsgRead, impl.MsgLock, impl.MsgCheck, impl.MsgCopy, impl.MsgCommit, impl.MsgAbort, impl.MsgYes, impl.MsgNo}
	if !slices.Equal(kinds, []int{1, 2, 3, 4, 5, 6, 7, 8}) {
		t.Error(kinds)
	}
}

func TestGoodMsg(t *testing.T) {
	for _, m := range goodMsgs() {
		if !impl.GoodMsg(m) {
			t.Errorf("%+v is good", m)
		}
	}
	for _, m := range badMsgs() {
		if impl.GoodMsg(m) {
			t.Errorf("%+v is not good", m)
		}
	}
}

func TestMsgBytesLaysOutTheMessage(t *testing.T) {
	for _, c := range []struct {
		m    impl.Msg
		want string
	}{
		{plainMsg(), "\x04\x03\x04\x02\x03\x00\x00\x00\x00\x0e\x00\x00\x13\x02k1\x03v 2"},
		{impl.Msg{Kind: impl.MsgRead, Key: "0"}, "\x01\x00\x00\x00\x00\x00\x00\x00\x00\x00\x00\x00\x00\x010\x00"},
		{
			impl.Msg{Kind: impl.MsgNo, From: 255, To: 254, Txn: 65535, Key: "abcdefgh", Value: "12345678901234567890", Tid: impl.Tid{Epoch: impl.MaxEpoch, Seq: impl.MaxSeq, Locked: true}},
			"\x08\xff\xfe\xff\xff\x00\x00\x1f\xff\xff\xff\xff\xff\x08abcdefgh\x1412345678901234567890",
		},
	} {
		if s, ok := impl.MsgBytes(c.m); s != c.want || !ok {
			t.Errorf("%+v: %q %v", c.m, s, ok)
		}
	}
}

func TestMessagesComeBack(t *testing.T) {
	for _, m := range goodMsgs() {
		s, ok := impl.MsgBytes(m)
		if !ok || len(s) != 15+len(m.Key)+len(m.Value) {
			t.Fatalf("%+v: %q %v", m, s, ok)
		}
		for _, behind := range []string{"", "\x00", "z", s, strings.Repeat("\xff", 300)} {
			if back, took := impl.ReadMsg(s + behind); back != m || took != len(s) {
				t.Errorf("%+v with %q behind: %+v %d", m, behind, back, took)
			}
		}
	}
}

func TestBadMessagesHaveNoBytes(t *testing.T) {
	for _, m := range badMsgs() {
		if s, ok := impl.MsgBytes(m); s != "" || ok {
			t.Errorf("%+v: %q %v", m, s, ok)
		}
		for _, l := range [][]impl.Msg{{m}, {plainMsg(), m}, {m, plainMsg()}} {
			if s, ok := impl.MsgsBytes(l); s != "" || ok {
				t.Errorf("%+v: %q %v", l, s, ok)
			}
		}
	}
}

func TestBytesThatEndTooEarly(t *testing.T) {
	for _, m := range goodMsgs() {
		s, _ := impl.MsgBytes(m)
		for n := range len(s) {
			if back, took := impl.ReadMsg(s[:n]); back != (impl.Msg{}) || took != 0 {
				t.Errorf("%d bytes of %q: %+v %d", n, s, back, took)
			}
			if l, ok := impl.ReadMsgs(s + s[:n]); n > 0 && (len(l) != 0 || ok) {
				t.Errorf("%q and %d bytes of it: %+v %v", s, n, l, ok)
			}
		}
	}
}

// rawMsg lays out bytes without asking whether they are those of a good message.
func rawMsg(kind byte, word string, key string, value string) string {
	return string([]byte{kind, 1, 2, 3, 4}) + word + string([]byte{byte(len(key))}) + key + string([]byte{byte(len(value))}) + value
}

func TestBytesOfNoGoodMessage(t *testing.T) {
	zero := strings.Repeat("\x00", 8)
	if m, took := impl.ReadMsg(rawMsg(1, zero, "a", "b")); m.Key != "a" || m.Value != "b" || took != 17 {
		t.Fatal(m, took)
	}
	l := []string{
		rawMsg(0, zero, "a", "b"),
		rawMsg(9, zero, "a", "b"),
		rawMsg(255, zero, "a", "b"),
		rawMsg(1, "\x00\x00\x20\x00\x00\x00\x00\x00", "a", "b"),
		rawMsg(1, "\x80\x00\x00\x00\x00\x00\x00\x00", "a", "b"),
		rawMsg(1, strings.Repeat("\xff", 8), "a", "b"),
	}
	for _, key := range badKeys() {
		if len(key) < 256 {
			l = append(l, rawMsg(1, zero, key, "b"))
		}
	}
	for _, value := range badValues() {
		if len(value) < 256 {
			l = append(l, rawMsg(1, zero, "a", value))
		}
	}
	for _, s := range l {
		for _, behind := range []string{"", strings.Repeat("a", 300)} {
			if m, took := impl.ReadMsg(s + behind); m != (impl.Msg{}) || took != 0 {
				t.Errorf("%q: %+v %d", s, m, took)
			}
		}
		if m, ok := impl.ReadMsgs(s); len(m) != 0 || ok {
			t.Errorf("%q: %+v %v", s, m, ok)
		}
	}
}

// Whatever a byte is changed to: what is read is just what has these bytes.
func TestReadMsgTellsJustWhatHasTheseBytes(t *testing.T) {
	s, _ := impl.MsgBytes(plainMsg())
	for i := range len(s) {
		for c := range 256 {
			b := []byte(s + "abcdefghijklmnop")
			b[i] = byte(c)
			m, took := impl.ReadMsg(string(b))
			if took == 0 {
				if m != (impl.Msg{}) {
					t.Errorf("byte %d is %d: %+v", i, c, m)
				}
				continue
			}
			if back, ok := impl.MsgBytes(m); !ok || back != string(b[:took]) {
				t.Errorf("byte %d is %d: %+v %d has %q", i, c, m, took, back)
			}
		}
	}
}

func TestManyMessagesComeBack(t *testing.T) {
	all := goodMsgs()
	for from := 0; from < len(all); from += 7 {
		for _, many := range []int{0, 1, 2, 59, 60} {
			l := all[from:min(from+many, len(all))]
			var want strings.Builder
			for _, m := range l {
				s, _ := impl.MsgBytes(m)
				want.WriteString(s)
			}
			s, ok := impl.MsgsBytes(l)
			if s != want.String() || !ok {
				t.Fatalf("%+v: %q %v", l, s, ok)
			}
			if back, ok := impl.ReadMsgs(s); !slices.Equal(back, l) || !ok {
				t.Errorf("%+v came back as %+v %v", l, back, ok)
			}
		}
	}
}

func TestSixtyMessagesAndNoMore(t *testing.T) {
	one, _ := impl.MsgBytes(plainMsg())
	l := slices.Repeat([]impl.Msg{plainMsg()}, 61)
	if s, ok := impl.MsgsBytes(l[:60]); s != strings.Repeat(one, 60) || !ok {
		t.Errorf("%q %v", s, ok)
	}
	if s, ok := impl.MsgsBytes(l); s != "" || ok {
		t.Errorf("%q %v", s, ok)
	}
	if back, ok := impl.ReadMsgs(strings.Repeat(one, 60)); !slices.Equal(back, l[:60]) || !ok {
		t.Error(len(back), ok)
	}
	if back, ok := impl.ReadMsgs(strings.Repeat(one, 61)); len(back) != 0 || ok {
		t.Error(len(back), ok)
	}
}

func TestNoMessagesAreNoBytes(t *testing.T) {
	for _, l := range [][]impl.Msg{nil, {}} {
		if s, ok := impl.MsgsBytes(l); s != "" || !ok {
			t.Errorf("%q %v", s, ok)
		}
	}
	if l, ok := impl.ReadMsgs(""); len(l) != 0 || !ok {
		t.Error(l, ok)
	}
	if m, took := impl.ReadMsg(""); m != (impl.Msg{}) || took != 0 {
		t.Error(m, took)
	}
}

func TestBytesBehindManyMessages(t *testing.T) {
	s, _ := impl.MsgsBytes([]impl.Msg{plainMsg(), {Kind: impl.MsgYes, Key: "a"}})
	for _, behind := range []string{"\x00", "z", ";", "\n", "\x01\x01\x01", strings.Repeat("\x00", 40)} {
		if l, ok := impl.ReadMsgs(s + behind); len(l) != 0 || ok {
			t.Errorf("%q behind: %+v %v", behind, l, ok)
		}
		if l, ok := impl.ReadMsgs(behind + s); len(l) != 0 || ok {
			t.Errorf("%q ahead: %+v %v", behind, l, ok)
		}
	}
}
