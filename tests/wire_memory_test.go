package tests

import (
	"slices"
	"strings"
	"testing"
	"unsafe"

	"loop.example/g00218/impl"
)

// sharesText tells whether a part of one text lies in the memory of the other one.
func sharesText(a, b string) bool {
	if len(a) == 0 || len(b) == 0 {
		return false
	}
	from := uintptr(unsafe.Pointer(unsafe.StringData(a)))
	other := uintptr(unsafe.Pointer(unsafe.StringData(b)))
	return from < other+uintptr(len(b)) && other < from+uintptr(len(a))
}

func TestWhatIsReadIsNewMemory(t *testing.T) {
	l := []impl.Msg{plainMsg(), {Kind: impl.MsgYes, Key: "abcdefgh", Value: strings.Repeat("v", 20)}}
	s, _ := impl.MsgsBytes(l)
	m, took := impl.ReadMsg(s)
	if took == 0 || sharesText(m.Key, s) || sharesText(m.Value, s) {
		t.Error("ReadMsg hands out its argument's memory")
	}
	back, ok := impl.ReadMsgs(s)
	if !ok || len(back) != 2 {
		t.Fatal(back, ok)
	}
	for i, m := range back {
		if sharesText(m.Key, s) || sharesText(m.Value, s) {
			t.Errorf("ReadMsgs hands out its argument's memory in message %d", i)
		}
	}
}

// A text laid over bytes that change later shows whether an answer still hangs on them.
func TestAnswersDoNotHangOnWhatWasGiven(t *testing.T) {
	s, _ := impl.MsgBytes(plainMsg())
	b := []byte(s)
	given := unsafe.String(&b[0], len(b))
	m, _ := impl.ReadMsg(given)
	l, _ := impl.ReadMsgs(given)
	clear(b)
	if m != plainMsg() || !slices.Equal(l, []impl.Msg{plainMsg()}) {
		t.Errorf("%+v %+v", m, l)
	}

	key := []byte("abc")
	value := []byte("def")
	msg := impl.Msg{Kind: impl.MsgRead, Key: unsafe.String(&key[0], 3), Value: unsafe.String(&value[0], 3)}
	one, _ := impl.MsgBytes(msg)
	many, _ := impl.MsgsBytes([]impl.Msg{msg})
	clear(key)
	clear(value)
	want := "\x01" + strings.Repeat("\x00", 12) + "\x03abc\x03def"
	if one != want || many != want {
		t.Errorf("%q %q", one, many)
	}
}

func TestTwoAnswersShareNoList(t *testing.T) {
	s, _ := impl.MsgsBytes([]impl.Msg{plainMsg(), plainMsg()})
	a, _ := impl.ReadMsgs(s)
	b, _ := impl.ReadMsgs(s)
	clear(a)
	if !slices.Equal(b, []impl.Msg{plainMsg(), plainMsg()}) {
		t.Error(b)
	}
}

// What lies behind the length is bad, and must be neither read nor written.
func TestNextTidKeepsToItsList(t *testing.T) {
	for _, last := range []impl.Tid{{Epoch: 2, Seq: 5, Locked: true}, {Epoch: 9}, {Seq: -1}} {
		l := []impl.Tid{{Epoch: 2, Seq: 8, Locked: true}, {Epoch: 1, Seq: 9}, last, {Epoch: -1, Seq: -1}}
		old := slices.Clone(l)
		x, ok := impl.NextTid(l[:2], 2)
		if x != (impl.Tid{Epoch: 2, Seq: 9}) || !ok {
			t.Error(x, ok)
		}
		impl.NextTid(l[:3], 2)
		if !slices.Equal(l, old) {
			t.Errorf("%+v became %+v", old, l)
		}
	}
}

func TestMsgsBytesKeepsToItsList(t *testing.T) {
	for _, last := range []impl.Msg{plainMsg(), {}} {
		l := []impl.Msg{plainMsg(), {Kind: impl.MsgNo, Key: "z"}, last, {Kind: -1}}
		old := slices.Clone(l)
		s, ok := impl.MsgsBytes(l[:2])
		if back, _ := impl.ReadMsgs(s); !ok || !slices.Equal(back, old[:2]) {
			t.Errorf("%q %v", s, ok)
		}
		impl.MsgsBytes(l[:3])
		if !slices.Equal(l, old) {
			t.Errorf("%+v became %+v", old, l)
		}
	}
}

func TestReadMsgsDoesNotWriteIntoItsText(t *testing.T) {
	s, _ := impl.MsgsBytes([]impl.Msg{plainMsg(), plainMsg()})
	for _, given := range []string{s, s + "x", s[:len(s)-1]} {
		b := []byte(given)
		impl.ReadMsgs(unsafe.String(&b[0], len(b)))
		impl.ReadMsg(unsafe.String(&b[0], len(b)))
		if string(b) != given {
			t.Errorf("%q became %q", given, b)
		}
	}
}

// Long and senseless texts have the zero answer, without a panic.
func TestReadersAnswerAtAnyText(t *testing.T) {
	for c := range 256 {
		for _, n := range []int{1, 2, 12, 13, 14, 15, 16, 255, 256, 257, 5000} {
			s := strings.Repeat(string([]byte{byte(c)}), n)
			if m, took := impl.ReadMsg(s); m != (impl.Msg{}) || took != 0 {
				t.Errorf("%d times %d: %+v %d", n, c, m, took)
			}
			if l, ok := impl.ReadMsgs(s); len(l) != 0 || ok {
				t.Errorf("%d times %d: %+v %v", n, c, l, ok)
			}
		}
	}
}
