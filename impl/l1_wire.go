package impl

import (
	"cmp"
	"strings"
)

const MaxEpoch = 1048575
const MaxSeq = 16777215
const MaxMsgs = 60

// Counted up, so that whatever lies between the first and the last is a kind.
const (
	MsgRead = iota + 1
	MsgLock
	MsgCheck
	MsgCopy
	MsgCommit
	MsgAbort
	MsgYes
	MsgNo
)

const (
	maxTids  = 60
	maxKey   = 8
	maxValue = 20
	maxNode  = 255
	maxTxn   = 65535
)

// The word of a tid: Locked in bit 0, Seq above it, Epoch above that, nothing from wordEnd on.
const (
	seqShift   = 1
	epochShift = 25
	wordEnd    = 1 << 45
)

// Where the parts of a message begin that lie at fixed places; the key's length stands at keyPlace.
const (
	txnPlace = 3
	tidPlace = 5
	keyPlace = 13
)

type Tid struct {
	Epoch  int
	Seq    int
	Locked bool
}

type Msg struct {
	Kind  int
	From  int
	To    int
	Txn   int
	Key   string
	Value string
	Tid   Tid
}

func GoodTid(t Tid) bool {
	return inRange(t.Epoch, 0, MaxEpoch) && inRange(t.Seq, 0, MaxSeq)
}

func PackTid(t Tid) (uint64, bool) {
	if !GoodTid(t) {
		return 0, false
	}
	w := uint64(t.Epoch)<<epochShift | uint64(t.Seq)<<seqShift
	if t.Locked {
		w |= 1
	}
	return w, true
}

func UnpackTid(w uint64) (Tid, bool) {
	if w >= wordEnd {
		return Tid{}, false
	}
	return Tid{
		Epoch:  int(w >> epochShift),
		Seq:    int(w >> seqShift & MaxSeq),
		Locked: w&1 == 1,
	}, true
}

func CompareTid(a Tid, b Tid) (int, bool) {
	if !GoodTid(a) || !GoodTid(b) {
		return 0, false
	}
	if a.Epoch != b.Epoch {
		return cmp.Compare(a.Epoch, b.Epoch), true
	}
	return cmp.Compare(a.Seq, b.Seq), true
}

func NextTid(l []Tid, epoch int) (Tid, bool) {
	if len(l) > maxTids || !inRange(epoch, 0, MaxEpoch) {
		return Tid{}, false
	}
	next := Tid{Epoch: epoch}
	for _, t := range l {
		if !GoodTid(t) || t.Epoch > epoch {
			return Tid{}, false
		}
		if t.Epoch == epoch && t.Seq >= next.Seq {
			next.Seq = t.Seq + 1
		}
	}
	if next.Seq > MaxSeq {
		return Tid{}, false
	}
	return next, true
}

func GoodMsg(m Msg) bool {
	return inRange(m.Kind, MsgRead, MsgNo) &&
		inRange(m.From, 0, maxNode) && inRange(m.To, 0, maxNode) &&
		inRange(m.Txn, 0, maxTxn) &&
		isKey(m.Key) && isValue(m.Value) && GoodTid(m.Tid)
}

func MsgBytes(m Msg) (string, bool) {
	if !GoodMsg(m) {
		return "", false
	}
	return string(appendMsg(nil, m)), true
}

func ReadMsg(s string) (Msg, int) {
	var m Msg
	var at int
	var ok bool
	if len(s) < keyPlace {
		goto none
	}
	m.Kind, m.From, m.To = int(s[0]), int(s[1]), int(s[2])
	m.Txn = int(readWord(s[txnPlace:tidPlace]))
	if m.Tid, ok = UnpackTid(readWord(s[tidPlace:keyPlace])); !ok {
		goto none
	}
	if m.Key, at, ok = readText(s, keyPlace); !ok {
		goto none
	}
	if m.Value, at, ok = readText(s, at); !ok {
		goto none
	}
	if !GoodMsg(m) {
		goto none
	}
	return m, at
none:
	return Msg{}, 0
}

func MsgsBytes(l []Msg) (string, bool) {
	if len(l) > MaxMsgs {
		return "", false
	}
	var b []byte
	for _, m := range l {
		if !GoodMsg(m) {
			return "", false
		}
		b = appendMsg(b, m)
	}
	return string(b), true
}

func ReadMsgs(s string) ([]Msg, bool) {
	var l []Msg
	for len(s) > 0 {
		m, took := ReadMsg(s)
		if took == 0 || len(l) == MaxMsgs {
			return nil, false
		}
		l = append(l, m)
		s = s[took:]
	}
	return l, true
}

// appendMsg trusts that m is good: each part then fits its bytes.
func appendMsg(b []byte, m Msg) []byte {
	w, _ := PackTid(m.Tid)
	b = append(b, byte(m.Kind), byte(m.From), byte(m.To))
	b = appendWord(b, uint64(m.Txn), tidPlace-txnPlace)
	b = appendWord(b, w, keyPlace-tidPlace)
	b = appendText(b, m.Key)
	return appendText(b, m.Value)
}

func appendWord(b []byte, w uint64, size int) []byte {
	for i := size - 1; i >= 0; i-- {
		b = append(b, byte(w>>(8*i)))
	}
	return b
}

func appendText(b []byte, text string) []byte {
	b = append(b, byte(len(text)))
	return append(b, text...)
}

// readWord is the number whose bytes these are, the highest one first.
func readWord(s string) uint64 {
	var w uint64
	i := 0
next:
	if i == len(s) {
		return w
	}
	w = w<<8 | uint64(s[i])
	i++
	goto next
}

// readText is the text whose length stands at a place, and the place behind it.
// It is cloned, because an answer shares no memory with what was given.
func readText(s string, at int) (string, int, bool) {
	if at >= len(s) {
		return "", 0, false
	}
	from := at + 1
	end := from + int(s[at])
	if end > len(s) {
		return "", 0, false
	}
	return strings.Clone(s[from:end]), end, true
}

func isKey(s string) bool {
	if len(s) == 0 || len(s) > maxKey {
		return false
	}
	for i := range len(s) {
		if c := s[i]; (c < 'a' || c > 'z') && (c < '0' || c > '9') {
			return false
		}
	}
	return true
}

func isValue(s string) bool {
	if len(s) > maxValue {
		return false
	}
	for i := range len(s) {
		if c := s[i]; c < 32 || c > 126 || c == ';' {
			return false
		}
	}
	return true
}

func inRange(n int, least int, greatest int) bool {
	return least <= n && n <= greatest
}
