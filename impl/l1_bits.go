package impl

import "strings"

// BitStack is a stack of bits, packed; the one on top is the lowest.
type BitStack struct {
	Bits uint16
	N    int
}

// BitFork is a small stack of bits, packed likewise.
type BitFork struct {
	Bits uint8
	N    int
}

// Bounds of stacks.
const (
	BitMaxStack = 16
	BitMaxFork  = 8
)

// bitPack is what both widths share. The word has just as many bits as the
// stack may hold, so that a push onto a full one shifts its first bit out.
type bitPack[W uint8 | uint16] struct {
	word W
	n    int
	most int
}

// bitTall is a BitStack that is worked on.
type bitTall struct {
	bitPack[uint16]
}

// bitLow is a BitFork that is worked on.
type bitLow struct {
	bitPack[uint8]
}

func (p *bitPack[W]) ok() bool {
	return p.n >= 0 && p.n <= p.most && p.word>>p.n == 0
}

// settle makes a stack that is not ok the empty one: nearly every call takes
// it so, and the other methods rely on it.
func (p *bitPack[W]) settle() {
	if !p.ok() {
		p.word, p.n = 0, 0
	}
}

func (p *bitPack[W]) push(b bool) {
	p.word <<= 1
	if b {
		p.word |= 1
	}
	p.n = min(p.n+1, p.most)
}

func (p *bitPack[W]) pop() bool {
	b := p.at(0)
	p.word >>= 1
	p.n = max(p.n-1, 0)
	return b
}

// at is the bit so far below the top; false past the bottom, as all bits
// there are 0.
func (p *bitPack[W]) at(depth int) bool {
	return p.word>>depth&1 == 1
}

func tallAsIs(s BitStack) bitTall {
	return bitTall{bitPack[uint16]{word: s.Bits, n: s.N, most: BitMaxStack}}
}

func tallOf(s BitStack) bitTall {
	t := tallAsIs(s)
	t.settle()
	return t
}

func (t *bitTall) stack() BitStack {
	return BitStack{Bits: t.word, N: t.n}
}

func lowAsIs(f BitFork) bitLow {
	return bitLow{bitPack[uint8]{word: f.Bits, n: f.N, most: BitMaxFork}}
}

func lowOf(f BitFork) bitLow {
	l := lowAsIs(f)
	l.settle()
	return l
}

func (l *bitLow) fork() BitFork {
	return BitFork{Bits: l.word, N: l.n}
}

// BitOk says whether a stack is one.
func BitOk(s BitStack) bool {
	t := tallAsIs(s)
	return t.ok()
}

// BitPush lays a bit on top.
func BitPush(s BitStack, b bool) BitStack {
	t := tallOf(s)
	t.push(b)
	return t.stack()
}

// BitPop takes the bit on top away.
func BitPop(s BitStack) (BitStack, bool) {
	t := tallOf(s)
	b := t.pop()
	return t.stack(), b
}

// BitTop is the bit on top.
func BitTop(s BitStack) bool {
	t := tallOf(s)
	return t.at(0)
}

// BitTurn lays a bit in the place of the one on top.
func BitTurn(s BitStack, b bool) BitStack {
	t := tallOf(s)
	if t.n == 0 {
		return BitStack{}
	}
	t.pop()
	t.push(b)
	return t.stack()
}

// BitList is the bits of a stack, the one on top last.
func BitList(s BitStack) []bool {
	t := tallOf(s)
	list := make([]bool, t.n)
	for i := range list {
		list[i] = t.at(t.n - 1 - i)
	}
	return list
}

// BitText writes a stack.
func BitText(s BitStack) string {
	if !BitOk(s) {
		return ""
	}
	var text strings.Builder
	text.WriteByte('|')
	for _, b := range BitList(s) {
		if b {
			text.WriteByte('1')
		} else {
			text.WriteByte('0')
		}
	}
	return text.String()
}

// BitRead reads a stack.
func BitRead(text string) (BitStack, bool) {
	digits, begun := strings.CutPrefix(text, "|")
	if !begun || len(digits) > BitMaxStack {
		return BitStack{}, false
	}
	t := tallOf(BitStack{})
	for i := range len(digits) {
		if digits[i] != '0' && digits[i] != '1' {
			return BitStack{}, false
		}
		t.push(digits[i] == '1')
	}
	return t.stack(), true
}

// ForkOk says whether a small stack is one.
func ForkOk(f BitFork) bool {
	l := lowAsIs(f)
	return l.ok()
}

// ForkPush lays a bit on top.
func ForkPush(f BitFork, b bool) BitFork {
	l := lowOf(f)
	l.push(b)
	return l.fork()
}

// ForkPop takes the bit on top away.
func ForkPop(f BitFork) (BitFork, bool) {
	l := lowOf(f)
	b := l.pop()
	return l.fork(), b
}

// ForkTop is the bit on top.
func ForkTop(f BitFork) bool {
	l := lowOf(f)
	return l.at(0)
}
