package tests

import (
	"math"
	"slices"
	"strings"
	"testing"

	"loop.example/stile/impl"
)

// bitsBelow is the model: a list of bits, the one on top last, from the words of chapter 1 alone.
func bitsBelow(bits uint64, n int) []bool {
	list := []bool{}
	for i := n - 1; i >= 0; i-- {
		list = append(list, bits>>uint(i)&1 == 1)
	}
	return list
}

// packed is the model the other way round.
func packed(list []bool) uint64 {
	word := uint64(0)
	for _, b := range list {
		word *= 2
		if b {
			word++
		}
	}
	return word
}

func stackOf(list []bool) impl.BitStack {
	return impl.BitStack{Bits: uint16(packed(list)), N: len(list)}
}

func forkOf(list []bool) impl.BitFork {
	return impl.BitFork{Bits: uint8(packed(list)), N: len(list)}
}

// pushed is a list of at most most bits behind a push.
func pushed(list []bool, b bool, most int) []bool {
	longer := append(slices.Clone(list), b)
	return longer[max(0, len(longer)-most):]
}

func digitsOf(list []bool) string {
	text := "|"
	for _, b := range list {
		if b {
			text += "1"
		} else {
			text += "0"
		}
	}
	return text
}

// eachStack walks over every stack that is ok, with its list.
func eachStack(see func(s impl.BitStack, list []bool)) {
	for n := 0; n <= 16; n++ {
		for bits := 0; bits < 1<<n; bits++ {
			see(impl.BitStack{Bits: uint16(bits), N: n}, bitsBelow(uint64(bits), n))
		}
	}
}

// eachFork walks over every fork that is ok, with its list.
func eachFork(see func(f impl.BitFork, list []bool)) {
	for n := 0; n <= 8; n++ {
		for bits := 0; bits < 1<<n; bits++ {
			see(impl.BitFork{Bits: uint8(bits), N: n}, bitsBelow(uint64(bits), n))
		}
	}
}

// badStacks are stacks that are not ok: N below 0 or beyond the bound, bits above the N lowest.
func badStacks() []impl.BitStack {
	bad := []impl.BitStack{}
	for _, n := range []int{math.MinInt, -17, -1, 17, 18, 32, 64, 65536, math.MaxInt} {
		for _, bits := range []uint16{0, 1, 0x8000, 0xffff} {
			bad = append(bad, impl.BitStack{Bits: bits, N: n})
		}
	}
	for n := 0; n < 16; n++ {
		for high := n; high < 16; high++ {
			bad = append(bad, impl.BitStack{Bits: 1 << high, N: n}, impl.BitStack{Bits: 1<<high | 1, N: n})
		}
		bad = append(bad, impl.BitStack{Bits: 0xffff, N: n})
	}
	return bad
}

// badForks are forks that are not ok, likewise.
func badForks() []impl.BitFork {
	bad := []impl.BitFork{}
	for _, n := range []int{math.MinInt, -9, -1, 9, 10, 16, 256, math.MaxInt} {
		for _, bits := range []uint8{0, 1, 0x80, 0xff} {
			bad = append(bad, impl.BitFork{Bits: bits, N: n})
		}
	}
	for n := 0; n < 8; n++ {
		for high := n; high < 8; high++ {
			bad = append(bad, impl.BitFork{Bits: 1 << high, N: n}, impl.BitFork{Bits: 1<<high | 1, N: n})
		}
		bad = append(bad, impl.BitFork{Bits: 0xff, N: n})
	}
	return bad
}

func TestBounds(t *testing.T) {
	if impl.BitMaxStack != 16 || impl.BitMaxFork != 8 {
		t.Error(impl.BitMaxStack, impl.BitMaxFork)
	}
}

// P1, for stacks that are ok, all of them.
func TestPushAndPopAreOfAList(t *testing.T) {
	eachStack(func(s impl.BitStack, list []bool) {
		if !impl.BitOk(s) || !slices.Equal(impl.BitList(s), list) {
			t.Fatalf("%v: list %v", s, impl.BitList(s))
		}
		for _, b := range []bool{false, true} {
			p := impl.BitPush(s, b)
			if p != stackOf(pushed(list, b, 16)) {
				t.Fatalf("%v: push %v: %v", s, b, p)
			}
			rest, got := impl.BitPop(p)
			want := s
			if len(list) == 16 {
				want = stackOf(list[1:])
			}
			if got != b || rest != want {
				t.Fatalf("%v: push %v, then pop: %v %v", s, b, rest, got)
			}
		}
	})
}

// P1, at the edges: the empty stack, one bit, a full stack and one push more.
func TestPushAndPopAtTheEdges(t *testing.T) {
	s := impl.BitStack{}
	if rest, b := impl.BitPop(s); b || rest != s || len(impl.BitList(s)) != 0 {
		t.Error("empty", rest, b)
	}
	s = impl.BitPush(s, true)
	if s != (impl.BitStack{Bits: 1, N: 1}) || !slices.Equal(impl.BitList(s), []bool{true}) {
		t.Error("one bit", s)
	}
	for range 15 {
		s = impl.BitPush(s, false)
	}
	if s != (impl.BitStack{Bits: 0x8000, N: 16}) {
		t.Error("full", s)
	}
	if s = impl.BitPush(s, true); s != (impl.BitStack{Bits: 1, N: 16}) {
		t.Error("one more", s)
	}
}

// P1, with stacks that are not ok: all calls but BitOk and BitText take them for the empty one.
func TestStacksThatAreNotOkAreEmpty(t *testing.T) {
	for _, s := range badStacks() {
		if impl.BitOk(s) || impl.BitText(s) != "" {
			t.Errorf("%v: ok %v, text %q", s, impl.BitOk(s), impl.BitText(s))
		}
		if len(impl.BitList(s)) != 0 || impl.BitTop(s) {
			t.Errorf("%v: list %v, top %v", s, impl.BitList(s), impl.BitTop(s))
		}
		if rest, b := impl.BitPop(s); b || rest != (impl.BitStack{}) {
			t.Errorf("%v: pop %v %v", s, rest, b)
		}
		for _, b := range []bool{false, true} {
			if x := impl.BitPush(s, b); x != stackOf([]bool{b}) {
				t.Errorf("%v: push %v: %v", s, b, x)
			}
			if x := impl.BitTurn(s, b); x != (impl.BitStack{}) {
				t.Errorf("%v: turn %v: %v", s, b, x)
			}
		}
	}
}

func TestBitOkOfEveryWord(t *testing.T) {
	for n := -2; n <= 18; n++ {
		for bits := 0; bits <= 0xffff; bits++ {
			want := n >= 0 && n <= 16 && bits < 1<<max(n, 0)
			if s := (impl.BitStack{Bits: uint16(bits), N: n}); impl.BitOk(s) != want {
				t.Fatalf("%v: %v", s, !want)
			}
		}
	}
}

// Every answer is new memory, spare room included.
func TestBitListIsNewMemory(t *testing.T) {
	s := impl.BitStack{Bits: 5, N: 3}
	one, two := impl.BitList(s), impl.BitList(s)
	for i := range one[:cap(one)] {
		one[:cap(one)][i] = false
	}
	if !slices.Equal(two, []bool{true, false, true}) || !slices.Equal(impl.BitList(s), two) {
		t.Error(two, impl.BitList(s))
	}
}

// P2, from the stack: all that are ok.
func TestBitReadOfBitText(t *testing.T) {
	eachStack(func(s impl.BitStack, list []bool) {
		text := impl.BitText(s)
		if text != digitsOf(list) {
			t.Fatalf("%v: text %q", s, text)
		}
		if back, ok := impl.BitRead(text); !ok || back != s {
			t.Fatalf("%v: read %v %v", s, back, ok)
		}
	})
}

// checkRead holds BitRead of a text against the words of chapter 1.
func checkRead(t *testing.T, text string) {
	t.Helper()
	want := strings.HasPrefix(text, "|") && len(text) <= 17 && strings.Trim(text[1:], "01") == ""
	s, ok := impl.BitRead(text)
	if ok != want {
		t.Errorf("%q: read %v", text, ok)
	}
	if ok && (!impl.BitOk(s) || impl.BitText(s) != text) {
		t.Errorf("%q: read as %v, written as %q", text, s, impl.BitText(s))
	}
	if !ok && s != (impl.BitStack{}) {
		t.Errorf("%q: not read, but %v", text, s)
	}
}

// P2, from the text: each of up to six signs.
func TestBitReadOfShortTexts(t *testing.T) {
	texts := []string{""}
	for range 7 {
		longer := []string{}
		for _, text := range texts {
			checkRead(t, text)
			for _, sign := range []string{"|", "0", "1", "2"} {
				longer = append(longer, text+sign)
			}
		}
		texts = longer
	}
}

// P2, at the edges and with wrong texts.
func TestBitReadOfWrongTexts(t *testing.T) {
	for bits := 0; bits <= 40; bits++ {
		for _, digit := range []string{"0", "1"} {
			checkRead(t, "|"+strings.Repeat(digit, bits))
			checkRead(t, strings.Repeat(digit, bits))
			checkRead(t, "|"+strings.Repeat(digit, bits)+"|")
		}
	}
	for _, text := range []string{
		"", "110", "0|1", "|1|0", " |01", "|01 ", "|0 1", "|01\n", "|\x00", "\x00", "|/", "|:", "|2", "|-1", "|+1", "|o", "|l", "|tf",
		"|\xff", "\xff|", "|\u0661", "|\uff11", "\u01c001", "|01010101010101010", "|0101010101010102", "|010101010101010x1",
		"|" + strings.Repeat("0", 65536), "|" + strings.Repeat("1", 65552),
	} {
		checkRead(t, text)
		if s, ok := impl.BitRead(text); ok || s != (impl.BitStack{}) {
			t.Errorf("%q: %v %v", text, s, ok)
		}
	}
	for sign := range 256 {
		checkRead(t, "|"+string([]byte{byte(sign)}))
		checkRead(t, string([]byte{byte(sign)})+"1")
		checkRead(t, "|101010101010101"+string([]byte{byte(sign)}))
	}
}

// P3, for stacks that are ok, all of them.
func TestTurnAndTop(t *testing.T) {
	eachStack(func(s impl.BitStack, list []bool) {
		rest, b := impl.BitPop(s)
		if impl.BitTop(s) != b {
			t.Fatalf("%v: top %v, pop %v", s, !b, b)
		}
		if len(list) == 0 {
			if b || rest != s || impl.BitTurn(s, true) != s || impl.BitTurn(s, false) != s {
				t.Fatalf("%v: pop %v %v, turn %v", s, rest, b, impl.BitTurn(s, true))
			}
			return
		}
		below := list[:len(list)-1]
		if b != list[len(list)-1] || rest != stackOf(below) {
			t.Fatalf("%v: pop %v %v", s, rest, b)
		}
		for _, b := range []bool{false, true} {
			if x := impl.BitTurn(s, b); x != stackOf(append(slices.Clone(below), b)) {
				t.Fatalf("%v: turn %v: %v", s, b, x)
			}
		}
	})
}

// P4, for forks that are ok, all of them.
func TestForksAreLists(t *testing.T) {
	eachFork(func(f impl.BitFork, list []bool) {
		if !impl.ForkOk(f) {
			t.Fatalf("%v: not ok", f)
		}
		rest, b := impl.ForkPop(f)
		if impl.ForkTop(f) != b {
			t.Fatalf("%v: top %v, pop %v", f, !b, b)
		}
		if len(list) == 0 && (b || rest != f) {
			t.Fatalf("%v: pop %v %v", f, rest, b)
		}
		if n := len(list); n > 0 && (b != list[n-1] || rest != forkOf(list[:n-1])) {
			t.Fatalf("%v: pop %v %v", f, rest, b)
		}
		for _, b := range []bool{false, true} {
			p := impl.ForkPush(f, b)
			if p != forkOf(pushed(list, b, 8)) {
				t.Fatalf("%v: push %v: %v", f, b, p)
			}
			rest, got := impl.ForkPop(p)
			want := f
			if len(list) == 8 {
				want = forkOf(list[1:])
			}
			if got != b || rest != want {
				t.Fatalf("%v: push %v, then pop: %v %v", f, b, rest, got)
			}
		}
	})
}

// P4, at the edges: the empty fork, one bit, a full fork and one push more.
func TestForksAtTheEdges(t *testing.T) {
	f := impl.BitFork{}
	if rest, b := impl.ForkPop(f); b || rest != f || impl.ForkTop(f) {
		t.Error("empty", rest, b)
	}
	f = impl.ForkPush(f, true)
	if f != (impl.BitFork{Bits: 1, N: 1}) || !impl.ForkTop(f) {
		t.Error("one bit", f)
	}
	for range 7 {
		f = impl.ForkPush(f, false)
	}
	if f != (impl.BitFork{Bits: 0x80, N: 8}) || impl.ForkTop(f) {
		t.Error("full", f)
	}
	if f = impl.ForkPush(f, true); f != (impl.BitFork{Bits: 1, N: 8}) {
		t.Error("one more", f)
	}
}

// P4, with forks that are not ok: all calls but ForkOk take them for the empty one.
func TestForksThatAreNotOkAreEmpty(t *testing.T) {
	for _, f := range badForks() {
		if impl.ForkOk(f) || impl.ForkTop(f) {
			t.Errorf("%v: ok %v, top %v", f, impl.ForkOk(f), impl.ForkTop(f))
		}
		if rest, b := impl.ForkPop(f); b || rest != (impl.BitFork{}) {
			t.Errorf("%v: pop %v %v", f, rest, b)
		}
		for _, b := range []bool{false, true} {
			if x := impl.ForkPush(f, b); x != forkOf([]bool{b}) {
				t.Errorf("%v: push %v: %v", f, b, x)
			}
		}
	}
}

func TestForkOkOfEveryWord(t *testing.T) {
	for n := -2; n <= 18; n++ {
		for bits := 0; bits <= 0xff; bits++ {
			want := n >= 0 && n <= 8 && bits < 1<<max(n, 0)
			if f := (impl.BitFork{Bits: uint8(bits), N: n}); impl.ForkOk(f) != want {
				t.Fatalf("%v: %v", f, !want)
			}
		}
	}
}
