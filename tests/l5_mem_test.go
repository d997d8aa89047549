package tests

import (
	"fmt"
	"math"
	"math/big"
	"regexp"
	"slices"
	"strconv"
	"strings"
	"testing"

	"loop.example/stile/impl"
)

// rounds is after how many places a kind is counted round; 0 is none that has places.
func rounds(kind int) int {
	for _, row := range devRows() {
		if row.kind == kind && row.letter != "G" {
			return row.size
		}
	}
	if kind == 6 {
		return 8
	}
	return 0
}

// placeOf is the place of a device, by a division that leaves 0 or more.
func placeOf(a impl.DevArg) int {
	return int(new(big.Int).Mod(big.NewInt(int64(a.N)), big.NewInt(int64(rounds(a.Kind)))).Int64())
}

// binary is the bits of a word, the lowest ahead.
func binary(word uint64, width int) []bool {
	digits := fmt.Sprintf("%0*b", width, word)
	list := []bool{}
	for i := range digits {
		list = append(list, digits[len(digits)-1-i] == '1')
	}
	return list
}

// bitsOf are the packed bits of X, Y, M, S and E.
func bitsOf(m impl.Mem, kind int) []bool {
	switch kind {
	case 1:
		return binary(uint64(m.X), 32)
	case 2:
		return binary(uint64(m.Y), 32)
	case 3:
		return binary(m.M, 64)
	case 4:
		return binary(uint64(m.S), 16)
	case 5:
		return binary(uint64(m.E), 32)
	}
	return nil
}

// askedBit is what the document says of MemBit.
func askedBit(m impl.Mem, a impl.DevArg) bool {
	if rounds(a.Kind) == 0 {
		return false
	}
	place := placeOf(a)
	switch a.Kind {
	case 1, 2, 3, 4, 5:
		return bitsOf(m, a.Kind)[place]
	case 6:
		digits := fmt.Sprintf("%03d", m.Time)
		return []bool{true, false, !m.Ran, m.Fault, digits[len(digits)-3] >= '5', false, false, false}[place]
	case 7:
		return m.T[place].Done
	case 8:
		return m.C[place].Done
	}
	return false
}

// askedWhole is what the document says of MemWhole.
func askedWhole(m impl.Mem, a impl.DevArg) int16 {
	switch a.Kind {
	case 7:
		return int16(min(int(m.T[placeOf(a)].Count), 32767))
	case 8:
		return int16(min(int(m.C[placeOf(a)].Count), 32767))
	case 9:
		return m.D[placeOf(a)]
	case 11:
		return counted(a.N)
	}
	return 0
}

// askedReal is what the document says of MemReal.
func askedReal(m impl.Mem, a impl.DevArg) float64 {
	switch {
	case a.Kind == 10:
		return m.R[placeOf(a)]
	case a.Kind == 12 && impl.DevOk(a):
		return float64(a.N) / math.Pow10(a.P)
	case a.Kind == 13 && a.P == 0 && a.N >= 0 && a.N <= 3:
		return []float64{math.NaN(), math.Inf(1), math.Inf(-1), negZero()}[a.N]
	}
	return 0
}

// withBit is the memory with a bit of X, Y, M, S or E put.
func withBit(m impl.Mem, kind, place int, b bool) impl.Mem {
	if bitsOf(m, kind)[place] == b {
		return m
	}
	switch kind {
	case 1:
		m.X ^= 1 << place
	case 2:
		m.Y ^= 1 << place
	case 3:
		m.M ^= 1 << place
	case 4:
		m.S ^= 1 << place
	case 5:
		m.E ^= 1 << place
	}
	return m
}

// sameMem holds two memories against each other, part by part.
func sameMem(a, b impl.Mem) bool {
	for i := range a.R {
		if !sameReal(a.R[i], b.R[i]) {
			return false
		}
	}
	return a.X == b.X && a.Y == b.Y && a.M == b.M && a.S == b.S && a.E == b.E && a.T == b.T && a.C == b.C && a.D == b.D && a.Time == b.Time && a.Ran == b.Ran && a.Fault == b.Fault
}

// memWords are the words that the document gives a memory.
func memWords(m impl.Mem) []string {
	words := []string{}
	for i, letter := range []string{"X", "Y", "M", "S", "E"} {
		for n, on := range bitsOf(m, i+1) {
			if on {
				words = append(words, letter+strconv.Itoa(n))
			}
		}
	}
	for n, timer := range m.T {
		if timer.Done || timer.Count > 0 {
			words = append(words, fmt.Sprintf("T%d=%d%s", n, timer.Count, strings.Repeat("!", number(timer.Done))))
		}
	}
	for n, counter := range m.C {
		if counter.Done || counter.Last || counter.Count > 0 {
			words = append(words, fmt.Sprintf("C%d=%d%s%s", n, counter.Count, strings.Repeat("!", number(counter.Done)), strings.Repeat("+", number(counter.Last))))
		}
	}
	for n, v := range m.D {
		if v != 0 {
			words = append(words, fmt.Sprintf("D%d=%d", n, v))
		}
	}
	for n, x := range m.R {
		if !sameReal(x, 0) {
			words = append(words, fmt.Sprintf("R%d=%s", n, realWord(x)))
		}
	}
	if m.Time > 0 {
		words = append(words, fmt.Sprintf("time=%d", m.Time))
	}
	return append(words, slices.Concat(slices.Repeat([]string{"ran"}, number(m.Ran)), slices.Repeat([]string{"fault"}, number(m.Fault)))...)
}

func number(b bool) int {
	if b {
		return 1
	}
	return 0
}

// singleMems are memories with one thing in them.
func singleMems() []impl.Mem {
	all := []impl.Mem{}
	for kind := 1; kind <= 5; kind++ {
		for place := range rounds(kind) {
			all = append(all, withBit(impl.Mem{}, kind, place, true))
		}
	}
	for i := range 16 {
		for _, timer := range []impl.MemTimer{{Done: true}, {Count: 1}, {Count: 32767}, {Count: 32768}, {Count: 65535}, {Done: true, Count: 40000}} {
			m := impl.Mem{}
			m.T[i] = timer
			all = append(all, m)
		}
		for _, counter := range []impl.MemCounter{{Done: true}, {Last: true}, {Done: true, Last: true}, {Count: 1}, {Count: 32767}, {Count: 32768}, {Count: 65535}, {Done: true, Count: 7}, {Last: true, Count: 10}, {Done: true, Last: true, Count: 65535}} {
			m := impl.Mem{}
			m.C[i] = counter
			all = append(all, m)
		}
		for _, x := range []float64{negZero(), math.NaN(), math.Inf(1), math.Inf(-1), 5e-324, -5e-324, math.MaxFloat64, -math.MaxFloat64, 1, -1, 2.5, -0.1, 1 << 53, 1e300} {
			m := impl.Mem{}
			m.R[i] = x
			all = append(all, m)
		}
	}
	for i := range 32 {
		for _, v := range []int16{1, -1, 10, -10, 32767, -32767, -32768} {
			m := impl.Mem{}
			m.D[i] = v
			all = append(all, m)
		}
	}
	for _, ticks := range []uint32{1, 10, 499, 500, 999, 1000, 1499, 1500, 65535, 65536, 2147483647, 2147483648, 4294967295} {
		all = append(all, impl.Mem{Time: ticks})
	}
	return append(all, impl.Mem{Ran: true}, impl.Mem{Fault: true})
}

// fullMem has all there can be, with the longest text that a memory can have.
func fullMem() impl.Mem {
	m := impl.Mem{X: math.MaxUint32, Y: math.MaxUint32, M: math.MaxUint64, S: math.MaxUint16, E: math.MaxUint32, Time: math.MaxUint32, Ran: true, Fault: true}
	for i := range 16 {
		m.T[i] = impl.MemTimer{Done: true, Count: 65535}
		m.C[i] = impl.MemCounter{Done: true, Last: true, Count: 65535}
		m.R[i] = -math.Ldexp(1<<53-1, -1074)
	}
	for i := range m.D {
		m.D[i] = -32768
	}
	return m
}

// anyMems are memories with any bits.
func anyMems(count int) []impl.Mem {
	word := uint64(88172645463325252)
	next := func() uint64 {
		word ^= word << 13
		word ^= word >> 7
		word ^= word << 17
		return word
	}
	edges := []float64{0, negZero(), math.NaN(), math.Inf(1), math.Inf(-1), 5e-324, math.MaxFloat64, 0.1, -32768}
	all := []impl.Mem{}
	for i := range count {
		m := impl.Mem{X: uint32(next()), Y: uint32(next()), M: next(), S: uint16(next()), E: uint32(next()), Time: uint32(next()), Ran: next()%2 == 0, Fault: next()%2 == 0}
		for j := range 16 {
			m.T[j] = impl.MemTimer{Done: next()%2 == 0, Count: uint16(next()) >> (next() % 17)}
			m.C[j] = impl.MemCounter{Done: next()%2 == 0, Last: next()%2 == 0, Count: uint16(next()) >> (next() % 17)}
			m.D[j], m.D[31-j] = int16(next()), int16(next())>>(next()%16)
			m.R[j] = edges[next()%uint64(len(edges))]
			if i%3 == 0 {
				m.R[j] = math.Float64frombits(next())
			}
		}
		all = append(all, m)
	}
	return all
}

func someMems() []impl.Mem {
	return append(anyMems(20), impl.Mem{}, fullMem())
}

// everyOperand has each device of each kind, P other than 0, places before the first and behind the last, numbers ok or not, and no kinds.
func everyOperand() []impl.DevArg {
	all := []impl.DevArg{}
	for _, w := range slices.Concat(devices(), edgeNumbers(), badOperands()) {
		all = append(all, w.a)
	}
	for _, row := range devRows() {
		for _, n := range farNumbers() {
			for _, p := range []int{0, 1, -1, 6} {
				all = append(all, operand(row.kind, n, p))
			}
		}
	}
	for _, kind := range []int{math.MinInt, -13, -1, 0, 14, 15, 21, 255, 256, 257, 1<<32 + 1, 1<<32 + 9, math.MaxInt} {
		for _, n := range []int{math.MinInt, -1, 0, 1, 31, 64, math.MaxInt} {
			all = append(all, operand(kind, n, 0))
		}
	}
	return all
}

// farNumbers are below 0, at the edges of all sizes, and far beyond.
func farNumbers() []int {
	all := []int{math.MinInt, math.MinInt + 1, -1<<32 - 1, -1 << 32, -65537, -65536, -32769, -32768, -1000, 1000, 32767, 32768, 40000, 65535, 65536, 65537, 1 << 32, 1<<32 + 5, math.MaxInt - 1, math.MaxInt}
	for n := -70; n <= 140; n++ {
		all = append(all, n)
	}
	return all
}

// checkAsked holds all that an operand asks for against the document.
func checkAsked(t *testing.T, m impl.Mem, a impl.DevArg) {
	t.Helper()
	if b := impl.MemBit(m, a); b != askedBit(m, a) {
		t.Errorf("%v of %q: the bit is %v", a, impl.MemText(m), b)
	}
	if v := impl.MemWhole(m, a); v != askedWhole(m, a) {
		t.Errorf("%v of %q: the whole number is %d, not %d", a, impl.MemText(m), v, askedWhole(m, a))
	}
	if x := impl.MemReal(m, a); !sameReal(x, askedReal(m, a)) {
		t.Errorf("%v of %q: the real number is %v, not %v", a, impl.MemText(m), x, askedReal(m, a))
	}
}

func TestMemBounds(t *testing.T) {
	if impl.MemMaxText != 6000 {
		t.Error(impl.MemMaxText)
	}
}

// P15 and P18: what is asked, by every operand, of memories with one thing in them, with all, none and anything.
func TestMemIsAsked(t *testing.T) {
	for _, a := range everyOperand() {
		for _, m := range someMems() {
			checkAsked(t, m, a)
		}
	}
	for _, m := range singleMems() {
		for _, w := range slices.Concat(devices(), badOperands()) {
			checkAsked(t, m, w.a)
		}
	}
}

// The given bits, written out.
func TestGivenBits(t *testing.T) {
	for _, c := range []struct {
		m    impl.Mem
		bits string
	}{
		{impl.Mem{}, "10100000"}, {impl.Mem{Ran: true}, "10000000"}, {impl.Mem{Fault: true}, "10110000"}, {impl.Mem{Ran: true, Fault: true}, "10010000"},
		{impl.Mem{Time: 1}, "10100000"}, {impl.Mem{Time: 499}, "10100000"}, {impl.Mem{Time: 500}, "10101000"}, {impl.Mem{Time: 501}, "10101000"}, {impl.Mem{Time: 999}, "10101000"}, {impl.Mem{Time: 1000}, "10100000"},
		{impl.Mem{Time: 1499}, "10100000"}, {impl.Mem{Time: 1500, Ran: true}, "10001000"}, {impl.Mem{Time: 4294967295}, "10100000"}, {impl.Mem{Time: 4294966999}, "10101000"}, {impl.Mem{Time: 4294967000}, "10100000"},
		{impl.Mem{X: 1<<32 - 1, Y: 1<<32 - 1, M: 1<<64 - 1, S: 1<<16 - 1, E: 1<<32 - 1, Ran: true}, "10000000"},
	} {
		for n := range 8 {
			for _, a := range []impl.DevArg{operand(6, n, 0), operand(6, n+8, 0), operand(6, n-8, 0), operand(6, n+800, 3), operand(6, n-8000, -1)} {
				if b := impl.MemBit(c.m, a); b != (c.bits[n] == '1') {
					t.Errorf("%v of %q: %v", a, impl.MemText(c.m), b)
				}
			}
		}
	}
}

// What counts and whole numbers are asked for, written out.
func TestMemWholeAtItsEdges(t *testing.T) {
	for _, c := range []struct {
		count uint16
		v     int16
	}{{0, 0}, {1, 1}, {32766, 32766}, {32767, 32767}, {32768, 32767}, {40000, 32767}, {65534, 32767}, {65535, 32767}} {
		m := impl.Mem{}
		m.T[3].Count, m.C[15].Count = c.count, c.count
		for _, a := range []impl.DevArg{operand(7, 3, 0), operand(7, 19, 0), operand(7, -13, 2), operand(8, 15, 0), operand(8, -1, 0), operand(8, 31, 9)} {
			if v := impl.MemWhole(m, a); v != c.v {
				t.Errorf("%v with %d: %d, not %d", a, c.count, v, c.v)
			}
		}
		if impl.MemWhole(m, operand(7, 4, 0)) != 0 || impl.MemWhole(m, operand(8, 3, 0)) != 0 {
			t.Errorf("%d: others count too", c.count)
		}
	}
	for _, c := range []struct {
		n int
		v int16
	}{
		{0, 0}, {32767, 32767}, {32768, -32768}, {65535, -1}, {65536, 0}, {65537, 1}, {-1, -1}, {-32768, -32768}, {-32769, 32767}, {-65536, 0}, {-65537, -1}, {1<<32 + 7, 7}, {-1<<32 - 7, -7},
		{math.MaxInt, -1}, {math.MinInt, 0}, {math.MinInt + 1, 1},
	} {
		for _, p := range []int{0, 1, -1} {
			if v := impl.MemWhole(fullMem(), operand(11, c.n, p)); v != c.v {
				t.Errorf("%d: %d, not %d", c.n, v, c.v)
			}
		}
	}
}

// What real numbers are asked for, written out: P counts just with decimal numbers and words.
func TestMemRealAtItsEdges(t *testing.T) {
	m := fullMem()
	m.R = [16]float64{0: negZero(), 1: math.NaN(), 2: math.Inf(1), 3: math.Inf(-1), 4: 5e-324, 5: math.MaxFloat64, 15: 2.5}
	for _, c := range []struct {
		a impl.DevArg
		x float64
	}{
		{operand(10, 0, 0), negZero()}, {operand(10, 1, 0), math.NaN()}, {operand(10, 2, 0), math.Inf(1)}, {operand(10, 3, 0), math.Inf(-1)}, {operand(10, 4, 0), 5e-324}, {operand(10, 5, 0), math.MaxFloat64}, {operand(10, 6, 0), 0},
		{operand(10, 15, 0), 2.5}, {operand(10, -1, 0), 2.5}, {operand(10, 16, 0), negZero()}, {operand(10, -16, 0), negZero()}, {operand(10, 15, 1), 2.5}, {operand(10, 31, -4), 2.5}, {operand(10, math.MaxInt, 0), 2.5}, {operand(10, math.MinInt, 0), negZero()},
		{operand(12, 5, 1), 0.5}, {operand(12, -5, 1), -0.5}, {operand(12, 5, 0), 0}, {operand(12, 5, 7), 0}, {operand(12, 50, 2), 0}, {operand(12, 1000000000, 1), 0}, {operand(12, 0, 1), 0},
		{operand(13, 0, 0), math.NaN()}, {operand(13, 1, 0), math.Inf(1)}, {operand(13, 2, 0), math.Inf(-1)}, {operand(13, 3, 0), negZero()}, {operand(13, 4, 0), 0}, {operand(13, -1, 0), 0}, {operand(13, 1, 1), 0},
		{operand(11, 7, 0), 0}, {operand(9, 0, 0), 0}, {operand(7, 0, 0), 0}, {operand(1, 0, 0), 0}, {operand(0, 0, 0), 0}, {operand(14, 0, 0), 0},
	} {
		if x := impl.MemReal(m, c.a); !sameReal(x, c.x) {
			t.Errorf("%v: %v, not %v", c.a, x, c.x)
		}
	}
}

// P15, for bits: by every operand, into memories of all sorts, and into each place of one with nothing in it and of one with all.
func TestMemPut(t *testing.T) {
	for _, a := range everyOperand() {
		for _, m := range someMems() {
			for _, b := range []bool{false, true} {
				kept, want := m, m
				if a.Kind >= 2 && a.Kind <= 5 {
					want = withBit(m, a.Kind, placeOf(a), b)
				}
				got := impl.MemPut(m, a, b)
				if !sameMem(got, want) {
					t.Errorf("%v put to %v: %q, not %q", a, b, impl.MemText(got), strings.Join(memWords(want), " "))
				}
				if !sameMem(m, kept) {
					t.Errorf("%v: written into", a)
				}
				if a.Kind >= 2 && a.Kind <= 5 && impl.MemBit(got, a) != b {
					t.Errorf("%v put to %v: %v", a, b, impl.MemBit(got, a))
				}
			}
		}
	}
}

// P15, for whole numbers.
func TestMemPutWhole(t *testing.T) {
	for _, a := range everyOperand() {
		for _, m := range someMems() {
			for _, v := range []int16{0, 1, -1, 257, 32767, -32768} {
				want := m
				if a.Kind == 9 {
					want.D[placeOf(a)] = v
				}
				got := impl.MemPutWhole(m, a, v)
				if !sameMem(got, want) {
					t.Errorf("%v put to %d: %q, not %q", a, v, impl.MemText(got), strings.Join(memWords(want), " "))
				}
				if a.Kind == 9 && impl.MemWhole(got, a) != v {
					t.Errorf("%v put to %d: %d", a, v, impl.MemWhole(got, a))
				}
			}
		}
	}
}

// P15, for real numbers.
func TestMemPutReal(t *testing.T) {
	for _, a := range everyOperand() {
		for _, m := range someMems() {
			for _, x := range []float64{0, negZero(), math.NaN(), math.Inf(1), math.Inf(-1), 5e-324, -math.MaxFloat64, 0.1} {
				want := m
				if a.Kind == 10 {
					want.R[placeOf(a)] = x
				}
				got := impl.MemPutReal(m, a, x)
				if !sameMem(got, want) {
					t.Errorf("%v put to %v: %q, not %q", a, x, impl.MemText(got), strings.Join(memWords(want), " "))
				}
				if a.Kind == 10 && !sameReal(impl.MemReal(got, a), x) {
					t.Errorf("%v put to %v: %v", a, x, impl.MemReal(got, a))
				}
			}
		}
	}
}

// P15, as it is asked: behind a put every other device asks for what it asked for.
func TestMemPutTouchesOneDevice(t *testing.T) {
	for _, m := range append(anyMems(3), impl.Mem{}, fullMem()) {
		for _, put := range devices() {
			behind := []impl.Mem{impl.MemPut(m, put.a, !impl.MemBit(m, put.a)), impl.MemPutWhole(m, put.a, ^impl.MemWhole(m, put.a)), impl.MemPutReal(m, put.a, 77.5)}
			for _, other := range devices() {
				for i, got := range behind {
					bit, whole, real := impl.MemBit(got, other.a) == impl.MemBit(m, other.a), impl.MemWhole(got, other.a) == impl.MemWhole(m, other.a), sameReal(impl.MemReal(got, other.a), impl.MemReal(m, other.a))
					here := other == put
					if bit == (here && i == 0 && strings.Contains("YMSE", put.text[:1])) || whole == (here && i == 1 && put.text[0] == 'D') || real == (here && i == 2 && put.text[0] == 'R') {
						t.Errorf("%s put, by way %d: %s asks for the same: %v %v %v", put.text, i, other.text, bit, whole, real)
					}
				}
			}
		}
	}
}

// P18: an operand and the one a round on, or some rounds on or back, ask and put the same.
func TestPlacesAreCountedRound(t *testing.T) {
	for _, w := range devices() {
		round := rounds(w.a.Kind)
		for _, m := range append(anyMems(2), fullMem(), impl.Mem{}) {
			for _, times := range []int{1, -1, 2, -2, 3, 1000, -1000, 1 << 40, -1 << 40, math.MaxInt/round - 1, math.MinInt / round} {
				on := operand(w.a.Kind, w.a.N+times*round, 0)
				if impl.MemBit(m, w.a) != impl.MemBit(m, on) || impl.MemWhole(m, w.a) != impl.MemWhole(m, on) || !sameReal(impl.MemReal(m, w.a), impl.MemReal(m, on)) {
					t.Errorf("%s and %v ask for other things", w.text, on)
				}
				for _, b := range []bool{false, true} {
					if !sameMem(impl.MemPut(m, w.a, b), impl.MemPut(m, on, b)) {
						t.Errorf("%s and %v put other bits", w.text, on)
					}
				}
				if !sameMem(impl.MemPutWhole(m, w.a, 5), impl.MemPutWhole(m, on, 5)) || !sameMem(impl.MemPutReal(m, w.a, 5), impl.MemPutReal(m, on, 5)) {
					t.Errorf("%s and %v put other numbers", w.text, on)
				}
			}
		}
	}
}

// P16, by texts that are written out here.
func TestMemsWrittenOut(t *testing.T) {
	timers, counters := [16]impl.MemTimer{0: {Count: 1}, 1: {Done: true}, 2: {Count: 65535}, 15: {Done: true, Count: 32768}}, [16]impl.MemCounter{0: {Count: 1}, 1: {Done: true}, 2: {Last: true}, 3: {Done: true, Last: true}, 15: {Done: true, Last: true, Count: 65535}}
	for _, c := range []struct {
		m    impl.Mem
		text string
	}{
		{impl.Mem{}, ""}, {impl.Mem{X: 1}, "X0"}, {impl.Mem{X: 1 << 31, Y: 3, M: 1<<63 + 1, S: 1 << 15, E: 1<<31 + 1<<10}, "X31 Y0 Y1 M0 M63 S15 E10 E31"}, {impl.Mem{T: timers}, "T0=1 T1=0! T2=65535 T15=32768!"},
		{impl.Mem{C: counters}, "C0=1 C1=0! C2=0+ C3=0!+ C15=65535!+"}, {impl.Mem{D: [32]int16{0: 1, 9: -32768, 10: 32767, 31: -1}}, "D0=1 D9=-32768 D10=32767 D31=-1"},
		{impl.Mem{R: [16]float64{0: negZero(), 1: math.NaN(), 2: math.Inf(1), 3: math.Inf(-1), 4: 5e-324, 5: math.MaxFloat64, 6: -2.5, 15: 3}}, "R0=-0 R1=nan R2=inf R3=-inf R4=1*2^-1074 R5=9007199254740991*2^971 R6=-5*2^-1 R15=3*2^0"},
		{impl.Mem{Time: 4294967295}, "time=4294967295"}, {impl.Mem{Time: 1, Ran: true, Fault: true}, "time=1 ran fault"}, {impl.Mem{Fault: true}, "fault"}, {impl.Mem{Ran: true}, "ran"},
		{impl.Mem{X: 2, Y: 2, M: 2, S: 2, E: 2, T: [16]impl.MemTimer{1: {Count: 1}}, C: [16]impl.MemCounter{1: {Count: 1}}, D: [32]int16{1: 1}, R: [16]float64{1: 1}, Time: 10, Ran: true, Fault: true}, "X1 Y1 M1 S1 E1 T1=1 C1=1 D1=1 R1=1*2^0 time=10 ran fault"},
	} {
		if text := impl.MemText(c.m); text != c.text {
			t.Errorf("written as %q, not %q", text, c.text)
		}
		if m, ok := impl.MemRead(c.text); !ok || !sameMem(m, c.m) {
			t.Errorf("%q: read as %q %v", c.text, strings.Join(memWords(m), " "), ok)
		}
	}
}

// P16: memories of all sorts are written as the document says, and read back.
func TestMemsBothWays(t *testing.T) {
	for _, m := range slices.Concat(singleMems(), anyMems(1000), someMems()) {
		text := strings.Join(memWords(m), " ")
		if got := impl.MemText(m); got != text {
			t.Errorf("written as %q, not %q", got, text)
		}
		if got, ok := impl.MemRead(text); !ok || !sameMem(got, m) || len(text) > impl.MemMaxText {
			t.Errorf("%q: read as %q %v", text, strings.Join(memWords(got), " "), ok)
		}
	}
}

// P16, for each Count and each whole number.
func TestMemNumbersBothWays(t *testing.T) {
	for n := range 65536 {
		m := impl.Mem{Time: uint32(n) << 16}
		m.T[9], m.C[10], m.D[11] = impl.MemTimer{Done: n%2 == 0, Count: uint16(n)}, impl.MemCounter{Last: n%3 == 0, Count: uint16(n)}, int16(n)
		text := strings.Join(memWords(m), " ")
		if got, ok := impl.MemRead(text); impl.MemText(m) != text || !ok || got != m {
			t.Fatalf("%d: written as %q, not %q; read as %q %v", n, impl.MemText(m), text, strings.Join(memWords(got), " "), ok)
		}
	}
}

// P16, for real numbers all over.
func TestMemRealsBothWays(t *testing.T) {
	for i, x := range manyReals() {
		m := impl.Mem{}
		m.R[i%16] = x
		if got, ok := impl.MemRead(impl.MemText(m)); !ok || !sameMem(got, m) || impl.MemText(m) != strings.Join(memWords(m), " ") {
			t.Errorf("%v: %q, read as %v %v", x, impl.MemText(m), got.R[i%16], ok)
		}
	}
}

// alikeMems are memories of which each is another one, some of them by one thing alone.
func alikeMems() []impl.Mem {
	m := fullMem()
	m.R = [16]float64{0: 1, 1: math.NaN(), 2: negZero(), 3: 0, 4: math.Inf(1)}
	all := append(singleMems(), impl.Mem{}, m)
	for kind := 1; kind <= 5; kind++ {
		for place := range rounds(kind) {
			all = append(all, withBit(m, kind, place, false))
		}
	}
	for i := range 16 {
		for way := range 6 {
			other := m
			switch way {
			case 0:
				other.T[i].Done = false
			case 1:
				other.T[i].Count--
			case 2:
				other.C[i].Done = false
			case 3:
				other.C[i].Last = false
			case 4:
				other.C[i].Count = 0
			case 5:
				other.R[i] = 7
			}
			all = append(all, other)
		}
	}
	for i := range m.D {
		other := m
		other.D[i]++
		all = append(all, other)
	}
	for way := range 7 {
		other := m
		switch way {
		case 0:
			other.Time--
		case 1:
			other.Ran = false
		case 2:
			other.Fault = false
		case 3:
			other.R[1] = 0
		case 4:
			other.R[2] = 0
		case 5:
			other.R[3] = negZero()
		case 6:
			other.R[4] = math.NaN()
		}
		all = append(all, other)
	}
	return all
}

// P16 and P17: unlike memories have unlike texts, and MemSame tells so, either way round.
func TestUnlikeMems(t *testing.T) {
	all := alikeMems()
	texts := []string{}
	for _, m := range all {
		texts = append(texts, impl.MemText(m))
	}
	for i, a := range all {
		for j, b := range all {
			if same := impl.MemSame(a, b); same != (i == j) || same != (texts[i] == texts[j]) {
				t.Errorf("%q and %q: %v", texts[i], texts[j], same)
			}
		}
	}
}

// P17: all that are no number are one, whatever their bits are; the two of 0 are two.
func TestMemSameWithNanAndZero(t *testing.T) {
	nans := []float64{math.NaN(), -math.NaN(), math.Float64frombits(0x7ff0000000000001), math.Float64frombits(0xffffffffffffffff), math.Float64frombits(0xfff8000000000000)}
	reals := append([]float64{0, negZero(), math.Inf(1), math.Inf(-1), 5e-324, -5e-324, 1, math.MaxFloat64}, nans...)
	for i := range 16 {
		for _, x := range reals {
			for _, y := range reals {
				a, b := impl.Mem{M: 5}, impl.Mem{M: 5}
				a.R[i], b.R[i] = x, y
				same := sameReal(x, y)
				if impl.MemSame(a, b) != same || impl.MemSame(b, a) != same || (impl.MemText(a) == impl.MemText(b)) != same {
					t.Errorf("R%d: %v and %v: %v %v, %q %q", i, x, y, impl.MemSame(a, b), impl.MemSame(b, a), impl.MemText(a), impl.MemText(b))
				}
				b.M = 4
				if impl.MemSame(a, b) || impl.MemSame(b, a) {
					t.Errorf("R%d: %v and %v: the marks are not looked at", i, x, y)
				}
			}
		}
	}
}

var (
	bitForm     = regexp.MustCompile(`^([XYMSE])(0|[1-9][0-9]?)$`)
	timerForm   = regexp.MustCompile(`^T(0|[1-9][0-9]?)=(0|[1-9][0-9]*)(!?)$`)
	counterForm = regexp.MustCompile(`^C(0|[1-9][0-9]?)=(0|[1-9][0-9]*)(!?)(\+?)$`)
	registForm  = regexp.MustCompile(`^D(0|[1-9][0-9]?)=(-?[1-9][0-9]*)$`)
	realForm    = regexp.MustCompile(`^R(0|[1-9][0-9]?)=(.+)$`)
	timeForm    = regexp.MustCompile(`^time=([1-9][0-9]*)$`)
)

// digitsIn is the number with these digits, if it is from least to most.
func digitsIn(digits string, least, most int64) (int64, bool) {
	n, err := strconv.ParseInt(digits, 10, 64)
	return n, err == nil && n >= least && n <= most
}

// wordOf is the memory with a word of a text, and the word's place in the order; -1, if it is no word.
func wordOf(m impl.Mem, word string) (impl.Mem, int) {
	if word == "ran" || word == "fault" {
		m.Ran, m.Fault = m.Ran || word == "ran", m.Fault || word == "fault"
		return m, map[string]int{"ran": 1201, "fault": 1202}[word]
	}
	if found := timeForm.FindStringSubmatch(word); found != nil {
		ticks, ok := digitsIn(found[1], 1, 4294967295)
		m.Time = uint32(ticks)
		return m, placeIf(ok, 1200)
	}
	for _, form := range []*regexp.Regexp{timerForm, counterForm, registForm, realForm} {
		if found := form.FindStringSubmatch(word); found != nil {
			return valueOf(m, word[0], found)
		}
	}
	found := bitForm.FindStringSubmatch(word)
	if found == nil {
		return m, -1
	}
	kind := strings.Index("XYMSE", found[1]) + 1
	n, ok := digitsIn(found[2], 0, int64(rounds(kind))-1)
	if !ok {
		return m, -1
	}
	return withBit(m, kind, int(n), true), kind*100 + int(n)
}

func placeIf(ok bool, place int) int {
	if !ok {
		return -1
	}
	return place
}

// valueOf is wordOf for a timer, a counter or a register.
func valueOf(m impl.Mem, letter byte, found []string) (impl.Mem, int) {
	kind := strings.IndexByte("TCDR", letter) + 7
	place, ok := digitsIn(found[1], 0, int64(rounds(kind))-1)
	if !ok {
		return m, -1
	}
	switch letter {
	case 'T':
		count, fits := digitsIn(found[2], 0, 65535)
		m.T[place] = impl.MemTimer{Done: found[3] == "!", Count: uint16(count)}
		ok = fits && (count > 0 || found[3] == "!")
	case 'C':
		count, fits := digitsIn(found[2], 0, 65535)
		m.C[place] = impl.MemCounter{Done: found[3] == "!", Last: found[4] == "+", Count: uint16(count)}
		ok = fits && (count > 0 || found[3] == "!" || found[4] == "+")
	case 'D':
		v, fits := digitsIn(found[2], -32768, 32767)
		m.D[place], ok = int16(v), fits
	case 'R':
		m.R[place], ok = impl.RealRead(found[2])
		ok = ok && found[2] != "0"
	}
	return m, placeIf(ok, kind*100+int(place))
}

// memOf is the memory of a text, by the document.
func memOf(text string) (impl.Mem, bool) {
	m, before := impl.Mem{}, -1
	if text == "" {
		return m, true
	}
	for _, word := range strings.Split(text, " ") {
		place := -1
		if m, place = wordOf(m, word); place <= before {
			return impl.Mem{}, false
		}
		before = place
	}
	return m, len(text) <= 6000
}

// checkMemText holds what is read of a text against the document.
func checkMemText(t *testing.T, text string) {
	t.Helper()
	want, fine := memOf(text)
	got, ok := impl.MemRead(text)
	if ok != fine || !sameMem(got, want) {
		t.Errorf("%.200q: read as %q %v, not %q %v", text, strings.Join(memWords(got), " "), ok, strings.Join(memWords(want), " "), fine)
	}
	if ok && impl.MemText(got) != text {
		t.Errorf("%q: written as %q", text, impl.MemText(got))
	}
}

// P16, with wrong texts.
func TestWrongTextsOfMems(t *testing.T) {
	for _, text := range []string{
		" ", "  ", "X0 ", " X0", "X0  X1", "X0\tX1", "X0\nX1", "X0\n", "X0,X1", "X0X1", "X1 X0", "X0 X0", "Y0 X0", "M0 Y0", "S0 M0", "E0 S0", "T0=1 E0", "C0=1 T0=1", "D0=1 C0=1", "R0=1*2^0 D0=1", "time=1 R0=nan", "ran time=1", "fault ran", "fault time=1", "ran X0", "X10 X9", "D2=1 D1=1", "D1=1 D1=1", "D1=1 D1=2",
		"T1=1 T1=2", "C1=1 C1=1", "R1=nan R1=nan", "time=1 time=1", "time=1 time=2", "ran ran", "fault fault", "X32", "Y32", "M64", "S16", "E32", "X100", "X-1", "X01", "X00", "X", "x0", "X+1", "X0=1", "X0=0", "X0=", "X0!", "/X0", "G0", "G1", "G4", "G5", "G0=1", "5", "0", "-5", "1.5", "nan", "-0.0", "nan=1", "5=5",
		"T1", "T1=", "T1=0", "T1=0!!", "T1=!", "T1=00", "T1=01", "T01=1", "T16=1", "T-1=1", "T1=65536", "T1=131073", "T1=4294967297", "T1=18446744073709551617", "T1=-1", "T1=+1", "T1=1+", "T1=1!+", "T1=!1", "T1=1 !", "T1 =1", "T1= 1", "T1==1", "T1=1=1", "T1=0x1", "T1=1_0", "T1=1e1", "T1=1.0", "t1=1",
		"C1", "C1=", "C1=0", "C1=1+!", "C1=0+!", "C1=1++", "C1=1!!", "C1=1!+!", "C1=!+", "C1=+", "C1=+1", "C01=1", "C16=1", "C1=65536", "C1=-1", "C1=01+", "C1=1 +", "C1=00+",
		"D1", "D1=", "D1=0", "D1=-0", "D1=+1", "D1=01", "D1=-01", "D1=32768", "D1=-32769", "D1=65537", "D1=4294967297", "D01=1", "D32=1", "D1=1!", "D1=1+", "D1=1.0", "D1=-", "D1=--1", "D1=nan",
		"R1", "R1=", "R1=0", "R1=+0", "R1=0.0", "R1=-0.0", "R1=1", "R1=1.50", "R1=1.5", "R1=2*2^0", "R1=1*2^00", "R1=1*2^+1", "R1=-1*2^-0", "R1=NaN", "R1=-nan", "R1=Inf", "R1=+inf", "R1=1*2^1024", "R1=1*2^-1075", "R1=9007199254740993*2^0", "R01=nan", "R16=nan", "R1=nan!", "R1==nan", "R1=-0!",
		"time", "time=", "time=0", "time=00", "time=01", "time=-1", "time=+1", "time=4294967296", "time=4294967297", "time=8589934593", "time=18446744073709551617", "time=1.0", "time=1!", "Time=1", "time 1", "times=1",
		"ran=", "ran=1", "fault=1", "Ran", "RAN", "ran!", "ranfault", "fault=", "run", "none", "=", "=1", "!", "+", "E1=1", "S1=1",
		"\xff", "X0\xff", "\xffX0", "X0 \xff", "\xff X0", "X0\xffX1", "T1=\xff", "T1=1\xff", "R1=\xff", "time=\xff", "time=1\xff", "ran\xff", "\xc3\x28", "X0\x00", "\x00", "\u00a0", "X0\u00a0X1", "X0\u2003X1", "\ufffd", "X\u0660", "T1=\u0661", "\u0425" + "0", "X\uff10", "D1=\u22121",
	} {
		if m, ok := impl.MemRead(text); ok || m != (impl.Mem{}) {
			t.Errorf("%q: read as %q %v", text, strings.Join(memWords(m), " "), ok)
		}
		checkMemText(t, text)
	}
}

// P16, with texts that are too long, and one that is as long as may be.
func TestLongTextsOfMems(t *testing.T) {
	full := impl.MemText(fullMem())
	for _, text := range []string{
		strings.Repeat(" ", 6000), strings.Repeat(" ", 6001), strings.Repeat("X0 ", 2000), strings.Repeat("X0 ", 2000) + "X", strings.Repeat("x", 6000), strings.Repeat("x", 6001), strings.Repeat("x", 1000000),
		full + strings.Repeat(" ", 6000-len(full)), full + strings.Repeat(" ", 6001-len(full)), strings.Repeat(full+" ", 100), "T1=" + strings.Repeat("0", 7000) + "1", "T1=" + strings.Repeat("9", 5000), "X" + strings.Repeat("0", 5990), strings.Repeat("\xff", 6000), strings.Repeat("\xff", 6001),
		strings.Repeat("=", 6000), "C1=1" + strings.Repeat("!", 5000), "C1=1" + strings.Repeat("+", 5000), "R1=" + strings.Repeat("1", 5000) + "*2^0", strings.Repeat(" ", 7000) + "X0",
	} {
		if m, ok := impl.MemRead(text); ok || m != (impl.Mem{}) {
			t.Errorf("%.50q: read as %q %v", text, strings.Join(memWords(m), " "), ok)
		}
	}
}

// P16, from the text: words one behind the other, in each order.
func TestMemReadOfShortTexts(t *testing.T) {
	words := []string{"X0", "X31", "Y1", "M63", "S2", "E3", "T1=5", "T2=0!", "C0=0+", "C1=7!+", "D1=-7", "D31=1", "R1=-0", "R2=5*2^-1", "time=9", "ran", "fault", "", "G1", "T1=0", "D1=0", "R3=0"}
	for _, a := range words {
		checkMemText(t, a)
		for _, b := range words {
			checkMemText(t, a+" "+b)
			for _, c := range words {
				checkMemText(t, a+" "+b+" "+c)
			}
		}
	}
}

// P16, from the text: behind a word's name and sign each value.
func TestMemReadOfValues(t *testing.T) {
	for _, name := range []string{"T0", "T9", "T15", "T16", "C0", "C15", "C16", "D0", "D31", "D32", "R0", "R15", "R16", "X0", "G0", "time", "ran", "fault", ""} {
		for _, value := range []string{"", "0", "1", "7", "10", "007", "-0", "-1", "+1", "32767", "32768", "-32768", "-32769", "65535", "65536", "70000", "4294967295", "4294967296", "9223372036854775808", "nan", "inf", "-inf", "1*2^0", "-3*2^-7", "0*2^0", "4*2^0"} {
			for _, mark := range []string{"", "!", "+", "!+", "+!", "!!", "++", " ", "=", "-"} {
				checkMemText(t, name+"="+value+mark)
				checkMemText(t, name+value+mark)
			}
		}
	}
}

// P16, from the text: one byte is another, one is put in, or one is lost.
func TestMemReadOfSpoiltTexts(t *testing.T) {
	for _, whole := range []string{"X0 X31 Y9 M63 S15 E1", "T1=40000! T12=7 C2=0+ C13=10!+", "D1=-32768 D10=7 R0=5*2^-1 R15=-0", "R1=nan R2=-inf time=1500 ran fault"} {
		checkMemText(t, whole)
		for i := range len(whole) {
			checkMemText(t, whole[:i]+whole[i+1:])
		}
		for i := range len(whole) + 1 {
			for sign := range 256 {
				mid := string([]byte{byte(sign)})
				checkMemText(t, whole[:i]+mid+whole[i:])
				checkMemText(t, whole[:i]+mid+whole[min(i+1, len(whole)):])
			}
		}
	}
}
