package tests

import (
	"math"
	"math/big"
	"slices"
	"testing"

	"loop.example/stile/impl"
)

// argOf is an operand of a contact or coil; nothing, if it has it not.
func argOf(e impl.Elem, place int) impl.DevArg {
	if place < len(e.Args) {
		return e.Args[place]
	}
	return impl.DevArg{}
}

// signTells is what a sign says of two real numbers.
func signTells(sign string, a, b float64) bool {
	switch {
	case a < b:
		return signHolds(sign, -1)
	case a > b:
		return signHolds(sign, 1)
	case a == b:
		return signHolds(sign, 0)
	}
	return sign == "<>"
}

// saidBy is what the document says of ActTest.
func saidBy(m impl.Mem, e impl.Elem) (impl.Mem, bool) {
	a, b := argOf(e, 0), argOf(e, 1)
	switch e.Op {
	case 1, 2:
		return m, askedBit(m, a) == (e.Op == 1)
	case 3, 4:
		now, was := askedBit(m, a), false
		if b.Kind == 5 {
			was = askedBit(m, b)
			m = withBit(m, 5, placeOf(b), now)
		}
		if e.Op == 3 {
			return m, now && !was
		}
		return m, was && !now
	case 5, 6, 7, 8, 9, 10:
		sign := cmpSigns()[e.Op-5]
		if a.Kind == 10 || a.Kind == 12 || a.Kind == 13 {
			return m, signTells(sign, askedReal(m, a), askedReal(m, b))
		}
		return m, signHolds(sign, sideOf(int(askedWhole(m, a)), int(askedWhole(m, b))))
	}
	return m, false
}

// bitPut is the memory with what an operand asks for put, if it may be and is no E.
func bitPut(m impl.Mem, a impl.DevArg, b bool) impl.Mem {
	if a.Kind == 2 || a.Kind == 3 || a.Kind == 4 {
		return withBit(m, a.Kind, placeOf(a), b)
	}
	return m
}

// doneBy is what the document says of ActDo.
func doneBy(m impl.Mem, e impl.Elem, v bool, dt uint16) impl.Mem {
	a, b := argOf(e, 0), argOf(e, 1)
	switch e.Op {
	case 21:
		return bitPut(m, a, v)
	case 24:
		was := b.Kind == 5 && askedBit(m, b)
		m = bitPut(m, a, v && !was)
		if b.Kind == 5 {
			m = withBit(m, 5, placeOf(b), v)
		}
		return m
	case 26, 27, 28:
		if a.Kind == 7 {
			m.T[placeOf(a)] = timerBehind(m.T[placeOf(a)], e.Op, max(int(askedWhole(m, b)), 0), v, int(dt))
		}
		return m
	case 29:
		if a.Kind == 8 {
			m.C[placeOf(a)] = counterBehind(m.C[placeOf(a)], max(int(askedWhole(m, b)), 0), v)
		}
		return m
	}
	if v {
		return drivenBy(m, e.Op, a, b, argOf(e, 2))
	}
	return m
}

func timerBehind(timer impl.MemTimer, op, preset int, v bool, dt int) impl.MemTimer {
	count := int(timer.Count) + dt
	if count > preset {
		count = preset
	}
	switch {
	case op == 28 && v:
		return impl.MemTimer{Done: true}
	case op == 28 && timer.Done && count < preset:
		return impl.MemTimer{Done: true, Count: uint16(count)}
	case op == 28:
		return impl.MemTimer{}
	case v:
		return impl.MemTimer{Done: count >= preset, Count: uint16(count)}
	case op == 27:
		return timer
	}
	return impl.MemTimer{}
}

func counterBehind(counter impl.MemCounter, preset int, v bool) impl.MemCounter {
	count := int(counter.Count)
	if v && !counter.Last && count < 65535 {
		count++
	}
	return impl.MemCounter{Done: count >= preset, Last: v, Count: uint16(count)}
}

// drivenBy is what the coils do that do nothing without current.
func drivenBy(m impl.Mem, op int, a, b, c impl.DevArg) impl.Mem {
	switch {
	case op == 22:
		return bitPut(m, a, true)
	case op == 23 && a.Kind == 7:
		m.T[placeOf(a)] = impl.MemTimer{}
	case op == 23 && a.Kind == 8:
		m.C[placeOf(a)].Done, m.C[placeOf(a)].Count = false, 0
	case op == 23:
		return bitPut(m, a, false)
	case op == 25 && a.Kind == 4 && placeOf(a) < 8:
		m.S = m.S&0xff00 | 1<<placeOf(a)
	case op == 25 && a.Kind == 4:
		m.S = m.S&0x00ff | 1<<placeOf(a)
	case op == 36 && a.Kind == 10:
		m.R[placeOf(a)] = float64(askedWhole(m, b))
	case op >= 30 && op <= 35 && a.Kind == 10:
		x, y := askedReal(m, b), askedReal(m, c)
		m.R[placeOf(a)] = []float64{x, x + y, x - y, x * y, x / y, math.NaN()}[op-30]
	case op >= 30 && op <= 37 && op != 36:
		n, ok := wholeBy(m, op, b, c)
		if !ok {
			m.Fault = true
		} else if a.Kind == 9 {
			m.D[placeOf(a)] = n
		}
	}
	return m
}

// wholeBy is the whole number that a coil moves, reckons or cuts, if there is one.
func wholeBy(m impl.Mem, op int, b, c impl.DevArg) (int16, bool) {
	if op == 37 {
		x := math.Trunc(askedReal(m, b))
		if x >= -32768 && x <= 32767 {
			return int16(x), true
		}
		return 0, false
	}
	x, y := big.NewInt(int64(askedWhole(m, b))), big.NewInt(int64(askedWhole(m, c)))
	switch {
	case op == 31:
		x.Add(x, y)
	case op == 32:
		x.Sub(x, y)
	case op == 33:
		x.Mul(x, y)
	case op >= 34 && y.Sign() == 0:
		return 0, false
	case op == 34:
		x.Quo(x, y)
	case op == 35:
		x.Rem(x, y)
	}
	return counted(int(x.Int64())), true
}

// checkTest holds what a contact says, and what it leaves, against the document.
func checkTest(t *testing.T, m impl.Mem, e impl.Elem) {
	t.Helper()
	args := slices.Clone(e.Args)
	want, says := saidBy(m, e)
	got, b := impl.ActTest(m, e)
	if b != says || !sameMem(got, want) {
		t.Errorf("%v of %q: %v and %q, not %v and %q", e, impl.MemText(m), b, impl.MemText(got), says, impl.MemText(want))
	}
	if !slices.Equal(args, e.Args) {
		t.Errorf("%v: written into: %v", args, e.Args)
	}
}

// checkDo holds what a coil does against the document.
func checkDo(t *testing.T, m impl.Mem, e impl.Elem, v bool, dt uint16) {
	t.Helper()
	args := slices.Clone(e.Args)
	want := doneBy(m, e, v, dt)
	if got := impl.ActDo(m, e, v, dt); !sameMem(got, want) {
		t.Errorf("%v with %v and %d of %q: %q, not %q", e, v, dt, impl.MemText(m), impl.MemText(got), impl.MemText(want))
	}
	if !slices.Equal(args, e.Args) {
		t.Errorf("%v: written into: %v", args, e.Args)
	}
}

// checkAct holds a contact or coil against both calls, whichever it is.
func checkAct(t *testing.T, m impl.Mem, e impl.Elem, dt uint16) {
	t.Helper()
	checkTest(t, m, e)
	checkDo(t, m, e, false, dt)
	checkDo(t, m, e, true, dt)
}

// knownOps are the Ops of all contacts and coils.
func knownOps() []int {
	ops := []int{}
	for _, row := range elemRows() {
		ops = append(ops, row.op)
	}
	return ops
}

// actMems are few memories, in which nothing, all, and anything is on.
func actMems() []impl.Mem {
	mixed := impl.Mem{X: 0x80000005, Y: 2, M: 1<<63 + 5, S: 0x8203, E: 0x80000002, Time: 1500, Ran: true}
	for i := range 16 {
		mixed.T[i] = impl.MemTimer{Done: i%2 == 0, Count: uint16(i * 13)}
		mixed.C[i] = impl.MemCounter{Done: i%3 == 0, Last: i%2 == 1, Count: uint16(i*4369 - i%2)}
		mixed.D[i], mixed.D[i+16] = int16(i*i-100), int16(-i)
		mixed.R[i] = []float64{negZero(), math.NaN(), math.Inf(1), -2.5, 32767.5, 1e300, 0, 7}[i%8]
	}
	return append(anyMems(1), impl.Mem{}, fullMem(), mixed)
}

func dtOf(i int) uint16 {
	return []uint16{0, 1, 65535, 7}[i%4]
}

// P19 to P24: each Op with none, each one and each two of many operands, ok or not, and with what is no contact at ActTest and no coil at ActDo.
func TestActOfUpToTwoOperands(t *testing.T) {
	all := append(sampleOperands(), badOperands()...)
	mems := actMems()
	for _, op := range knownOps() {
		for i, m := range mems {
			checkAct(t, m, impl.Elem{Op: op}, dtOf(i))
			checkAct(t, m, impl.Elem{Op: op, Args: []impl.DevArg{}}, dtOf(i))
			for _, a := range all {
				checkAct(t, m, impl.Elem{Op: op, Args: []impl.DevArg{a.a}}, dtOf(i))
			}
		}
		for i, a := range all {
			for j, b := range all {
				checkAct(t, mems[(i+j)%len(mems)], impl.Elem{Op: op, Args: []impl.DevArg{a.a, b.a}}, dtOf(i))
			}
		}
	}
}

// P19 to P24: each Op with each three of some operands, and with one too many.
func TestActOfThreeOperands(t *testing.T) {
	firsts := []impl.DevArg{operand(3, 2, 0), operand(4, 9, 0), operand(5, 1, 0), operand(7, 3, 0), operand(8, 2, 0), operand(9, 1, 0), operand(9, -1, 4), operand(10, 1, 0), operand(10, 35, 1), operand(11, 5, 0), {}}
	others := []impl.DevArg{
		operand(1, 0, 0), operand(5, 31, 0), operand(7, 3, 0), operand(8, 15, 0), operand(9, 1, 0), operand(9, 10, 0), operand(9, 33, 0), operand(10, 0, 0), operand(10, 1, 0), operand(10, 3, 0), operand(10, -14, 2), operand(11, 0, 0), operand(11, -1, 0),
		operand(11, -32768, 0), operand(11, 65536, 0), operand(12, 25, 1), operand(12, 25, 9), operand(13, 0, 0), operand(13, 2, 0), operand(13, 3, 0), {},
	}
	mems := actMems()
	for _, op := range knownOps() {
		for i, a := range firsts {
			for j, b := range others {
				for k, c := range others {
					e := impl.Elem{Op: op, Args: []impl.DevArg{a, b, c}}
					if k%2 == 0 {
						e.Args = append(e.Args, others[i])
					}
					checkAct(t, mems[(i+j+k)%len(mems)], e, dtOf(k))
				}
			}
		}
	}
}

// P19 to P24: operands of every kind, counted round, below 0 and far beyond too, in each place.
func TestActOfEveryOperand(t *testing.T) {
	m := actMems()[3]
	for i, a := range everyOperand() {
		for _, op := range knownOps() {
			checkTest(t, m, impl.Elem{Op: op, Args: []impl.DevArg{a, operand(5, 1, 0)}})
			checkDo(t, m, impl.Elem{Op: op, Args: []impl.DevArg{a, operand(11, 9, 0), operand(11, 2, 0)}}, i%3 > 0, 5)
		}
		for _, op := range []int{3, 4, 24} {
			checkAct(t, m, impl.Elem{Op: op, Args: []impl.DevArg{operand(3, 2, 0), a}}, 0)
		}
		for _, op := range []int{5, 10, 26, 28, 29, 34, 35} {
			first := map[int]impl.DevArg{5: operand(9, 1, 0), 10: operand(10, 3, 0), 26: operand(7, 3, 0), 28: operand(7, 4, 0), 29: operand(8, 2, 0), 34: operand(10, 4, 0), 35: operand(9, 4, 0)}[op]
			checkAct(t, m, impl.Elem{Op: op, Args: []impl.DevArg{first, a, a}}, 3)
		}
		checkDo(t, m, impl.Elem{Op: 37, Args: []impl.DevArg{operand(9, 4, 0), a}}, true, 3)
		checkDo(t, m, impl.Elem{Op: 36, Args: []impl.DevArg{operand(10, 4, 0), a}}, true, 3)
	}
}

// With an Op that is none nothing is said and nothing is done.
func TestActOfNoSuchOp(t *testing.T) {
	all := append(sampleOperands(), badOperands()...)
	for _, op := range append(wrongElemOps(), 1<<32+5, 1<<32+22, -5, -22) {
		for i, m := range actMems() {
			for _, a := range all {
				for _, args := range [][]impl.DevArg{nil, {a.a}, {a.a, operand(5, 1, 0)}, {a.a, operand(11, 0, 0), operand(11, 0, 0)}, {a.a, a.a, a.a, a.a}} {
					e := impl.Elem{Op: op, Args: args}
					if got, b := impl.ActTest(m, e); b || !sameMem(got, m) {
						t.Errorf("%v of %q: %v and %q", e, impl.MemText(m), b, impl.MemText(got))
					}
					for _, v := range []bool{false, true} {
						if got := impl.ActDo(m, e, v, dtOf(i)); !sameMem(got, m) {
							t.Errorf("%v with %v of %q: %q", e, v, impl.MemText(m), impl.MemText(got))
						}
					}
				}
			}
		}
	}
}

// A coil says nothing, and a contact does nothing.
func TestContactsDoNothingAndCoilsSayNothing(t *testing.T) {
	for _, m := range someMems() {
		for _, text := range []string{"out:Y0", "set:M1", "reset:T1", "pulse:Y1,E1", "step:S1", "timer:T1,0", "hold:T1,5", "late:T1,5", "count:C1,1", "move:D1,5", "add:R1,R2,R3", "div:D1,D2,0", "rem:D1,5,0", "real:R1,5", "whole:D1,nan"} {
			if got, b := impl.ActTest(m, elemRead(t, text)); b || !sameMem(got, m) {
				t.Errorf("%s of %q: %v and %q", text, impl.MemText(m), b, impl.MemText(got))
			}
		}
		for _, text := range []string{"X0", "/X0", "G0", "/G1", "+G0:E0", "-G1:E1", "D1=D1", "R1<>R2", "T1>=0", "-inf<inf"} {
			for _, v := range []bool{false, true} {
				if got := impl.ActDo(m, elemRead(t, text), v, 9); !sameMem(got, m) {
					t.Errorf("%s of %q: %q", text, impl.MemText(m), impl.MemText(got))
				}
			}
		}
	}
}

func elemRead(t *testing.T, text string) impl.Elem {
	t.Helper()
	e, ok := impl.ElemRead(text)
	if !ok {
		t.Fatalf("%q is no contact or coil", text)
	}
	return e
}

func memRead(t *testing.T, text string) impl.Mem {
	t.Helper()
	m, ok := impl.MemRead(text)
	if !ok {
		t.Fatalf("%q is no memory", text)
	}
	return m
}

// A scan begins: written out.
func TestActStart(t *testing.T) {
	for _, c := range []struct {
		mem    string
		sample impl.ActSample
		want   string
	}{
		{"", impl.ActSample{}, ""}, {"X0 X9 fault", impl.ActSample{X: 1 << 31}, "X31"}, {"ran fault", impl.ActSample{X: 3, Dt: 65535}, "X0 X1 time=65535 ran"}, {"X31 Y1 M2 S3 E4 T5=6! C7=8!+ D9=10", impl.ActSample{}, "Y1 M2 S3 E4 T5=6! C7=8!+ D9=10"},
		{"time=4294967295", impl.ActSample{}, "time=4294967295"}, {"time=4294967295", impl.ActSample{Dt: 1}, ""}, {"time=4294967295", impl.ActSample{Dt: 2}, "time=1"}, {"time=4294967295", impl.ActSample{Dt: 65535}, "time=65534"},
		{"time=4294901760", impl.ActSample{Dt: 65535}, "time=4294967295"}, {"time=4294901761", impl.ActSample{Dt: 65535}, ""}, {"time=65535", impl.ActSample{Dt: 1}, "time=65536"}, {"time=7", impl.ActSample{Dt: 0}, "time=7"},
		{"R11=1*2^0 R12=1*2^0 R13=1*2^0 R14=1*2^0 R15=1*2^0", impl.ActSample{}, "R11=1*2^0"},
		{"R0=nan R11=-0", impl.ActSample{In: [4]float64{math.NaN(), negZero(), math.Inf(1), math.Inf(-1)}}, "R0=nan R11=-0 R12=nan R13=-0 R14=inf R15=-inf"},
		{"R12=nan R13=inf", impl.ActSample{In: [4]float64{1.5, 5e-324, 3, -1}}, "R12=3*2^-1 R13=1*2^-1074 R14=3*2^0 R15=-1*2^0"},
	} {
		if got := impl.MemText(impl.ActStart(memRead(t, c.mem), c.sample)); got != c.want {
			t.Errorf("%q with %v: %q, not %q", c.mem, c.sample, got, c.want)
		}
	}
}

// A scan begins and ends, on memories of all sorts.
func TestActStartAndEndTouchNoMore(t *testing.T) {
	reals := []float64{0, negZero(), math.NaN(), math.Inf(1), math.Inf(-1), 5e-324, math.MaxFloat64, -0.1}
	for i, m := range slices.Concat(someMems(), singleMems()) {
		for j, dt := range []uint16{0, 1, 500, 65535} {
			s := impl.ActSample{X: uint32(i*2654435761 + j), Dt: dt, In: [4]float64{reals[i%8], reals[(i+j)%8], reals[(i+3)%8], reals[(i+5)%8]}}
			want := m
			want.X, want.Time, want.Fault = s.X, uint32((uint64(m.Time)+uint64(dt))%(1<<32)), false
			want.R[12], want.R[13], want.R[14], want.R[15] = s.In[0], s.In[1], s.In[2], s.In[3]
			if got := impl.ActStart(m, s); !sameMem(got, want) {
				t.Errorf("%q with %v: %q, not %q", impl.MemText(m), s, impl.MemText(got), impl.MemText(want))
			}
		}
		want := m
		want.Ran = true
		if got := impl.ActEnd(m); !sameMem(got, want) {
			t.Errorf("%q ends: %q", impl.MemText(m), impl.MemText(got))
		}
	}
}

// P19 and P20: what contacts say, written out.
func TestContactsWrittenOut(t *testing.T) {
	for _, c := range []struct {
		mem, contact string
		b            bool
		want         string
	}{
		{"X3", "X3", true, "X3"}, {"X3", "/X3", false, "X3"}, {"X3", "X2", false, "X3"}, {"X3", "/X2", true, "X3"}, {"Y31", "Y31", true, "Y31"}, {"M63", "/M63", false, "M63"}, {"S15", "S15", true, "S15"}, {"T1=5", "T1", false, "T1=5"}, {"T1=0!", "T1", true, "T1=0!"}, {"C1=5+", "C1", false, "C1=5+"}, {"C1=0!", "/C1", false, "C1=0!"},
		{"", "G0", true, ""}, {"", "/G0", false, ""}, {"", "G1", false, ""}, {"", "/G1", true, ""}, {"", "G2", true, ""}, {"ran", "G2", false, "ran"}, {"fault", "G3", true, "fault"}, {"time=500", "G4", true, "time=500"},
		{"X3", "+X3:E1", true, "X3 E1"}, {"X3 E1", "+X3:E1", false, "X3 E1"}, {"E1", "+X3:E1", false, ""}, {"", "+X3:E1", false, ""}, {"X3 E2", "+X3:E1", true, "X3 E1 E2"}, {"", "+G0:E31", true, "E31"}, {"C2=0!", "+C2:E0", true, "E0 C2=0!"},
		{"X3", "-X3:E1", false, "X3 E1"}, {"X3 E1", "-X3:E1", false, "X3 E1"}, {"E1", "-X3:E1", true, ""}, {"", "-X3:E1", false, ""}, {"E1 E2", "-X3:E1", true, "E2"}, {"E31 T2=9", "-T2:E31", true, "T2=9"},
		{"D1=-3", "D1<-2", true, "D1=-3"}, {"D1=-3", "D1<-3", false, "D1=-3"}, {"D1=-3", "D1<=-3", true, "D1=-3"}, {"D1=-3", "D1=-3", true, "D1=-3"}, {"D1=-3", "D1<>-3", false, "D1=-3"}, {"D1=-3", "D1>=-3", true, "D1=-3"}, {"D1=-3", "D1>-3", false, "D1=-3"}, {"D1=-3", "D1>-4", true, "D1=-3"},
		{"", "-32768<32767", true, ""}, {"", "32767<-32768", false, ""}, {"T1=9", "T1>=9", true, "T1=9"}, {"T1=40000", "T1=32767", true, "T1=40000"},
		{"R1=nan", "R1<>R1", true, "R1=nan"}, {"R1=nan", "R1=R1", false, "R1=nan"}, {"R1=nan", "R1<=R1", false, "R1=nan"}, {"R1=nan", "R1>=R1", false, "R1=nan"}, {"R1=nan", "R1<0.0", false, "R1=nan"}, {"R1=nan", "R1>0.0", false, "R1=nan"}, {"R1=nan", "inf<>R1", true, "R1=nan"},
		{"R1=-0", "R1=0.0", true, "R1=-0"}, {"R1=-0", "R1<0.0", false, "R1=-0"}, {"R1=-0", "0.0>R1", false, "R1=-0"}, {"R1=-0", "R1<>-0.0", false, "R1=-0"}, {"R1=inf", "R1>99999999.9", true, "R1=inf"}, {"", "-inf<inf", true, ""}, {"", "nan=nan", false, ""}, {"", "nan<>nan", true, ""},
	} {
		got, b := impl.ActTest(memRead(t, c.mem), elemRead(t, c.contact))
		if b != c.b || impl.MemText(got) != c.want {
			t.Errorf("%s of %q: %v and %q, not %v and %q", c.contact, c.mem, b, impl.MemText(got), c.b, c.want)
		}
	}
}

// P19 and P20: contacts that are not ok, written out.
func TestOddContactsWrittenOut(t *testing.T) {
	x, e, one, inf, nan, half := operand(1, 3, 0), operand(5, 1, 0), operand(11, 1, 0), operand(13, 1, 0), operand(13, 0, 0), operand(12, 5, 1)
	for _, c := range []struct {
		mem  string
		op   int
		args []impl.DevArg
		b    bool
		want string
	}{
		{"X0 E0", 1, nil, false, "X0 E0"}, {"X0 E0", 2, nil, true, "X0 E0"}, {"E1", 1, []impl.DevArg{e}, true, "E1"}, {"E1", 2, []impl.DevArg{e}, false, "E1"}, {"D1=1", 1, []impl.DevArg{operand(9, 1, 0)}, false, "D1=1"}, {"D1=1", 2, []impl.DevArg{operand(9, 1, 0)}, true, "D1=1"},
		{"X3 E1", 1, []impl.DevArg{x, e, one}, true, "X3 E1"}, {"X3", 1, []impl.DevArg{operand(1, 35, 0)}, true, "X3"}, {"X3", 1, []impl.DevArg{operand(1, -29, 5)}, true, "X3"}, {"", 1, []impl.DevArg{operand(6, 8, 0)}, true, ""}, {"", 1, []impl.DevArg{operand(6, 5, 0)}, false, ""},
		{"E0", 3, nil, false, "E0"}, {"E0", 4, nil, false, "E0"}, {"X3 E1", 3, []impl.DevArg{x}, true, "X3 E1"}, {"E1", 4, []impl.DevArg{x}, false, "E1"},
		{"X3 M1", 3, []impl.DevArg{x, operand(3, 1, 0)}, true, "X3 M1"}, {"M1", 4, []impl.DevArg{x, operand(3, 1, 0)}, false, "M1"}, {"X3", 3, []impl.DevArg{x, operand(2, 1, 0)}, true, "X3"}, {"X3", 3, []impl.DevArg{x, {}}, true, "X3"}, {"", 4, []impl.DevArg{x, operand(6, 0, 0)}, false, ""},
		{"X3", 3, []impl.DevArg{x, operand(5, -1, 0)}, true, "X3 E31"}, {"X3", 3, []impl.DevArg{x, operand(5, 33, 7)}, true, "X3 E1"}, {"E31", 4, []impl.DevArg{x, operand(5, 63, 0)}, true, ""}, {"X3", 3, []impl.DevArg{x, e, e, operand(5, 2, 0)}, true, "X3 E1"},
		{"E1", 3, []impl.DevArg{e, e}, false, "E1"}, {"", 3, []impl.DevArg{e, e}, false, ""}, {"E1", 4, []impl.DevArg{e, e}, false, "E1"}, {"E2", 3, []impl.DevArg{operand(5, 2, 0), e}, true, "E1 E2"}, {"E1", 4, []impl.DevArg{operand(5, 2, 0), e}, true, ""}, {"E1", 4, []impl.DevArg{{}, e}, true, ""},
		{"D0=5", 5, nil, false, "D0=5"}, {"D0=5", 6, nil, true, "D0=5"}, {"D0=5", 7, nil, true, "D0=5"}, {"", 8, nil, false, ""}, {"", 9, nil, true, ""}, {"", 10, nil, false, ""}, {"", 10, []impl.DevArg{one}, true, ""}, {"", 5, []impl.DevArg{one}, false, ""}, {"", 10, []impl.DevArg{half}, true, ""},
		{"", 7, []impl.DevArg{one, half}, false, ""}, {"", 10, []impl.DevArg{one, inf}, true, ""}, {"", 7, []impl.DevArg{operand(11, 0, 0), nan}, true, ""}, {"", 7, []impl.DevArg{nan, operand(11, 0, 0)}, false, ""}, {"", 8, []impl.DevArg{nan, operand(11, 0, 0)}, true, ""}, {"", 10, []impl.DevArg{inf, operand(11, 32767, 0)}, true, ""},
		{"D1=1 R1=nan", 7, []impl.DevArg{operand(9, 1, 0), operand(10, 1, 0)}, false, "D1=1 R1=nan"}, {"R1=nan", 7, []impl.DevArg{operand(9, 1, 0), operand(10, 1, 0)}, true, "R1=nan"}, {"D1=1", 10, []impl.DevArg{half, operand(9, 1, 0)}, true, "D1=1"}, {"D1=1", 7, []impl.DevArg{operand(10, 1, 0), operand(9, 1, 0)}, true, "D1=1"},
		{"D1=1 D2=2", 5, []impl.DevArg{operand(9, 33, 0), operand(9, -30, 0), operand(9, 0, 0)}, true, "D1=1 D2=2"}, {"", 7, []impl.DevArg{operand(11, 65536, 0), operand(11, 0, 3)}, true, ""}, {"", 7, []impl.DevArg{operand(12, 10, 2), operand(12, 0, 1)}, true, ""}, {"X0", 7, []impl.DevArg{operand(1, 0, 0), operand(11, 0, 0)}, true, "X0"},
	} {
		got, b := impl.ActTest(memRead(t, c.mem), impl.Elem{Op: c.op, Args: c.args})
		if b != c.b || impl.MemText(got) != c.want {
			t.Errorf("%d %v of %q: %v and %q, not %v and %q", c.op, c.args, c.mem, b, impl.MemText(got), c.b, c.want)
		}
	}
}

// P19: shut is the opposite of open, and no contact but an edge changes the memory; an edge changes its E alone.
func TestContactsAndTheirOpposites(t *testing.T) {
	mems := append(anyMems(3), impl.Mem{}, fullMem())
	for _, a := range everyOperand() {
		for _, m := range mems {
			open, says := impl.ActTest(m, impl.Elem{Op: impl.ElemOpen, Args: []impl.DevArg{a}})
			shut, not := impl.ActTest(m, impl.Elem{Op: impl.ElemShut, Args: []impl.DevArg{a}})
			if says == not || says != impl.MemBit(m, a) || !sameMem(open, m) || !sameMem(shut, m) {
				t.Errorf("%v of %q: open %v, shut %v", a, impl.MemText(m), says, not)
			}
		}
		for op := impl.ElemLess; op <= impl.ElemMore; op++ {
			got, _ := impl.ActTest(mems[0], impl.Elem{Op: op, Args: []impl.DevArg{a, operand(9, 1, 0)}})
			if !sameMem(got, mems[0]) {
				t.Errorf("%d of %v: %q behind", op, a, impl.MemText(got))
			}
		}
	}
	for _, m := range mems {
		for _, w := range devices() {
			for place := range 32 {
				for _, op := range []int{impl.ElemUp, impl.ElemDown} {
					got, _ := impl.ActTest(m, impl.Elem{Op: op, Args: []impl.DevArg{w.a, operand(5, place, 0)}})
					if !sameMem(got, withBit(m, 5, place, impl.MemBit(m, w.a))) {
						t.Errorf("%d of %s and E%d: %q behind", op, w.text, place, impl.MemText(got))
					}
				}
			}
		}
	}
}

// coins are bits in no order, the same each time.
func coins(count int) []bool {
	word, all := uint64(2463534242), []bool{}
	for range count {
		word ^= word << 13
		word ^= word >> 7
		word ^= word << 17
		all = append(all, word>>20&1 == 1)
	}
	return all
}

// P20: edges that are asked again and again.
func TestEdgesAgainAndAgain(t *testing.T) {
	for _, text := range []string{"Y0", "M63", "S7"} {
		bit := elemRead(t, text).Args[0]
		up, down := elemRead(t, "+"+text+":E0"), elemRead(t, "-"+text+":E31")
		m, last := anyMems(1)[0], false
		m.E = 0
		for i, now := range coins(2000) {
			m = impl.MemPut(m, bit, now)
			rises, falls := false, false
			m, rises = impl.ActTest(m, up)
			m, falls = impl.ActTest(m, down)
			if rises != (now && !last) || falls != (last && !now) {
				t.Fatalf("%s, asked for time %d: %v behind %v: up %v, down %v", text, i, now, last, rises, falls)
			}
			last = now
		}
	}
}

// P21: a timer, a hold and a late, scan by scan, against the ticks since current came, in all, and since it went.
func TestTimersScanByScan(t *testing.T) {
	for _, preset := range []int{0, 1, 2, 9, 10, 100, 5000, 32766, 32767} {
		for _, dts := range [][]int{{0}, {1}, {0, 1, 2}, {3}, {7, 0}, {2500, 1}, {65535}, {1, 65535, 0}} {
			timer := impl.Elem{Op: impl.ElemTimer, Args: []impl.DevArg{operand(7, 0, 0), operand(11, preset, 0)}}
			hold := impl.Elem{Op: impl.ElemHold, Args: []impl.DevArg{operand(7, 7, 0), operand(11, preset, 0)}}
			late := impl.Elem{Op: impl.ElemLate, Args: []impl.DevArg{operand(7, 15, 0), operand(11, preset, 0)}}
			m, since, held, gone, came, stays := impl.Mem{}, 0, 0, 0, false, false
			for i, coin := range coins(400) {
				v, dt := coin || i%100 > 40, dts[i%len(dts)]
				m = impl.ActDo(impl.ActDo(impl.ActDo(m, timer, v, uint16(dt)), hold, v, uint16(dt)), late, v, uint16(dt))
				if v {
					since, held, gone, came, stays = since+dt, held+dt, 0, true, true
				} else {
					since, gone = 0, gone+dt
					stays = stays && gone < preset
				}
				if m.T[0] != (impl.MemTimer{Done: v && since >= preset, Count: uint16(min(since, preset))}) {
					t.Fatalf("preset %d, ticks %v, scan %d: %v %d: the timer is %v", preset, dts, i, v, since, m.T[0])
				}
				if m.T[7] != (impl.MemTimer{Done: came && held >= preset, Count: uint16(min(held, preset))}) {
					t.Fatalf("preset %d, ticks %v, scan %d: %v %d: the hold is %v", preset, dts, i, v, held, m.T[7])
				}
				if m.T[15] != (impl.MemTimer{Done: stays, Count: uint16(gone * number(stays))}) {
					t.Fatalf("preset %d, ticks %v, scan %d: %v %d: the late is %v", preset, dts, i, v, gone, m.T[15])
				}
			}
		}
	}
}

// P21: each preset and each Count near it, with ticks at their edges.
func TestTimersAtTheEdges(t *testing.T) {
	for _, preset := range []int{-32768, -1, 0, 1, 2, 100, 32766, 32767, 32768, 40000, 65535, 65536, 65541} {
		for _, count := range []int{0, 1, 99, 100, 101, 32766, 32767, 32768, 65534, 65535, preset - 1, preset, preset + 1} {
			for _, dt := range []uint16{0, 1, 2, 32767, 65534, 65535} {
				for _, done := range []bool{false, true} {
					m := impl.Mem{Fault: done}
					m.T[5] = impl.MemTimer{Done: done, Count: uint16(count)}
					for _, op := range []int{impl.ElemTimer, impl.ElemHold, impl.ElemLate} {
						checkAct(t, m, impl.Elem{Op: op, Args: []impl.DevArg{operand(7, 5, 0), operand(11, preset, 0)}}, dt)
						checkAct(t, m, impl.Elem{Op: op, Args: []impl.DevArg{operand(7, -11, 2), operand(11, preset, 1)}}, dt)
					}
				}
			}
		}
	}
}

// P22: a counter, scan by scan, against how often current came; a reset leaves what came last.
func TestCountersScanByScan(t *testing.T) {
	for _, preset := range []int{0, 1, 2, 50, 32767} {
		e := impl.Elem{Op: impl.ElemCount, Args: []impl.DevArg{operand(8, 15, 0), operand(11, preset, 0)}}
		m, came, last := impl.Mem{}, 0, false
		for i, v := range coins(3000) {
			m = impl.ActDo(m, e, v, uint16(i))
			if v && !last {
				came++
			}
			last = v
			if m.C[15] != (impl.MemCounter{Done: came >= preset, Last: v, Count: uint16(came)}) {
				t.Fatalf("preset %d, scan %d: %v, and came %d times: %v", preset, i, v, came, m.C[15])
			}
			if i%500 == 499 {
				m = impl.ActDo(m, elemRead(t, "reset:C15"), true, 0)
				came = 0
				if m.C[15] != (impl.MemCounter{Last: v}) {
					t.Fatalf("preset %d, scan %d: %v behind the reset", preset, i, m.C[15])
				}
			}
		}
	}
}

// P22: a counter counts to 65535 and not beyond.
func TestCountersUpToTheEnd(t *testing.T) {
	e, m := elemRead(t, "count:C0,32767"), impl.Mem{}
	for i := range 65540 {
		m = impl.ActDo(impl.ActDo(m, e, true, 0), e, true, 0)
		count := min(i+1, 65535)
		if m.C[0] != (impl.MemCounter{Done: count >= 32767, Last: true, Count: uint16(count)}) {
			t.Fatalf("it came %d times: %v", i+1, m.C[0])
		}
		m = impl.ActDo(m, e, false, 0)
		if m.C[0] != (impl.MemCounter{Done: count >= 32767, Count: uint16(count)}) {
			t.Fatalf("it went %d times: %v", i+1, m.C[0])
		}
	}
}

// P22: each Count near a preset, with Last and without.
func TestCountersAtTheEdges(t *testing.T) {
	for _, preset := range []int{-32768, -1, 0, 1, 2, 100, 32766, 32767, 32768, 65535, 65536, 65541} {
		for _, count := range []int{0, 1, 2, 99, 100, 101, 32765, 32766, 32767, 32768, 65534, 65535} {
			for way := range 4 {
				m := impl.Mem{}
				m.C[15] = impl.MemCounter{Done: way%2 == 1, Last: way >= 2, Count: uint16(count)}
				m.C[14] = m.C[15]
				for _, a := range []impl.DevArg{operand(8, 15, 0), operand(8, -1, 0), operand(8, 31, 6)} {
					checkAct(t, m, impl.Elem{Op: impl.ElemCount, Args: []impl.DevArg{a, operand(11, preset, 0)}}, 65535)
					checkAct(t, m, impl.Elem{Op: impl.ElemReset, Args: []impl.DevArg{a, operand(11, preset, 0)}}, 65535)
				}
			}
		}
	}
}

// P21 to P24: what coils do, written out.
func TestCoilsWrittenOut(t *testing.T) {
	for _, c := range []struct {
		mem, coil string
		v         bool
		dt        uint16
		want      string
	}{
		{"", "out:Y1", true, 1, "Y1"}, {"Y1", "out:Y1", true, 1, "Y1"}, {"Y1 Y2", "out:Y1", false, 1, "Y2"}, {"", "out:M63", true, 0, "M63"}, {"M62 M63", "out:M63", false, 0, "M62"}, {"", "out:M0", false, 0, ""},
		{"", "set:Y31", true, 1, "Y31"}, {"", "set:S3", true, 1, "S3"}, {"", "set:S3", false, 1, ""}, {"M1", "set:M1", false, 1, "M1"}, {"S1", "set:S2", true, 1, "S1 S2"},
		{"Y1", "reset:Y1", true, 1, ""}, {"Y1", "reset:Y1", false, 1, "Y1"}, {"S1 S2", "reset:S1", true, 1, "S2"}, {"T1=5! T2=5!", "reset:T1", true, 1, "T2=5!"}, {"T1=5!", "reset:T1", false, 1, "T1=5!"}, {"T1=5", "reset:T1", true, 1, ""},
		{"C1=2!+", "reset:C1", true, 0, "C1=0+"}, {"C1=2!", "reset:C1", true, 0, ""}, {"C1=2!+", "reset:C1", false, 0, "C1=2!+"}, {"C1=0+ C2=3+", "reset:C1", true, 0, "C1=0+ C2=3+"},
		{"", "pulse:M1,E2", true, 0, "M1 E2"}, {"M1 E2", "pulse:M1,E2", true, 0, "E2"}, {"M1 E2", "pulse:M1,E2", false, 0, ""}, {"E2", "pulse:M1,E2", false, 0, ""}, {"M1", "pulse:M1,E2", false, 0, ""}, {"M1", "pulse:M1,E2", true, 0, "M1 E2"}, {"E1", "pulse:Y0,E31", true, 0, "Y0 E1 E31"},
		{"S1 S3 S9", "step:S2", true, 1, "S2 S9"}, {"S1", "step:S2", false, 1, "S1"}, {"S0 S7 S8 S15", "step:S0", true, 1, "S0 S8 S15"}, {"S0 S7 S8 S15", "step:S7", true, 1, "S7 S8 S15"}, {"S0 S7 S8 S15", "step:S8", true, 1, "S0 S7 S8"}, {"S0 S7 S8 S15", "step:S15", true, 1, "S0 S7 S15"}, {"", "step:S15", true, 1, "S15"},
		{"T1=3", "timer:T1,10", true, 4, "T1=7"}, {"T1=7", "timer:T1,10", true, 2, "T1=9"}, {"T1=7", "timer:T1,10", true, 3, "T1=10!"}, {"T1=7", "timer:T1,10", true, 4, "T1=10!"}, {"T1=10!", "timer:T1,10", true, 0, "T1=10!"}, {"T1=10!", "timer:T1,10", false, 4, ""}, {"T1=7", "timer:T1,10", false, 4, ""},
		{"T1=7", "timer:T1,5", true, 0, "T1=5!"}, {"T1=7!", "timer:T1,9", true, 1, "T1=8"}, {"", "timer:T1,0", true, 0, "T1=0!"}, {"T1=5!", "timer:T1,0", true, 0, "T1=0!"}, {"T1=0!", "timer:T1,0", false, 0, ""}, {"T1=65535", "timer:T1,32767", true, 65535, "T1=32767!"}, {"T1=32766", "timer:T1,32767", true, 65535, "T1=32767!"}, {"", "timer:T1,32767", true, 65535, "T1=32767!"}, {"T1=65535", "timer:T1,32767", true, 1, "T1=32767!"},
		{"T1=7", "hold:T1,10", false, 4, "T1=7"}, {"T1=7!", "hold:T1,10", false, 4, "T1=7!"}, {"T1=7", "hold:T1,10", true, 2, "T1=9"}, {"T1=7", "hold:T1,10", true, 3, "T1=10!"}, {"T1=99", "hold:T1,10", false, 3, "T1=99"}, {"T1=99", "hold:T1,10", true, 0, "T1=10!"}, {"", "hold:T1,0", true, 0, "T1=0!"}, {"", "hold:T1,0", false, 0, ""},
		{"", "late:T1,10", true, 4, "T1=0!"}, {"T1=0!", "late:T1,10", false, 4, "T1=4!"}, {"T1=4!", "late:T1,10", true, 4, "T1=0!"}, {"T1=4!", "late:T1,10", false, 5, "T1=9!"}, {"T1=4!", "late:T1,10", false, 6, ""}, {"T1=8!", "late:T1,10", false, 4, ""}, {"T1=8", "late:T1,10", false, 4, ""}, {"T1=8", "late:T1,10", true, 4, "T1=0!"}, {"", "late:T1,10", false, 4, ""},
		{"T1=0!", "late:T1,0", false, 0, ""}, {"", "late:T1,0", true, 0, "T1=0!"}, {"T1=99!", "late:T1,10", false, 0, ""}, {"T1=65535!", "late:T1,32767", false, 65535, ""}, {"T1=9!", "late:T1,32767", false, 0, "T1=9!"},
		{"", "count:C1,2", true, 0, "C1=1+"}, {"C1=1+", "count:C1,2", true, 0, "C1=1+"}, {"C1=1+", "count:C1,2", false, 0, "C1=1"}, {"C1=1", "count:C1,2", true, 0, "C1=2!+"}, {"C1=2!+", "count:C1,2", false, 0, "C1=2!"}, {"C1=2!", "count:C1,2", true, 0, "C1=3!+"}, {"C1=65535!", "count:C1,2", true, 0, "C1=65535!+"}, {"C1=65534", "count:C1,32767", true, 0, "C1=65535!+"},
		{"C1=2!", "count:C1,3", false, 0, "C1=2"}, {"C1=2", "count:C1,2", false, 0, "C1=2!"}, {"", "count:C1,0", false, 0, "C1=0!"}, {"", "count:C1,0", true, 0, "C1=1!+"}, {"C1=0+", "count:C1,1", true, 9, "C1=0+"},
		{"", "move:D1,-32768", true, 0, "D1=-32768"}, {"D1=7", "move:D1,0", true, 0, ""}, {"D1=7", "move:D1,0", false, 0, "D1=7"}, {"C1=65535", "move:D31,C1", true, 0, "C1=65535 D31=32767"}, {"D1=7", "move:D2,D1", true, 0, "D1=7 D2=7"}, {"", "move:R1,-0.0", true, 0, "R1=-0"}, {"R1=nan", "move:R2,R1", true, 0, "R1=nan R2=nan"}, {"R1=inf", "move:R1,0.0", true, 0, ""}, {"", "move:R15,-2.5", true, 0, "R15=-5*2^-1"},
		{"D1=32767", "add:D1,D1,1", true, 0, "D1=-32768"}, {"D1=32767", "add:D1,D1,1", false, 0, "D1=32767"}, {"D1=-32768", "sub:D2,D1,1", true, 0, "D1=-32768 D2=32767"}, {"D1=3", "sub:D2,5,D1", true, 0, "D1=3 D2=2"}, {"D1=256", "mul:D1,D1,D1", true, 0, ""}, {"D1=300", "mul:D2,D1,-300", true, 0, "D1=300 D2=-24464"},
		{"D1=-7", "div:D2,D1,2", true, 0, "D1=-7 D2=-3"}, {"D1=-7", "rem:D2,D1,4", true, 0, "D1=-7 D2=-3"}, {"D1=7", "rem:D2,D1,-4", true, 0, "D1=7 D2=3"}, {"D1=-32768", "div:D2,D1,-1", true, 0, "D1=-32768 D2=-32768"}, {"D1=-32768 D2=9", "rem:D2,D1,-1", true, 0, "D1=-32768"},
		{"", "add:R1,0.5,0.25", true, 0, "R1=3*2^-2"}, {"", "sub:R1,0.5,0.75", true, 0, "R1=-1*2^-2"}, {"", "mul:R1,-0.0,2.0", true, 0, "R1=-0"}, {"", "mul:R1,inf,0.0", true, 0, "R1=nan"}, {"", "div:R1,1.0,0.0", true, 0, "R1=inf"}, {"", "div:R1,1.0,-0.0", true, 0, "R1=-inf"}, {"", "div:R1,0.0,0.0", true, 0, "R1=nan"}, {"R1=1*2^0", "div:R1,R1,4.0", true, 0, "R1=1*2^-2"}, {"", "add:R1,inf,-inf", true, 0, "R1=nan"}, {"R1=nan", "div:R1,0.0,1.0", true, 0, ""}, {"R1=nan", "div:R1,0.0,1.0", false, 0, "R1=nan"},
		{"T1=40000", "real:R1,T1", true, 0, "T1=40000 R1=32767*2^0"}, {"R1=nan", "real:R1,0", true, 0, ""}, {"D1=-32768", "real:R1,D1", true, 0, "D1=-32768 R1=-1*2^15"}, {"D1=5", "real:R1,D1", false, 0, "D1=5"},
		{"R1=-5*2^-1", "whole:D1,R1", true, 0, "D1=-2 R1=-5*2^-1"}, {"", "whole:D1,32767.9", true, 0, "D1=32767"}, {"", "whole:D1,-32768.9", true, 0, "D1=-32768"}, {"D1=5", "whole:D1,-0.0", true, 0, ""}, {"D1=5", "whole:D1,nan", false, 0, "D1=5"},
	} {
		if got := impl.MemText(impl.ActDo(memRead(t, c.mem), elemRead(t, c.coil), c.v, c.dt)); got != c.want {
			t.Errorf("%s with %v and %d of %q: %q, not %q", c.coil, c.v, c.dt, c.mem, got, c.want)
		}
	}
}

// P23: what can't be reckoned leaves the register and makes a fault; a fault that is there stays.
func TestFaults(t *testing.T) {
	for _, c := range []struct {
		mem, coil, want string
	}{
		{"D1=5", "div:D1,D1,D2", "D1=5 fault"}, {"D1=5", "rem:D1,D1,0", "D1=5 fault"}, {"D1=5", "div:D1,0,0", "D1=5 fault"}, {"", "div:D1,-32768,0", "fault"}, {"", "rem:D1,-32768,0", "fault"}, {"D1=5", "div:D1,7,T1", "D1=5 fault"}, {"D1=5 fault", "div:D1,7,C1", "D1=5 fault"},
		{"D1=5", "whole:D1,nan", "D1=5 fault"}, {"D1=5", "whole:D1,inf", "D1=5 fault"}, {"D1=5", "whole:D1,-inf", "D1=5 fault"}, {"D1=5", "whole:D1,32768.0", "D1=5 fault"}, {"D1=5", "whole:D1,-32769.0", "D1=5 fault"}, {"R1=1*2^1000", "whole:D1,R1", "R1=1*2^1000 fault"}, {"D1=5 fault", "whole:D1,nan", "D1=5 fault"},
		{"fault", "div:D1,7,2", "D1=3 fault"}, {"fault", "whole:D1,2.5", "D1=2 fault"}, {"fault", "div:R1,0.0,0.0", "R1=nan fault"}, {"fault", "out:Y1", "Y1 fault"}, {"fault", "add:D1,32767,1", "D1=-32768 fault"},
		{"X1 Y2 M3 S4 E5 T6=7! C8=9+ D1=5 R2=-0 time=8 ran", "div:D1,D1,D0", "X1 Y2 M3 S4 E5 T6=7! C8=9+ D1=5 R2=-0 time=8 ran fault"},
	} {
		if got := impl.MemText(impl.ActDo(memRead(t, c.mem), elemRead(t, c.coil), true, 9)); got != c.want {
			t.Errorf("%s of %q: %q, not %q", c.coil, c.mem, got, c.want)
		}
		if got := impl.MemText(impl.ActDo(memRead(t, c.mem), elemRead(t, c.coil), false, 9)); got != c.mem && c.coil != "out:Y1" {
			t.Errorf("%s without current of %q: %q", c.coil, c.mem, got)
		}
	}
}

// P23: there is a fault just where the number is not there, whatever A is; -32768 by -1 counts round (chapter 3) and is there.
func TestFaultsOfEveryDivision(t *testing.T) {
	for _, b := range append(wholeEdges(), 0) {
		for _, c := range append(wholeEdges(), 0) {
			for _, a := range []impl.DevArg{operand(9, 4, 0), operand(9, 2, 0), operand(9, 36, 0), operand(8, 1, 0), operand(2, 1, 0), operand(11, 1, 0), {}} {
				m := impl.Mem{Y: 2}
				m.D[2], m.D[3], m.D[4], m.C[1] = b, c, 77, impl.MemCounter{Count: 5}
				for op := impl.ElemAdd; op <= impl.ElemRem; op++ {
					e := impl.Elem{Op: op, Args: []impl.DevArg{a, operand(9, 2, 0), operand(9, 3, 0)}}
					got := impl.ActDo(m, e, true, 0)
					if got.Fault != (c == 0 && op >= impl.ElemDiv) {
						t.Errorf("%v of %d and %d: fault %v", e, b, c, got.Fault)
					}
					checkDo(t, m, e, true, 0)
				}
			}
		}
	}
	for _, x := range append(manyReals()[:200], -32769, math.Nextafter(-32769, 0), -32768.5, -32768, 32767.5, math.Nextafter(32768, 0), 32768, 1<<40, -1<<40, math.Inf(1), math.Inf(-1), math.NaN()) {
		for _, a := range []impl.DevArg{operand(9, 4, 0), operand(10, 4, 0), operand(7, 1, 0), {}} {
			m := impl.Mem{}
			m.D[4], m.R[9] = 77, x
			checkDo(t, m, impl.Elem{Op: impl.ElemWhole, Args: []impl.DevArg{a, operand(10, 9, 0)}}, true, 0)
		}
	}
}

// Coils that are not ok, written out.
func TestOddCoilsWrittenOut(t *testing.T) {
	e, t1, c1, d1, r1, two := operand(5, 1, 0), operand(7, 1, 0), operand(8, 1, 0), operand(9, 1, 0), operand(10, 1, 0), operand(11, 2, 0)
	for _, c := range []struct {
		mem  string
		op   int
		args []impl.DevArg
		v    bool
		want string
	}{
		{"E1", 21, []impl.DevArg{e}, false, "E1"}, {"", 21, []impl.DevArg{e}, true, ""}, {"", 22, []impl.DevArg{e}, true, ""}, {"E1", 23, []impl.DevArg{e}, true, "E1"}, {"", 21, []impl.DevArg{operand(1, 1, 0)}, true, ""}, {"X1", 23, []impl.DevArg{operand(1, 1, 0)}, true, "X1"}, {"", 21, []impl.DevArg{operand(4, -1, 0)}, true, "S15"}, {"", 21, []impl.DevArg{operand(2, 33, 0)}, true, "Y1"},
		{"D1=5", 23, []impl.DevArg{d1}, true, "D1=5"}, {"R1=nan", 23, []impl.DevArg{r1}, true, "R1=nan"}, {"T1=5", 21, []impl.DevArg{t1}, true, "T1=5"}, {"T1=5", 22, []impl.DevArg{t1}, true, "T1=5"}, {"C1=5!+", 21, []impl.DevArg{c1}, false, "C1=5!+"}, {"T1=5! T15=5!", 23, []impl.DevArg{operand(7, -1, 0)}, true, "T1=5!"}, {"C1=5!+", 23, []impl.DevArg{operand(8, 17, 3)}, true, "C1=0+"},
		{"", 24, []impl.DevArg{operand(3, 1, 0)}, true, "M1"}, {"M1", 24, []impl.DevArg{operand(3, 1, 0)}, false, ""}, {"M1 M2", 24, []impl.DevArg{operand(3, 1, 0), operand(3, 2, 0)}, true, "M1 M2"}, {"", 24, []impl.DevArg{e, operand(5, 2, 0)}, true, "E2"}, {"E1 E2", 24, []impl.DevArg{e, operand(5, 2, 0)}, false, "E1"}, {"", 24, []impl.DevArg{e, e}, true, "E1"}, {"E1", 24, []impl.DevArg{e, e}, false, ""}, {"", 24, []impl.DevArg{{}, e}, true, "E1"}, {"E31", 24, []impl.DevArg{operand(2, -1, 0), operand(5, -1, 0)}, true, "E31"}, {"", 24, []impl.DevArg{operand(4, 3, 0), e, operand(5, 2, 0)}, true, "S3 E1"},
		{"M1 S1", 25, []impl.DevArg{operand(3, 2, 0)}, true, "M1 S1"}, {"S1", 25, nil, true, "S1"}, {"S1 S9", 25, []impl.DevArg{operand(4, 16, 0)}, true, "S0 S9"}, {"S1 S9", 25, []impl.DevArg{operand(4, -1, 0)}, true, "S1 S15"}, {"S1 S9", 25, []impl.DevArg{operand(4, -9, 0)}, true, "S7 S9"}, {"S1 S9", 25, []impl.DevArg{e}, true, "S1 S9"},
		{"", 26, []impl.DevArg{t1}, true, "T1=0!"}, {"T1=9", 26, []impl.DevArg{t1, operand(11, -5, 0)}, true, "T1=0!"}, {"T1=9", 26, []impl.DevArg{c1, two}, true, "T1=9"}, {"C1=9", 26, []impl.DevArg{c1, two}, false, "C1=9"}, {"T0=9", 26, nil, false, "T0=9"}, {"D1=50", 26, []impl.DevArg{t1, d1}, true, "T1=3 D1=50"}, {"D1=-50", 26, []impl.DevArg{t1, d1}, true, "T1=0! D1=-50"}, {"T2=50", 26, []impl.DevArg{t1, operand(7, 2, 0)}, true, "T1=3 T2=50"}, {"C2=2", 26, []impl.DevArg{t1, operand(8, 2, 0)}, true, "T1=2! C2=2"}, {"C2=65535", 26, []impl.DevArg{t1, operand(8, 2, 0)}, true, "T1=3 C2=65535"}, {"T1=50", 26, []impl.DevArg{t1, t1}, true, "T1=50!"}, {"T1=50", 26, []impl.DevArg{t1, r1}, true, "T1=0!"}, {"T1=50", 26, []impl.DevArg{t1, operand(12, 999, 1)}, true, "T1=0!"}, {"T1=65535", 26, []impl.DevArg{t1, t1}, true, "T1=32767!"},
		{"T1=5", 27, []impl.DevArg{operand(7, 17, 0), operand(11, 65544, 0)}, true, "T1=8!"}, {"T1=5", 27, []impl.DevArg{c1, two}, true, "T1=5"}, {"T1=5", 27, []impl.DevArg{t1}, true, "T1=0!"}, {"T1=5!", 28, []impl.DevArg{t1}, false, ""}, {"T1=5!", 28, []impl.DevArg{t1, operand(9, 2, 0)}, false, ""}, {"T1=5! D2=9", 28, []impl.DevArg{t1, operand(9, 2, 0)}, false, "T1=8! D2=9"}, {"T1=5! D2=8", 28, []impl.DevArg{t1, operand(9, 2, 0)}, false, "D2=8"}, {"C1=5!", 28, []impl.DevArg{c1, two}, false, "C1=5!"}, {"", 28, nil, true, ""}, {"T15=1!", 28, []impl.DevArg{operand(7, -1, 0), operand(11, 5, 0)}, false, "T15=4!"},
		{"", 29, []impl.DevArg{c1}, false, "C1=0!"}, {"", 29, []impl.DevArg{c1, operand(11, -1, 0)}, true, "C1=1!+"}, {"T1=9!", 29, []impl.DevArg{t1, two}, true, "T1=9!"}, {"C0=9!", 29, nil, true, "C0=9!"}, {"C1=5 D1=6", 29, []impl.DevArg{c1, d1}, true, "C1=6!+ D1=6"}, {"C1=5 D1=7", 29, []impl.DevArg{c1, d1}, true, "C1=6+ D1=7"}, {"C1=5", 29, []impl.DevArg{c1, c1}, true, "C1=6!+"}, {"C1=40000", 29, []impl.DevArg{c1, operand(8, 2, 0)}, false, "C1=40000!"}, {"C1=32766 C2=40000", 29, []impl.DevArg{c1, operand(8, 2, 0)}, false, "C1=32766 C2=40000"}, {"C1=32767 C2=40000", 29, []impl.DevArg{c1, operand(8, 2, 0)}, false, "C1=32767! C2=40000"},
		{"D1=5", 30, []impl.DevArg{d1}, true, ""}, {"R1=nan", 30, []impl.DevArg{r1}, true, ""}, {"D1=5", 30, []impl.DevArg{d1, r1}, true, ""}, {"R1=nan", 30, []impl.DevArg{r1, two}, true, ""}, {"T1=5", 30, []impl.DevArg{t1, two}, true, "T1=5"}, {"", 30, nil, true, ""}, {"M1", 30, []impl.DevArg{operand(3, 1, 0), operand(11, 0, 0)}, true, "M1"}, {"", 30, []impl.DevArg{operand(9, -1, 0), operand(11, 65535, 0)}, true, "D31=-1"}, {"", 30, []impl.DevArg{operand(10, 17, 5), operand(13, 1, 0)}, true, "R1=inf"}, {"D1=5", 30, []impl.DevArg{d1, two, d1, d1}, true, "D1=2"},
		{"D1=5", 31, []impl.DevArg{d1, two}, true, "D1=2"}, {"D1=5", 31, []impl.DevArg{d1}, true, ""}, {"", 31, nil, true, ""}, {"D1=5", 34, []impl.DevArg{d1, two}, true, "D1=5 fault"}, {"D1=5", 34, []impl.DevArg{d1}, true, "D1=5 fault"}, {"", 34, nil, true, "fault"}, {"", 35, nil, true, "fault"}, {"", 34, nil, false, ""}, {"", 34, []impl.DevArg{t1, two, operand(13, 1, 0)}, true, "fault"}, {"", 34, []impl.DevArg{t1, two, two}, true, ""}, {"E1", 34, []impl.DevArg{e, two, two}, true, "E1"},
		{"R1=1*2^0", 34, []impl.DevArg{r1}, true, "R1=nan"}, {"R1=1*2^0", 34, []impl.DevArg{r1, two, two}, true, "R1=nan"}, {"R1=1*2^0", 35, []impl.DevArg{r1, operand(12, 10, 1), operand(12, 20, 1)}, true, "R1=nan"}, {"R1=1*2^0", 35, nil, true, "R1=1*2^0 fault"}, {"R1=1*2^0", 31, []impl.DevArg{r1, r1, two}, true, "R1=1*2^0"}, {"D1=5", 31, []impl.DevArg{d1, r1, two}, true, "D1=2"}, {"R1=-0", 31, []impl.DevArg{r1, r1}, true, ""},
		{"R1=nan", 36, []impl.DevArg{r1}, true, ""}, {"D1=5", 36, []impl.DevArg{d1, two}, true, "D1=5"}, {"", 36, nil, true, ""}, {"R1=nan", 36, []impl.DevArg{r1, operand(12, 5, 1)}, true, ""}, {"", 36, []impl.DevArg{operand(10, -1, 0), operand(11, 32768, 0)}, true, "R15=-1*2^15"},
		{"D1=5", 37, []impl.DevArg{d1}, true, ""}, {"R1=nan", 37, []impl.DevArg{r1, operand(12, 25, 1)}, true, "R1=nan"}, {"", 37, nil, true, ""}, {"D1=5", 37, []impl.DevArg{d1, two}, true, ""}, {"R1=nan", 37, []impl.DevArg{t1, r1}, true, "R1=nan fault"}, {"R1=nan", 37, []impl.DevArg{{}, r1}, true, "R1=nan fault"}, {"R1=5*2^-1", 37, []impl.DevArg{operand(9, 33, 0), operand(10, -15, 0)}, true, "D1=2 R1=5*2^-1"},
	} {
		if got := impl.MemText(impl.ActDo(memRead(t, c.mem), impl.Elem{Op: c.op, Args: c.args}, c.v, 3)); got != c.want {
			t.Errorf("%d %v with %v of %q: %q, not %q", c.op, c.args, c.v, c.mem, got, c.want)
		}
	}
}

// okCoils are coils of every Op with operands of each kind that may stand there.
func okCoils() []impl.Elem {
	all, some := []impl.Elem{}, sampleOperands()
	for _, row := range elemRows() {
		for i, a := range some {
			lists := [][]written{{a}}
			for j, b := range some {
				lists = append(lists, []written{a, b}, []written{a, b, some[(i+j*5)%len(some)]}, []written{a, b, b})
			}
			for _, list := range lists {
				if e, texts := elemOf(row.op, list); row.op >= 21 && row.take(texts) {
					all = append(all, e)
				}
			}
		}
	}
	return all
}

// without is the memory with nothing where a coil that is ok may change it.
func without(m impl.Mem, e impl.Elem) impl.Mem {
	m.Fault = false
	for _, a := range e.Args[:min(len(e.Args), 2)] {
		first := a == e.Args[0]
		switch {
		case a.Kind == 5:
			m = withBit(m, 5, a.N, false)
		case !first:
		case e.Op == 25 && a.N < 8:
			m.S &= 0xff00
		case e.Op == 25:
			m.S &= 0x00ff
		case a.Kind <= 4:
			m = withBit(m, a.Kind, a.N, false)
		case a.Kind == 7:
			m.T[a.N] = impl.MemTimer{}
		case a.Kind == 8:
			m.C[a.N] = impl.MemCounter{}
		case a.Kind == 9:
			m.D[a.N] = 0
		case a.Kind == 10:
			m.R[a.N] = 0
		}
	}
	return m
}

// P23: a coil that is ok changes its first operand, its E and Fault alone; most change nothing without current.
func TestCoilsChangeNoMore(t *testing.T) {
	coils := okCoils()
	seen := map[int]bool{}
	for i, e := range coils {
		seen[e.Op] = true
		for j, m := range actMems() {
			for _, v := range []bool{false, true} {
				got := impl.ActDo(m, e, v, dtOf(i+j))
				if !sameMem(without(got, e), without(m, e)) {
					t.Errorf("%s with %v of %q: %q", impl.ElemText(e), v, impl.MemText(m), impl.MemText(got))
				}
				if m.Fault && !got.Fault {
					t.Errorf("%s with %v of %q: the fault is lost", impl.ElemText(e), v, impl.MemText(m))
				}
				driven := e.Op == 22 || e.Op == 23 || e.Op == 25 || e.Op == 27 || e.Op >= 30
				if driven && !v && !sameMem(got, m) {
					t.Errorf("%s without current of %q: %q", impl.ElemText(e), impl.MemText(m), impl.MemText(got))
				}
			}
		}
	}
	if len(seen) != 17 {
		t.Errorf("coils of %d Ops", len(seen))
	}
}

// P24: behind a step just it is on of its eight, whatever was on, and the other eight are as they were.
func TestStepsOfEveryWord(t *testing.T) {
	for place := range 16 {
		e := impl.Elem{Op: impl.ElemStep, Args: []impl.DevArg{operand(4, place, 0)}}
		own, by := uint16(0x00ff), 1
		if place >= 8 {
			own = 0xff00
		}
		if place%8 != 0 && place%8 != 7 {
			by = 37
		}
		for word := 0; word <= 0xffff; word += by {
			m := impl.Mem{S: uint16(word), M: 5}
			want := impl.Mem{S: uint16(word)&^own | 1<<place, M: 5}
			if got := impl.ActDo(m, e, true, 1); got != want {
				t.Fatalf("step:S%d of %q: %q", place, impl.MemText(m), impl.MemText(got))
			}
			if got := impl.ActDo(m, e, false, 1); got != m {
				t.Fatalf("step:S%d without current of %q: %q", place, impl.MemText(m), impl.MemText(got))
			}
		}
	}
}

// No argument is written into, nor behind its end, also where a fault leaves the coil; what is given twice is answered alike.
func TestActWritesIntoNothing(t *testing.T) {
	room := []impl.DevArg{operand(9, 1, 0), operand(9, 2, 0), operand(9, 3, 0), operand(5, 1, 0), operand(7, 1, 0)}
	kept := slices.Clone(room)
	for _, m := range actMems() {
		before := m
		for _, op := range append(knownOps(), wrongElemOps()...) {
			for n := range len(room) {
				for from := range len(room) - n {
					e := impl.Elem{Op: op, Args: room[from : from+n]}
					one, says := impl.ActTest(m, e)
					two, again := impl.ActTest(m, e)
					if says != again || !sameMem(one, two) {
						t.Errorf("%v: %v and then %v", e, says, again)
					}
					if !sameMem(impl.ActDo(m, e, true, 5), impl.ActDo(m, e, true, 5)) || !sameMem(m, before) || !slices.Equal(room, kept) {
						t.Fatalf("%v: %v, not %v", e, room, kept)
					}
				}
			}
		}
	}
}

// Contacts and coils with very many operands: those that are too many are not looked at.
func TestActOfVeryManyOperands(t *testing.T) {
	m := actMems()[3]
	for _, op := range knownOps() {
		for _, first := range []impl.DevArg{operand(3, 2, 0), operand(7, 3, 0), operand(8, 2, 0), operand(9, 1, 0), operand(10, 1, 0), operand(4, 9, 0)} {
			few := []impl.DevArg{first, operand(5, 1, 0), operand(11, 3, 0)}
			many := append(slices.Clone(few), slices.Repeat([]impl.DevArg{operand(5, 2, 0)}, 10000)...)
			one, says := impl.ActTest(m, impl.Elem{Op: op, Args: few})
			two, also := impl.ActTest(m, impl.Elem{Op: op, Args: many})
			if says != also || !sameMem(one, two) || !sameMem(impl.ActDo(m, impl.Elem{Op: op, Args: few}, true, 2), impl.ActDo(m, impl.Elem{Op: op, Args: many}, true, 2)) {
				t.Errorf("%d of %v: more operands are looked at", op, first)
			}
		}
	}
}
