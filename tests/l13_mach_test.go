package tests

import (
	"fmt"
	"math"
	"math/rand"
	"slices"
	"strings"
	"testing"

	"loop.example/stile/impl"
)

// okBits are the bits of a stack, the one on top last; none, if it is not ok.
func okBits(bits uint16, n, most int) []bool {
	if n < 0 || n > most || int(bits) >= 1<<n {
		return nil
	}
	return bitsBelow(uint64(bits), n)
}

func topOf(list []bool) bool {
	return len(list) > 0 && list[len(list)-1]
}

func popped(list []bool) []bool {
	return list[:max(len(list)-1, 0)]
}

// retopped is a list with another bit on top; it stays empty, if it is.
func retopped(list []bool, b bool) []bool {
	if len(list) == 0 {
		return nil
	}
	return append(slices.Clone(popped(list)), b)
}

// joinedBit is two bits put together, as the words that end so say: `and` and `anb`, `or` and `orb`.
func joinedBit(code int, a, b bool) bool {
	if code == 2 || code == 4 {
		return a && b
	}
	return a || b
}

// steppedBy is a second reading of MachStep, with lists in the place of words of bits.
func steppedBy(s impl.MachState, i impl.Inst, dt uint16) impl.MachState {
	bits, forks := okBits(s.Stack.Bits, s.Stack.N, 16), okBits(uint16(s.Forks.Bits), s.Forks.N, 8)
	says := false
	switch i.Code {
	case 1:
		s.Mem, says = saidBy(s.Mem, i.One)
		s.Stack = stackOf(pushed(bits, says, 16))
	case 2, 3:
		s.Mem, says = saidBy(s.Mem, i.One)
		s.Stack = stackOf(retopped(bits, joinedBit(i.Code, topOf(bits), says)))
	case 4, 5:
		left := popped(bits)
		s.Stack = stackOf(retopped(left, joinedBit(i.Code, topOf(left), topOf(bits))))
	case 6:
		s.Stack = stackOf(retopped(bits, !topOf(bits)))
	case 7:
		s.Forks = forkOf(pushed(forks, topOf(bits), 8))
	case 8:
		s.Stack = stackOf(retopped(bits, topOf(forks)))
	case 9:
		s.Stack, s.Forks = stackOf(retopped(bits, topOf(forks))), forkOf(popped(forks))
	case 10:
		s.Mem = doneBy(s.Mem, i.One, topOf(bits), dt)
	case 11:
		s.Stack = stackOf(popped(bits))
	}
	return s
}

// scannedBy is a second reading of MachScan.
func scannedBy(list []impl.Inst, m impl.Mem, s impl.ActSample) impl.Mem {
	if len(list) > 1000 {
		return m
	}
	state := impl.MachState{Mem: impl.ActStart(m, s)}
	for _, i := range list {
		state = steppedBy(state, i, s.Dt)
	}
	return impl.ActEnd(state.Mem)
}

// outside says whether a device that is not there is among the operands.
func outside(e impl.Elem) bool {
	return slices.ContainsFunc(e.Args, func(a impl.DevArg) bool {
		return slices.ContainsFunc(devRows(), func(row devRow) bool {
			return row.size > 0 && row.kind == a.Kind && (a.N < 0 || a.N >= row.size)
		})
	})
}

// stopOf is a second reading of where a machine that looks stops: as long as it has not stopped, the stacks are as high as the Codes ahead say.
func stopOf(list []impl.Inst) impl.MachFault {
	if len(list) > 1000 {
		return impl.MachFault{}
	}
	needs := map[int]int{2: 1, 3: 1, 4: 2, 5: 2, 6: 1, 7: 1, 8: 1, 9: 1, 10: 1, 11: 1}
	ahead := impl.SureState{}
	for at, behind := range tracedOf(list) {
		i := list[at]
		switch {
		case i.Code < 1 || i.Code > 11:
		case ahead.Bits < needs[i.Code], ahead.Forks == 0 && (i.Code == 8 || i.Code == 9):
			return impl.MachFault{Code: 1, At: at}
		case i.Code == 1 && ahead.Bits == 16, i.Code == 7 && ahead.Forks == 8:
			return impl.MachFault{Code: 2, At: at}
		case outside(i.One):
			return impl.MachFault{Code: 3, At: at}
		}
		ahead = behind
	}
	return impl.MachFault{}
}

func sameState(a, b impl.MachState) bool {
	return a.Stack == b.Stack && a.Forks == b.Forks && sameMem(a.Mem, b.Mem)
}

func stateText(s impl.MachState) string {
	return fmt.Sprintf("%v %v %q", s.Stack, s.Forks, impl.MemText(s.Mem))
}

// machBrief is the beginning of a list, with each instruction as it is.
func machBrief(list []impl.Inst) string {
	lines := []string{}
	for _, i := range list[:min(len(list), 100)] {
		line := instLine(i)
		if line == "" {
			line = brief(fmt.Sprint(i))
		}
		lines = append(lines, line)
	}
	return strings.Join(lines, "; ")
}

// checkStep holds a step against the second reading, and gives what is behind it.
func checkStep(t *testing.T, s impl.MachState, i impl.Inst, dt uint16) impl.MachState {
	t.Helper()
	got, want := impl.MachStep(s, i, dt), steppedBy(s, i, dt)
	if !sameState(got, want) {
		t.Errorf("%s with %d of %s: %s, not %s", machBrief([]impl.Inst{i}), dt, stateText(s), stateText(got), stateText(want))
	}
	return got
}

// checkMach holds scans by a list against the second readings: each alone, by both machines, and all at once; it asks for P44, and gives where the machine that looks stops.
func checkMach(t *testing.T, list []impl.Inst, m impl.Mem, samples []impl.ActSample) impl.MachFault {
	t.Helper()
	behind, stop := m, stopOf(list)
	for at, s := range samples {
		want := scannedBy(list, behind, s)
		got, one := impl.MachScan(list, behind, s), impl.MachRun(list, behind, samples[at:at+1])
		if !sameMem(got, want) || !sameMem(one, want) {
			t.Errorf("%s: scan %d with %v of %q: %q and %q, not %q", machBrief(list), at, s, impl.MemText(behind), impl.MemText(got), impl.MemText(one), impl.MemText(want))
		}
		watched, fault := impl.MachWatch(list, behind, s)
		left := want
		if stop.Code != 0 {
			left = behind
		}
		if fault != stop || !sameMem(watched, left) {
			t.Errorf("%s: watched with %v of %q: %q and %v, not %q and %v", machBrief(list), s, impl.MemText(behind), impl.MemText(watched), fault, impl.MemText(left), stop)
		}
		if fault.Code == 0 && !sameMem(watched, got) {
			t.Errorf("%s: scan %d with %v of %q: %q, but watched %q", machBrief(list), at, s, impl.MemText(behind), impl.MemText(got), impl.MemText(watched))
		}
		behind = want
	}
	if got := impl.MachRun(list, m, samples); !sameMem(got, behind) {
		t.Errorf("%s: %d scans of %q: %q, not %q", machBrief(list), len(samples), impl.MemText(m), impl.MemText(got), impl.MemText(behind))
	}
	return stop
}

// listSure is a list of which the lines are these, with `;` between.
func listSure(lines string) []impl.Inst {
	list, fault := listOf(strings.ReplaceAll(lines, ";", "\n"))
	if fault.Code != 0 {
		panic(lines)
	}
	return list
}

// stateOf is a machine with these bits and forks, the ones on top last.
func stateOf(bits, forks string) impl.MachState {
	listed := func(digits string) []bool {
		list := []bool{}
		for _, digit := range digits {
			list = append(list, digit == '1')
		}
		return list
	}
	return impl.MachState{Stack: stackOf(listed(bits)), Forks: forkOf(listed(forks))}
}

func TestMachConstants(t *testing.T) {
	if impl.MachUnder != 1 || impl.MachOver != 2 || impl.MachArea != 3 || impl.MachMaxScans != 100 {
		t.Error("the codes, or the bound of scans")
	}
}

// stepDone is a step: the bits and forks ahead of it, and behind it. G0 is on, G1 off.
type stepDone struct {
	line                    string
	bits, forks             string
	bitsBehind, forksBehind string
}

func stepsDone() []stepDone {
	ones, full := strings.Repeat("1", 16), "0110111011110111"
	return []stepDone{
		// Onto a full stack the first one is pushed out.
		{"ld G0", "", "", "1", ""}, {"ld G1", "", "", "0", ""}, {"ld G0", "0", "", "01", ""}, {"ld G1", "1", "1", "10", "1"}, {"ld G0", full[:15], "", full[:15] + "1", ""}, {"ld G0", full, "", full[1:] + "1", ""}, {"ld G1", ones, "10", ones[1:] + "0", "10"},
		// What is put together with a bit that is not there is not there either.
		{"and G0", "", "", "", ""}, {"and G0", "0", "", "0", ""}, {"and G0", "1", "", "1", ""}, {"and G1", "", "", "", ""}, {"and G1", "0", "", "0", ""}, {"and G1", "1", "", "0", ""}, {"and G0", "10", "1", "10", "1"}, {"and G1", "011", "", "010", ""}, {"and G1", full, "", full[:15] + "0", ""}, {"and G0", full, "", full, ""},
		{"or G0", "", "", "", ""}, {"or G0", "0", "", "1", ""}, {"or G0", "1", "", "1", ""}, {"or G1", "", "", "", ""}, {"or G1", "0", "", "0", ""}, {"or G1", "1", "", "1", ""}, {"or G0", "10", "1", "11", "1"}, {"or G1", "100", "", "100", ""}, {"or G0", full[:15] + "0", "", full[:15] + "1", ""},
		// Of one bit nothing is left.
		{"anb", "", "", "", ""}, {"anb", "0", "", "", ""}, {"anb", "1", "", "", ""}, {"anb", "00", "", "0", ""}, {"anb", "01", "", "0", ""}, {"anb", "10", "", "0", ""}, {"anb", "11", "", "1", ""}, {"anb", "101", "", "10", ""}, {"anb", "111", "01", "11", "01"}, {"anb", full, "", full[:15], ""}, {"anb", ones[1:] + "0", "", ones[2:] + "0", ""},
		{"orb", "", "", "", ""}, {"orb", "0", "", "", ""}, {"orb", "1", "", "", ""}, {"orb", "00", "", "0", ""}, {"orb", "01", "", "1", ""}, {"orb", "10", "", "1", ""}, {"orb", "11", "", "1", ""}, {"orb", "101", "", "11", ""}, {"orb", "100", "01", "10", "01"}, {"orb", full, "", full[:15], ""}, {"orb", "1" + full[1:14] + "00", "", "1" + full[1:14] + "0", ""},
		{"inv", "", "", "", ""}, {"inv", "0", "", "1", ""}, {"inv", "1", "", "0", ""}, {"inv", "11", "11", "10", "11"}, {"inv", full, "", full[:15] + "0", ""},
		// A bit that is not there is off; onto full forks the first one is pushed out.
		{"mps", "", "", "", "0"}, {"mps", "0", "", "0", "0"}, {"mps", "1", "", "1", "1"}, {"mps", "01", "1", "01", "11"}, {"mps", "10", "1", "10", "10"}, {"mps", "1", "0110111", "1", "01101111"}, {"mps", "1", "01101110", "1", "11011101"}, {"mps", "0", "11111111", "0", "11111110"}, {"mps", "", "11111111", "", "11111110"},
		// A fork that is not there is off.
		{"mrd", "", "", "", ""}, {"mrd", "0", "", "0", ""}, {"mrd", "1", "", "0", ""}, {"mrd", "", "1", "", "1"}, {"mrd", "0", "1", "1", "1"}, {"mrd", "1", "0", "0", "0"}, {"mrd", "0", "10", "0", "10"}, {"mrd", "010", "01", "011", "01"}, {"mrd", "1", "11111110", "0", "11111110"}, {"mrd", full, "0", full[:15] + "0", "0"},
		{"mpp", "", "", "", ""}, {"mpp", "0", "", "0", ""}, {"mpp", "1", "", "0", ""}, {"mpp", "", "1", "", ""}, {"mpp", "", "10", "", "1"}, {"mpp", "0", "1", "1", ""}, {"mpp", "1", "0", "0", ""}, {"mpp", "0", "10", "0", "1"}, {"mpp", "010", "01", "011", "0"}, {"mpp", "1", "01111110", "0", "0111111"}, {"mpp", full, "0", full[:15] + "0", ""},
		{"coil set:Y0", "", "", "", ""}, {"coil set:Y0", "1", "1", "1", "1"}, {"coil set:Y0", "10", "", "10", ""}, {"coil set:Y0", full, "11111111", full, "11111111"},
		{"end", "", "", "", ""}, {"end", "0", "", "", ""}, {"end", "1", "1", "", "1"}, {"end", "10", "", "1", ""}, {"end", "01", "", "0", ""}, {"end", full, "11111111", full[:15], "11111111"},
	}
}

// What each Code does to the stacks: empty, with one bit, with some, and full.
func TestStepsWrittenOut(t *testing.T) {
	for _, c := range stepsDone() {
		ahead, want := stateOf(c.bits, c.forks), stateOf(c.bitsBehind, c.forksBehind)
		i := listSure(c.line)[0]
		got := checkStep(t, ahead, i, 3)
		if got.Stack != want.Stack || got.Forks != want.Forks {
			t.Errorf("%s of %s %s: %s, not %s %s", c.line, c.bits, c.forks, stateText(got), c.bitsBehind, c.forksBehind)
		}
		mem := ""
		if c.line == "coil set:Y0" && strings.HasSuffix(c.bits, "1") {
			mem = "Y0"
		}
		if impl.MemText(got.Mem) != mem {
			t.Errorf("%s of %s %s leaves %q", c.line, c.bits, c.forks, impl.MemText(got.Mem))
		}
	}
}

// What is asked and what acts leave in the memory; a contact is asked whatever the bit on top is.
func TestStepsInMemory(t *testing.T) {
	for _, c := range []struct {
		mem, bits, line string
		dt              uint16
		behind          string
		bitsBehind      string
	}{
		{"X0", "", "ld +X0:E0", 0, "X0 E0", "1"}, {"X0 E0", "", "ld +X0:E0", 0, "X0 E0", "0"}, {"E0", "1", "ld -X0:E0", 0, "", "11"}, {"X0", strings.Repeat("0", 16), "ld +X0:E0", 0, "X0 E0", strings.Repeat("0", 15) + "1"},
		{"X0", "0", "and +X0:E0", 0, "X0 E0", "0"}, {"X0", "1", "and +X0:E0", 0, "X0 E0", "1"}, {"X0", "", "and +X0:E0", 0, "X0 E0", ""}, {"X0 E0", "1", "and +X0:E0", 0, "X0 E0", "0"}, {"E5", "1", "and -X0:E5", 0, "", "1"},
		{"X0", "1", "or +X0:E0", 0, "X0 E0", "1"}, {"X0", "0", "or +X0:E0", 0, "X0 E0", "1"}, {"X0", "", "or +X0:E0", 0, "X0 E0", ""}, {"X0 E0", "0", "or +X0:E0", 0, "X0 E0", "0"}, {"E5", "1", "or -X0:E5", 0, "", "1"},
		{"D1=5", "1", "and D1<6", 0, "D1=5", "1"}, {"D1=6", "1", "and D1<6", 0, "D1=6", "0"}, {"R1=nan", "0", "or R1<>R1", 0, "R1=nan", "1"}, {"T1=7!", "", "ld T1", 0, "T1=7!", "1"}, {"time=500", "", "ld G4", 0, "time=500", "1"}, {"", "", "ld G2", 0, "", "1"}, {"ran", "", "ld G2", 0, "ran", "0"},
		{"Y0", "0", "coil out:Y0", 0, "", "0"}, {"Y0", "", "coil out:Y0", 0, "", ""}, {"Y0", "10", "coil out:Y0", 0, "", "10"}, {"", "01", "coil out:Y0", 0, "Y0", "01"}, {"", "1", "coil timer:T0,9", 4, "T0=4", "1"}, {"T0=4", "1", "coil timer:T0,9", 5, "T0=9!", "1"}, {"T0=4", "0", "coil timer:T0,9", 5, "", "0"}, {"T0=4", "", "coil hold:T0,9", 65535, "T0=4", ""}, {"T0=4", "1", "coil hold:T0,9", 65535, "T0=9!", "1"}, {"T0=4!", "0", "coil late:T0,9", 3, "T0=7!", "0"},
		{"", "1", "coil count:C0,2", 9, "C0=1+", "1"}, {"C0=1+", "", "coil count:C0,2", 9, "C0=1", ""}, {"C0=1", "1", "coil count:C0,2", 9, "C0=2!+", "1"}, {"D0=5", "1", "coil div:D0,D0,0", 0, "D0=5 fault", "1"}, {"D0=5", "0", "coil div:D0,D0,0", 0, "D0=5", "0"}, {"", "1", "coil pulse:Y0,E0", 0, "Y0 E0", "1"}, {"E0", "1", "coil pulse:Y0,E0", 0, "E0", "1"}, {"S0 S3 S9", "1", "coil step:S1", 0, "S1 S9", "1"},
	} {
		state := stateOf(c.bits, "01")
		state.Mem = memRead(t, c.mem)
		got, want := checkStep(t, state, listSure(c.line)[0], c.dt), stateOf(c.bitsBehind, "01")
		if impl.MemText(got.Mem) != c.behind || got.Stack != want.Stack || got.Forks != want.Forks {
			t.Errorf("%s with %d of %s %q: %s, not %s %q", c.line, c.dt, c.bits, c.mem, stateText(got), c.bitsBehind, c.behind)
		}
	}
}

// codeInsts are instructions of each Code, with contacts that say both and remember, and coils that tell what came.
func codeInsts() []impl.Inst {
	return listSure("ld X0;ld /X0;ld +X0:E0;and X0;and /X0;and -X1:E1;or X0;or /X0;or +X0:E2;anb;orb;inv;mps;mrd;mpp;coil out:Y0;coil count:C0,2;coil timer:T0,5;end")
}

// Each Code on each of many stacks and forks, against the second reading.
func TestEachCodeOnEachStack(t *testing.T) {
	stacks, forks := []impl.BitStack{}, []impl.BitFork{}
	eachStack(func(s impl.BitStack, list []bool) {
		// All of the low ones, and of the high ones those with no, few or all bits on.
		if s.N <= 4 || s.N >= 14 && (s.Bits == 0 || s.Bits == 1<<s.N-1 || s.Bits%4097 == 3 || s.Bits&(s.Bits-1) == 0) {
			stacks = append(stacks, s)
		}
	})
	eachFork(func(f impl.BitFork, list []bool) {
		if f.N <= 2 || f.N >= 7 && (f.Bits == 0 || f.Bits%37 == 1 || f.Bits == 1<<f.N-1) {
			forks = append(forks, f)
		}
	})
	for _, i := range codeInsts() {
		for _, s := range stacks {
			for _, f := range forks {
				checkStep(t, impl.MachState{Mem: impl.Mem{X: 1, E: 2}, Stack: s, Forks: f}, i, 2)
			}
		}
	}
	for _, i := range listSure("mps;mrd;mpp") {
		eachFork(func(f impl.BitFork, list []bool) {
			for _, bits := range []string{"", "0", "1", "10", "01"} {
				checkStep(t, impl.MachState{Stack: stateOf(bits, "").Stack, Forks: f}, i, 0)
			}
		})
	}
}

// stays says which of the two stacks no call of chapter 1 gives anew at a Code.
func stays(code int) (stack, forks bool) {
	return code == 7 || code == 10, code != 7 && code != 9
}

// A stack or fork that is not ok stays as it is where no call of chapter 1 gives a new one; elsewhere it is taken for the empty one.
func TestStepsOfStacksThatAreNotOk(t *testing.T) {
	okStacks, okForks := []impl.BitStack{{}, {Bits: 1, N: 1}, {Bits: 2, N: 2}}, []impl.BitFork{{}, {Bits: 1, N: 1}, {Bits: 2, N: 2}}
	m := impl.Mem{X: 1}
	check := func(i impl.Inst, s impl.BitStack, f impl.BitFork) impl.MachState {
		t.Helper()
		got := checkStep(t, impl.MachState{Mem: m, Stack: s, Forks: f}, i, 1)
		stack, forks := stays(i.Code)
		if stack && got.Stack != s || forks && got.Forks != f {
			t.Errorf("%s of %v %v: %s", machBrief([]impl.Inst{i}), s, f, stateText(got))
		}
		return got
	}
	for _, i := range codeInsts() {
		for _, s := range badStacks() {
			for _, f := range okForks {
				got, empty := check(i, s, f), check(i, impl.BitStack{}, f)
				if stack, _ := stays(i.Code); !stack && got.Stack != empty.Stack || got.Forks != empty.Forks || !sameMem(got.Mem, empty.Mem) {
					t.Errorf("%s of %v: %s, of the empty one %s", machBrief([]impl.Inst{i}), s, stateText(got), stateText(empty))
				}
			}
		}
		for _, f := range badForks() {
			for _, s := range okStacks {
				got, empty := check(i, s, f), check(i, s, impl.BitFork{})
				if _, forks := stays(i.Code); !forks && got.Forks != empty.Forks || got.Stack != empty.Stack || !sameMem(got.Mem, empty.Mem) {
					t.Errorf("%s of %v: %s, of the empty one %s", machBrief([]impl.Inst{i}), f, stateText(got), stateText(empty))
				}
			}
			for _, s := range badStacks()[:20] {
				check(i, s, f)
			}
		}
	}
}

// A Code that is none does nothing, whatever else is there, and has no fault.
func TestStepsOfNoCode(t *testing.T) {
	ones := append(elemsSure([]string{"X0", "+X0:E0", "out:Y0", "set:M1", "step:S1"}), impl.Elem{}, impl.Elem{Op: 1}, impl.Elem{Op: 1, Args: []impl.DevArg{operand(1, 32, 0)}}, impl.Elem{Op: 21, Args: []impl.DevArg{operand(2, -1, 0), operand(3, 64, 0)}})
	states := []impl.MachState{{}, stateOf("1", "0"), stateOf(strings.Repeat("1", 16), "11111111"), {Mem: fullMem(), Stack: impl.BitStack{Bits: 1, N: 0}, Forks: impl.BitFork{N: -1}}, {Mem: anyMems(1)[0], Stack: impl.BitStack{N: 17}, Forks: impl.BitFork{Bits: 255, N: 3}}}
	around := listSure("ld X0;mps;coil out:Y0;mpp;coil out:Y1;end")
	for _, code := range noCodes() {
		for _, one := range ones {
			i := impl.Inst{Code: code, One: one}
			for _, s := range states {
				if got := checkStep(t, s, i, 9); !sameState(got, s) {
					t.Errorf("%v of %s: %s", i, stateText(s), stateText(got))
				}
			}
			for at := range len(around) + 1 {
				list := slices.Insert(slices.Clone(around), at, i)
				got, fault := impl.MachWatch(list, impl.Mem{}, impl.ActSample{X: 1})
				if text := impl.MemText(got); text != "X0 Y0 Y1 ran" || fault != (impl.MachFault{}) {
					t.Errorf("%v at %d: %q and %v", i, at, text, fault)
				}
				checkMach(t, list, impl.Mem{}, ticksOf(1, 1, 0))
			}
		}
	}
	if got, fault := impl.MachWatch(make([]impl.Inst, 1000), impl.Mem{}, impl.ActSample{}); fault != (impl.MachFault{}) || impl.MemText(got) != "ran" {
		t.Errorf("a thousand of nothing: %q and %v", impl.MemText(got), fault)
	}
}

// Each instruction that is ok, and each that is not, on memories and stacks of all sorts.
func TestEachInstructionIsDone(t *testing.T) {
	mems := append(actMems(), anyMems(6)...)
	insts := slices.Concat(goodInsts(), badInsts())
	for _, one := range append(closeContacts(), closeCoils()...) {
		for code := range 13 {
			insts = append(insts, instSure(code, one))
		}
	}
	for at, i := range insts {
		for j, m := range mems {
			state := stateOf([]string{"", "0", "1", "10", "01", strings.Repeat("1", 16)}[(at+j)%6], []string{"", "1", "10", "11111111"}[(at+j)%4])
			state.Mem = m
			checkStep(t, state, i, dtOf(at+j))
		}
		checkMach(t, []impl.Inst{i}, mems[at%len(mems)], ticksOf(dtOf(at), 1, 0))
		checkMach(t, []impl.Inst{instSure(1, "X0"), i, instSure(10, "out:Y31")}, mems[at%len(mems)], ticksOf(dtOf(at), 1, 0))
	}
}

// farOn is a contact or coil with each device as far on as there are of its kind, so many times.
func farOn(e impl.Elem, times int) impl.Elem {
	e.Args = slices.Clone(e.Args)
	for at, a := range e.Args {
		e.Args[at].N += times * rounds(a.Kind)
	}
	return e
}

// Devices that are not there are counted round by MachStep and MachScan; a machine that looks stops at them.
func TestMachCountsPlacesRound(t *testing.T) {
	moved := 0
	for at, text := range append(closeContacts(), closeCoils()...) {
		e, code := elemSure(text), 10
		if impl.ElemIsContact(e) {
			code = 1
		}
		for _, times := range []int{-1000, -2, -1, 1, 2, 1000} {
			far := farOn(e, times)
			if sameElem(far, e) {
				continue
			}
			moved++
			near, off := impl.Inst{Code: code, One: e}, impl.Inst{Code: code, One: far}
			for _, m := range actMems() {
				state := impl.MachState{Mem: m, Stack: impl.BitStack{Bits: uint16(at % 2), N: 1}}
				if got, want := checkStep(t, state, off, 3), impl.MachStep(state, near, 3); !sameState(got, want) {
					t.Errorf("%s, %d times on: %s, not %s", text, times, stateText(got), stateText(want))
				}
				list, there := []impl.Inst{instSure(1, "X0"), off, instSure(10, "out:M63")}, []impl.Inst{instSure(1, "X0"), near, instSure(10, "out:M63")}
				s := impl.ActSample{X: uint32(at), Dt: 3}
				if got, want := impl.MachScan(list, m, s), impl.MachScan(there, m, s); !sameMem(got, want) {
					t.Errorf("%s, %d times on: scan %q, not %q", text, times, impl.MemText(got), impl.MemText(want))
				}
				if got, fault := impl.MachWatch(list, m, s); fault != (impl.MachFault{Code: 3, At: 1}) || !sameMem(got, m) {
					t.Errorf("%s, %d times on: watched %q and %v", text, times, impl.MemText(got), fault)
				}
				checkMach(t, list, m, []impl.ActSample{s})
			}
		}
	}
	if moved < 300 {
		t.Errorf("%d contacts and coils are moved", moved)
	}
	for _, c := range []struct{ word, behind string }{{"Y32", "Y0 ran"}, {"Y-1", "Y31 ran"}, {"M64", "M0 ran"}, {"M-64", "M0 ran"}, {"M-1", "M63 ran"}} {
		kind, n := map[byte]int{'Y': 2, 'M': 3}[c.word[0]], 0
		fmt.Sscan(c.word[1:], &n)
		list := []impl.Inst{instSure(1, "G0"), {Code: 10, One: impl.Elem{Op: 21, Args: []impl.DevArg{operand(kind, n, 0)}}}}
		if got := impl.MemText(impl.MachScan(list, impl.Mem{}, impl.ActSample{})); got != c.behind {
			t.Errorf("%s: %q, not %q", c.word, got, c.behind)
		}
	}
	// There are five given bits, but they are counted round behind eight.
	for n, on := range map[int]bool{-8: true, 8: true, 5: false, 6: false, 7: false, 13: false, 16: true, 10: true, -6: true} {
		list := []impl.Inst{{Code: 1, One: impl.Elem{Op: 1, Args: []impl.DevArg{operand(6, n, 0)}}}, instSure(10, "out:Y0")}
		if got := impl.MachScan(list, impl.Mem{}, impl.ActSample{}); got.Y == 1 != on {
			t.Errorf("given bit %d: %q", n, impl.MemText(got))
		}
		if _, fault := impl.MachWatch(list, impl.Mem{}, impl.ActSample{}); fault != (impl.MachFault{Code: 3}) {
			t.Errorf("given bit %d: %v", n, fault)
		}
	}
}

// scanDone is what a scan by a list leaves.
type scanDone struct {
	mem, list string
	sample    impl.ActSample
	behind    string
}

func scansDone() []scanDone {
	block := "ld X0;ld X1;or /X2;anb;mps;and X3;coil out:Y0;mrd;inv;coil out:Y1;mpp;coil out:Y2;end"
	nested := "ld X0;mps;and X1;mps;and X2;coil out:Y0;mrd;coil out:Y1;mpp;and X3;coil out:Y2;mpp;coil out:Y3;end"
	return []scanDone{
		{"X9 Y1 fault", "", impl.ActSample{X: 1, Dt: 3}, "X0 Y1 time=3 ran"}, {"R11=3*2^0 R12=3*2^0", "", impl.ActSample{In: [4]float64{2.5, math.NaN(), negZero(), -7.75}}, "R11=3*2^0 R12=5*2^-1 R13=nan R14=-0 R15=-31*2^-2 ran"}, {"", "ld X0", impl.ActSample{X: 1}, "X0 ran"},
		{"", "ld X0;coil out:Y0;end", impl.ActSample{X: 1}, "X0 Y0 ran"}, {"Y0", "ld X0;coil out:Y0;end", impl.ActSample{}, "ran"}, {"X0", "ld X0;coil set:Y0;coil set:Y1;end", impl.ActSample{}, "ran"}, {"", "ld X0;inv;coil out:Y0;coil set:M1;end", impl.ActSample{}, "Y0 M1 ran"},
		{"", block, impl.ActSample{X: 9, Dt: 3}, "X0 X3 Y0 Y2 time=3 ran"}, {"", block, impl.ActSample{X: 5}, "X0 X2 Y1 ran"}, {"", block, impl.ActSample{X: 7}, "X0 X1 X2 Y2 ran"}, {"Y0 Y2", block, impl.ActSample{X: 2}, "X1 Y1 ran"},
		{"", nested, impl.ActSample{X: 15}, "X0 X1 X2 X3 Y0 Y1 Y2 Y3 ran"}, {"", nested, impl.ActSample{X: 7}, "X0 X1 X2 Y0 Y1 Y3 ran"}, {"", nested, impl.ActSample{X: 11}, "X0 X1 X3 Y1 Y2 Y3 ran"}, {"", nested, impl.ActSample{X: 13}, "X0 X2 X3 Y3 ran"}, {"Y0 Y1 Y2 Y3", nested, impl.ActSample{X: 14}, "X1 X2 X3 ran"},
		// Rungs in order, each with the memory as the one ahead has left it.
		{"", "ld X0;coil out:Y0;end;ld Y0;coil out:Y1;end", impl.ActSample{X: 1}, "X0 Y0 Y1 ran"}, {"", "ld Y0;coil out:Y1;end;ld X0;coil out:Y0;end", impl.ActSample{X: 1}, "X0 Y0 ran"}, {"", "ld X0;coil out:Y0;and Y0;coil out:Y1;end", impl.ActSample{X: 1}, "X0 Y0 Y1 ran"}, {"", "ld +X0:E0;coil out:Y0;end;ld +X0:E0;coil out:Y1;end", impl.ActSample{X: 1}, "X0 Y0 E0 ran"}, {"", "ld X1;and +X0:E0;coil out:Y0;end;ld +X0:E0;coil out:Y1;end", impl.ActSample{X: 1}, "X0 E0 ran"},
		// Ran is put at the end, Fault at the beginning; time has gone on when the first instruction comes.
		{"", "ld G2;coil set:Y0;end;ld G2;coil set:Y1;end", impl.ActSample{}, "Y0 Y1 ran"}, {"ran", "ld G2;coil set:Y0;end", impl.ActSample{}, "ran"}, {"fault", "ld G3;coil set:Y0;end;ld G0;coil div:D0,1,0;end;ld G3;coil set:Y1;end", impl.ActSample{}, "Y1 ran fault"}, {"time=499", "ld G4;coil out:Y0;end", impl.ActSample{Dt: 1}, "Y0 time=500 ran"}, {"time=4294967295", "ld G0;coil timer:T0,9;coil timer:T1,5;end", impl.ActSample{Dt: 7}, "T0=7 T1=5! time=6 ran"},
		// Of the stacks at the end nothing is kept: the next list begins with empty ones.
		{"", "ld G0;ld G0;mps;mps", impl.ActSample{}, "ran"}, {"", "coil out:Y0;mrd;coil out:Y1", impl.ActSample{}, "ran"}, {"Y0 Y1", "coil out:Y0;mrd;coil out:Y1", impl.ActSample{}, "ran"},
		// Lists that are not verified.
		{"", "and X0;orb;coil out:Y0;mrd;mpp;inv;coil out:Y1;end;ld G0;mps;ld G1;orb;mrd;coil out:Y2", impl.ActSample{X: 1}, "X0 Y2 ran"}, {"", "ld G0;anb;coil out:Y0", impl.ActSample{}, "ran"}, {"", "ld G0;orb;inv;coil out:Y0", impl.ActSample{}, "ran"}, {"", "ld G1;ld G0;end;coil out:Y0;inv;coil out:Y1", impl.ActSample{}, "Y1 ran"}, {"", "ld G0;coil out:Y0;inv;coil out:Y1;inv;coil out:Y2", impl.ActSample{}, "Y0 Y2 ran"}, {"", "ld G0;mps;ld G1;mpp;coil out:Y0;anb;coil out:Y1", impl.ActSample{}, "Y0 Y1 ran"},
		{"", "mps;ld G0;mrd;coil out:Y0", impl.ActSample{}, "ran"}, {"", "ld G0;mps;end;ld G1;mpp;coil out:Y0", impl.ActSample{}, "Y0 ran"}, {"", "ld G0;ld G1" + strings.Repeat(";ld G1", 14) + strings.Repeat(";orb", 15) + ";coil out:Y0", impl.ActSample{}, "Y0 ran"}, {"", "ld G0;ld G1" + strings.Repeat(";ld G1", 15) + strings.Repeat(";orb", 15) + ";coil out:Y0;orb;inv;coil out:Y1", impl.ActSample{}, "ran"},
		{"", "ld G0;mps;inv" + strings.Repeat(";mps", 7) + strings.Repeat(";mpp", 8) + ";coil out:Y0", impl.ActSample{}, "Y0 ran"}, {"", "ld G0;mps;inv" + strings.Repeat(";mps", 8) + strings.Repeat(";mpp", 8) + ";coil out:Y0;inv;mpp;coil out:Y1", impl.ActSample{}, "ran"},
	}
}

// MachScan of lists that are written out here, verified or not; MachRun and MachWatch of them.
func TestListScansWrittenOut(t *testing.T) {
	for _, c := range scansDone() {
		list, m := listSure(c.list), memRead(t, c.mem)
		if got := impl.MemText(impl.MachScan(list, m, c.sample)); got != c.behind {
			t.Errorf("%q with %v of %q: %q, not %q", c.list, c.sample, c.mem, got, c.behind)
		}
		if got := impl.MemText(impl.MachRun(list, m, []impl.ActSample{c.sample})); got != c.behind {
			t.Errorf("%q with %v of %q, as a run: %q, not %q", c.list, c.sample, c.mem, got, c.behind)
		}
		got, fault := impl.MachWatch(list, m, c.sample)
		if want := stopOf(list); fault != want || fault.Code == 0 && impl.MemText(got) != c.behind || fault.Code != 0 && !sameMem(got, m) {
			t.Errorf("%q with %v of %q, watched: %q and %v, not %q and %v", c.list, c.sample, c.mem, impl.MemText(got), fault, c.behind, want)
		}
		checkMach(t, list, m, slices.Repeat([]impl.ActSample{c.sample}, 3))
	}
}

// Runs that are written out here: each of the many scans counts, with what edges, timers and counters keep.
func TestListRunsWrittenOut(t *testing.T) {
	every := listSure("ld G0;coil add:D0,D0,1;coil hold:T0,32767;end;ld G4;coil add:D1,D1,1;end;ld +X0:E0;coil count:C0,3;coil add:D2,D2,1;end;ld -X0:E1;coil add:D3,D3,1;end")
	blink := slices.Repeat(ticksOf(50, 1, 0, 0), 34)
	for _, c := range []struct {
		count  int
		behind string
	}{
		{0, ""}, {1, "X0 E0 E1 T0=50 C0=1+ D0=1 D2=1 time=50 ran"}, {2, "T0=100 C0=1 D0=2 D2=1 D3=1 time=100 ran"}, {9, "T0=450 C0=3! D0=9 D2=3 D3=3 time=450 ran"}, {10, "X0 E0 E1 T0=500 C0=4!+ D0=10 D1=1 D2=4 D3=3 time=500 ran"},
		{99, "T0=4950 C0=33! D0=99 D1=50 D2=33 D3=33 time=4950 ran"}, {100, "X0 E0 E1 T0=5000 C0=34!+ D0=100 D1=50 D2=34 D3=33 time=5000 ran"}, {101, ""}, {102, ""},
	} {
		if got := impl.MemText(impl.MachRun(every, impl.Mem{}, blink[:c.count])); got != c.behind {
			t.Errorf("%d scans: %q, not %q", c.count, got, c.behind)
		}
		if c.count <= 100 {
			checkMach(t, every, impl.Mem{}, blink[:c.count])
		}
	}
	// The example of chapter 10, as a list.
	example := listSure("ld X0;and /M0;coil out:Y0;mps;and +X1:E0;coil count:C0,2;mpp;and C0;coil set:M0;end;ld M0;coil timer:T0,5;coil real:R0,C0;end;ld T0;coil reset:M0;coil reset:C0;end")
	if got := impl.MemText(impl.MachRun(example, impl.Mem{}, ticksOf(2, 1, 3, 1, 3, 3, 3, 3))); got != "X0 X1 Y0 E0 R0=1*2^1 time=14 ran" {
		t.Errorf("the example: %q", got)
	}
}

// ladderAndList are a ladder and a list that says the same.
type ladderAndList struct{ ladder, list string }

func laddersAndLists() []ladderAndList {
	return []ladderAndList{
		{"or( and( X0 X1 ) and( X2 not( or( X3 X4 ) ) ) ) -> out:Y0 [ X5 -> out:Y1 | or( X6 X7 ) -> out:Y2 [ X8 -> set:M1 ] | -> reset:M1 ]", "ld X0;and X1;ld X2;ld X3;or X4;inv;anb;orb;coil out:Y0;mps;and X5;coil out:Y1;mrd;ld X6;or X7;anb;coil out:Y2;and X8;coil set:M1;mpp;coil reset:M1;end"},
		{"and( X0 /M0 ) -> out:Y0 [ +X1:E0 -> count:C0,2 | C0 -> set:M0 ]\nM0 -> timer:T0,5 real:R0,C0\nT0 -> reset:M0 reset:C0", "ld X0;and /M0;coil out:Y0;mps;and +X1:E0;coil count:C0,2;mpp;and C0;coil set:M0;end;ld M0;coil timer:T0,5;coil real:R0,C0;end;ld T0;coil reset:M0;coil reset:C0;end"},
		{"and( or( X0 Y0 ) /X1 ) -> out:Y0\n+Y0:E0 -> step:S1 add:D0,D0,1\n-Y0:E1 -> step:S0 div:D1,D0,D1", "ld X0;or Y0;and /X1;coil out:Y0;end;ld +Y0:E0;coil step:S1;coil add:D0,D0,1;end;ld -Y0:E1;coil step:S0;coil div:D1,D0,D1;end"},
		{"not( and( +X0:E0 or( -X1:E1 X2 ) not( X3 ) ) ) -> [ X4 -> [ +X5:E2 -> hold:T0,9 | T0 -> late:T1,4 ] | T1 -> pulse:M0,E3 [ M0 -> count:C0,3 ] ]\nC0>=2 -> move:D0,C0 whole:D1,R12", "ld +X0:E0;ld -X1:E1;or X2;anb;ld X3;inv;anb;inv;mps;and X4;mps;and +X5:E2;coil hold:T0,9;mpp;and T0;coil late:T1,4;mpp;and T1;coil pulse:M0,E3;and M0;coil count:C0,3;end;ld C0>=2;coil move:D0,C0;coil whole:D1,R12;end"},
		{"or( X0 and( X1 or( X2 and( X3 or( X4 and( X5 X6 ) ) ) ) ) ) -> out:Y0 [ and( or( +X0:E0 -X1:E1 ) not( +X2:E2 ) ) -> out:Y1 ]", "ld X0;ld X1;ld X2;ld X3;ld X4;ld X5;and X6;orb;anb;orb;anb;orb;coil out:Y0;ld +X0:E0;or -X1:E1;anb;ld +X2:E2;inv;anb;coil out:Y1;end"},
	}
}

// A list that says what a ladder says leaves, scan by scan, what the ladder means.
func TestListsDoWhatLaddersMean(t *testing.T) {
	r, mems := rand.New(rand.NewSource(13)), append(anyMems(10), actMems()...)
	for _, c := range laddersAndLists() {
		rungs, list := ladderSure(c.ladder), listSure(c.list)
		if f := impl.SureCheck(list); f != (impl.SureFault{}) {
			t.Errorf("%q: %v", c.list, f)
		}
		for round := range 60 {
			m, samples := mems[round%len(mems)], anySamples(r, 1+r.Intn(30))
			for i := range samples {
				samples[i].X = r.Uint32()
			}
			for at := range samples {
				if got, want := impl.MachRun(list, m, samples[:at+1]), impl.EvalRun(rungs, m, samples[:at+1]); !sameMem(got, want) {
					t.Fatalf("%q: %d scans of %q: %q, not %q", c.list, at+1, impl.MemText(m), impl.MemText(got), impl.MemText(want))
				}
			}
		}
	}
}

// The empty list and the nil list; no samples.
func TestMachOfNothing(t *testing.T) {
	for _, m := range append(anyMems(5), actMems()...) {
		for _, list := range [][]impl.Inst{nil, {}, mixedInsts()[:0]} {
			for _, s := range anySamples(rand.New(rand.NewSource(1)), 5) {
				want := impl.ActEnd(impl.ActStart(m, s))
				watched, fault := impl.MachWatch(list, m, s)
				if got := impl.MachScan(list, m, s); !sameMem(got, want) || !sameMem(watched, want) || fault != (impl.MachFault{}) {
					t.Errorf("nothing with %v of %q: %q, watched %q and %v", s, impl.MemText(m), impl.MemText(got), impl.MemText(watched), fault)
				}
			}
			checkMach(t, list, m, ticksOf(7, 1, 2, 3))
		}
		for _, list := range [][]impl.Inst{nil, mixedInsts(), badInsts(), make([]impl.Inst, 1001)} {
			for _, none := range [][]impl.ActSample{nil, {}, ticksOf(1, 1)[:0]} {
				if got := impl.MachRun(list, m, none); !sameMem(got, m) {
					t.Errorf("no scans of %q: %q", impl.MemText(m), impl.MemText(got))
				}
			}
		}
	}
}

// At the bound of instructions each is done, also the last one; one more, and the memory is as it is, without a fault.
func TestMachMaxList(t *testing.T) {
	filled := func(count int) []impl.Inst {
		list := slices.Concat(listSure("ld G0;coil add:D0,D0,1;end"), slices.Repeat(listSure("ld X0;coil set:Y0;end"), count/3))[:count-2]
		return append(list, listSure("ld X0;coil add:D1,D1,1")...)
	}
	m := memRead(t, "X3 Y9 D1=5 time=8 fault")
	for _, c := range []struct {
		count  int
		behind string
	}{{999, "X0 Y0 Y9 D0=1 D1=6 time=10 ran"}, {1000, "X0 Y0 Y9 D0=1 D1=6 time=10 ran"}, {1001, "X3 Y9 D1=5 time=8 fault"}, {1002, "X3 Y9 D1=5 time=8 fault"}, {2000, "X3 Y9 D1=5 time=8 fault"}, {66536, "X3 Y9 D1=5 time=8 fault"}} {
		list, s := filled(c.count), impl.ActSample{X: 1, Dt: 2}
		watched, fault := impl.MachWatch(list, m, s)
		texts := []string{impl.MemText(impl.MachScan(list, m, s)), impl.MemText(impl.MachRun(list, m, []impl.ActSample{s})), impl.MemText(watched)}
		if len(list) != c.count || !slices.Equal(texts, []string{c.behind, c.behind, c.behind}) || fault != (impl.MachFault{}) {
			t.Errorf("%d instructions: %q and %v", len(list), texts, fault)
		}
		// What would make it stop is not told of a list that is too long.
		spoilt := append(listSure("and X0"), list[1:]...)
		if got, f := impl.MachWatch(spoilt, m, s); f != stopOf(spoilt) || !sameMem(got, m) || (f.Code == 0) != (c.count > 1000) {
			t.Errorf("%d instructions: %v and %q", len(spoilt), f, impl.MemText(got))
		}
		last := append(slices.Clone(list[:len(list)-1]), listSure("mrd")...)
		if got, f := impl.MachWatch(last, m, s); c.count <= 1000 && f != (impl.MachFault{Code: 1, At: c.count - 1}) || c.count > 1000 && f.Code != 0 || !sameMem(got, m) {
			t.Errorf("%d instructions: %v and %q", len(last), f, impl.MemText(got))
		}
		if got, want := impl.MachRun(list, m, ticksOf(2, 1, 0, 1)), m; c.count > 1000 && !sameMem(got, want) {
			t.Errorf("%d instructions, three scans: %q", len(list), impl.MemText(got))
		}
	}
}

// At the bound of scans each is made; one more, and none is.
func TestMachMaxScans(t *testing.T) {
	r := rand.New(rand.NewSource(101))
	many := anySamples(r, 1000)
	for _, list := range append(closeLists(101, 6), nil, badInsts(), listSure("coil out:Y0;ld X0;orb;mpp")) {
		for _, m := range []impl.Mem{{}, fullMem(), anyMems(1)[0]} {
			for _, count := range []int{1, 2, 99, 100} {
				if got := impl.MachRun(list, m, many[:count]); !got.Ran || got.X != many[count-1].X {
					t.Errorf("%s: %d scans leave %q", machBrief(list), count, impl.MemText(got))
				}
				checkMach(t, list, m, many[:count])
			}
			for _, count := range []int{101, 102, 200, 256, 257, 356, 1000} {
				if got := impl.MachRun(list, m, many[:count]); !sameMem(got, m) {
					t.Errorf("%s: %d scans of %q: %q", machBrief(list), count, impl.MemText(m), impl.MemText(got))
				}
			}
		}
	}
}

// checkStop asks where a machine that looks stops, and for the memory as it was; with a rung ahead the place is counted over it.
func checkStop(t *testing.T, list []impl.Inst, code, at int) {
	t.Helper()
	m := memRead(t, "X9 Y0 M3 E1 T0=7! C1=9 D0=4 R12=3*2^0 time=77 fault")
	s := impl.ActSample{X: 1, Dt: 5, In: [4]float64{1, 2, 3, 4}}
	if got, fault := impl.MachWatch(list, m, s); fault != (impl.MachFault{Code: code, At: at}) || (fault.Code != 0) != sameMem(got, m) {
		t.Errorf("%s: %v and %q, not %d at %d", machBrief(list), fault, impl.MemText(got), code, at)
	}
	ahead := listSure("ld X0;or +X0:E0;mps;coil set:Y5;mpp;coil add:D0,D0,1;end")
	behind := len(ahead) + at
	if code == 0 {
		behind = 0
	}
	if got, fault := impl.MachWatch(slices.Concat(ahead, list), m, s); fault != (impl.MachFault{Code: code, At: behind}) || (fault.Code != 0) != sameMem(got, m) {
		t.Errorf("%s behind a rung: %v and %q, not %d at %d", machBrief(list), fault, impl.MemText(got), code, behind)
	}
	for _, tail := range [][]impl.Inst{nil, listSure("and X0"), listSure("end;end;end"), {{Code: 1, One: impl.Elem{Op: 1, Args: []impl.DevArg{operand(1, 32, 0)}}}}, slices.Repeat(listSure("ld X0"), 17)} {
		if code == 0 {
			continue
		}
		// What would make it stop again, further on, is not told.
		if _, fault := impl.MachWatch(slices.Concat(list, tail), m, s); fault != (impl.MachFault{Code: code, At: at}) {
			t.Errorf("%s, then %s: %v", machBrief(list), machBrief(tail), fault)
		}
	}
}

// farInst is an instruction of this word, with a device that is not there.
func farInst(word string) impl.Inst {
	i := instsOf(word)[0]
	i.One = impl.Elem{Op: i.One.Op, Args: []impl.DevArg{operand(3, 64, 0)}}
	return i
}

// TestWhereWatchStops has for each beginning what makes the machine stop at each Code behind it, from `ld` to `end`; 0, if nothing does.
func TestWhereWatchStops(t *testing.T) {
	for _, c := range []struct{ words, codes string }{
		{"", "01111111111"},
		{"ld", "00011001100"},
		{"ld ld", "00000001100"},
		{"ld ld ld", "00000001100"},
		{repeated("ld", 15), "00000001100"},
		{repeated("ld", 16), "20000001100"},
		{repeated("ld", 16) + "anb", "00000001100"},
		{repeated("ld", 16) + "end", "00000001100"},
		{repeated("ld", 16) + "orb ld", "20000001100"},
		{repeated("ld", 16) + "inv and or mps coil", "20000000000"},
		{"ld end", "01111111111"},
		{"ld ld end", "00011001100"},
		{"ld ld anb", "00011001100"},
		{"ld ld orb", "00011001100"},
		{"ld coil", "00011001100"},
		{"ld coil end", "01111111111"},
		{"ld coil inv or", "00011001100"},
		{"ld mps", "00011000000"},
		{"ld mps mrd", "00011000000"},
		{"ld mps mpp", "00011001100"},
		{"ld mps mps mpp", "00011000000"},
		{"ld mps mps mpp mpp", "00011001100"},
		{"ld mps end", "01111111111"},
		{"ld mps end ld", "00011000000"},
		{"ld mps ld", "00000000000"},
		{"ld " + repeated("mps", 7), "00011000000"},
		{"ld " + repeated("mps", 8), "00011020000"},
		{"ld " + repeated("mps", 8) + "mrd", "00011020000"},
		{"ld " + repeated("mps", 8) + "mpp", "00011000000"},
		{"ld " + repeated("mps", 8) + "mpp mps", "00011020000"},
		{"ld " + repeated("mps", 8) + "end", "01111111111"},
		{"ld " + repeated("mps", 8) + "end ld", "00011020000"},
		{repeated("ld", 16) + repeated("mps", 8), "20000020000"},
		{"ld ? mps ? coil ? ?", "00011000000"},
	} {
		beginning := instsOf(c.words)
		for at, i := range beginning {
			if i.Code == 0 {
				beginning[at].Code = 99
			}
		}
		for _, row := range listRows() {
			code, at := int(c.codes[row.code-1]-'0'), len(beginning)
			if code == 0 {
				at = 0
			}
			checkStop(t, slices.Concat(beginning, instsOf(row.word)), code, at)
			checkStop(t, slices.Concat(beginning, instsOf(row.word+"?")), code, at)
			// A device that is not there is told only where nothing else is.
			if code == 0 {
				code = 3
			}
			checkStop(t, slices.Concat(beginning, []impl.Inst{farInst(row.word)}), code, len(beginning))
		}
		checkStop(t, slices.Concat(beginning, []impl.Inst{{Code: 12, One: farInst("ld").One}}), 0, 0)
	}
}

// MachArea: any operand, needless or not, of any device that is not there, in an instruction of any Code; no other Kind has an area, and P is not looked at.
func TestMachArea(t *testing.T) {
	around := map[int]string{1: "", 2: "ld", 3: "ld", 4: "ld ld", 5: "ld ld", 6: "ld", 7: "ld", 8: "ld mps", 9: "ld mps", 10: "ld", 11: "ld"}
	far := map[impl.DevArg]bool{}
	for _, row := range devRows() {
		if row.size == 0 {
			continue
		}
		for _, n := range []int{0, 1, row.size - 1} {
			far[operand(row.kind, n, 0)], far[operand(row.kind, n, 1)], far[operand(row.kind, n, math.MinInt)] = false, false, false
		}
		for _, n := range []int{-1, -2, row.size, row.size + 1, 255, 256, 65536, 1 << 32, -1 << 32, math.MaxInt, math.MinInt} {
			far[operand(row.kind, n, 0)], far[operand(row.kind, n, 3)] = true, true
		}
	}
	for _, kind := range []int{math.MinInt, -10, -1, 0, 11, 12, 13, 14, 100, 256 + 1, 1<<32 + 1, math.MaxInt} {
		for _, n := range []int{-1, 0, 5, 64, 32768, math.MinInt, math.MaxInt} {
			far[operand(kind, n, 0)] = false
		}
	}
	if len(far) < 300 {
		t.Fatalf("%d operands", len(far))
	}
	near := operand(1, 0, 0)
	for a, outside := range far {
		for code, words := range around {
			for _, args := range [][]impl.DevArg{{a}, {a, near}, {near, a}, {near, near, a}, {near, near, near, near, a}, {a, a}} {
				for _, op := range []int{0, 1, 21, 31, 99} {
					list := append(instsOf(words), impl.Inst{Code: code, One: impl.Elem{Op: op, Args: args}})
					want := impl.MachFault{}
					if outside {
						want = impl.MachFault{Code: 3, At: len(list) - 1}
					}
					if _, fault := impl.MachWatch(list, impl.Mem{}, impl.ActSample{}); fault != want {
						t.Errorf("%s: %v, not %v", machBrief(list), fault, want)
					}
				}
			}
		}
	}
	// Each device that is there is passed.
	for _, w := range devices() {
		checkStop(t, []impl.Inst{{Code: 1, One: impl.Elem{Op: 1, Args: []impl.DevArg{w.a}}}}, 0, 0)
	}
}

// The codes at the first place, within a list and at its end.
func TestWatchStopsWrittenOut(t *testing.T) {
	far := ";ld far"
	for _, c := range []struct {
		list     string
		code, at int
	}{
		{"and X0", 1, 0}, {"or X0;ld X0", 1, 0}, {"anb", 1, 0}, {"orb", 1, 0}, {"inv", 1, 0}, {"mps", 1, 0}, {"mrd", 1, 0}, {"mpp", 1, 0}, {"coil out:Y0", 1, 0}, {"end", 1, 0}, {"ld X0;anb", 1, 1}, {"ld X0;orb;coil out:Y0", 1, 1}, {"ld X0;mrd", 1, 1}, {"ld X0;mpp;coil out:Y0", 1, 1}, {"ld X0;end;end", 1, 2}, {"ld X0;coil out:Y0;end;coil out:Y0;end", 1, 3}, {"ld X0;mps;mpp;mpp", 1, 3}, {"ld X0;mps;mpp;mrd;end", 1, 3}, {"ld X0;ld X0;anb;anb", 1, 3}, {"ld X0;mps;end;mrd", 1, 3},
		{strings.Repeat("ld X0;", 17), 2, 16}, {strings.Repeat("ld X0;", 20) + "anb", 2, 16}, {"ld X0;" + strings.Repeat("mps;", 9), 2, 9}, {"ld X0;" + strings.Repeat("mps;", 9) + "mpp;end", 2, 9}, {strings.Repeat("ld X0;", 16) + "anb;ld X0;ld X0", 2, 18},
		{far[1:], 3, 0}, {"ld X0" + far + ";coil out:Y0", 3, 1}, {"ld X0;coil out:Y0" + far, 3, 2}, {strings.Repeat("ld X0;", 15) + far[1:], 3, 15}, {strings.Repeat("ld X0;", 16) + far[1:], 2, 16}, {"ld X0;and far", 3, 1}, {"and far", 1, 0}, {"ld X0;coil far", 3, 1}, {"coil far", 1, 0}, {"or far", 1, 0},
		{"ld X0;mps;ld X0;anb;coil out:Y0", 0, 0}, {"ld X0;mps;mps", 0, 0}, {strings.Repeat("ld X0;", 16), 0, 0}, {"ld X0;" + strings.Repeat("mps;", 8), 0, 0}, {"ld X0;coil out:Y0;inv;coil out:Y1;or X1;coil out:Y2;end", 0, 0}, {"ld X0;mps;mrd;mrd;mpp;end", 0, 0}, {"ld X0;ld X1;coil out:Y0;end;coil out:Y1;end", 0, 0}, {"ld X0;mps;end;ld X1;mpp;coil out:Y0", 0, 0}, {strings.Repeat("ld X0;", 16) + "orb;ld X0;coil out:Y0", 0, 0},
	} {
		list := []impl.Inst{}
		for _, line := range strings.Split(strings.Trim(c.list, ";"), ";") {
			if word, ok := strings.CutSuffix(line, " far"); ok {
				list = append(list, farInst(word))
			} else {
				list = append(list, listSure(line)...)
			}
		}
		checkStop(t, list, c.code, c.at)
		checkMach(t, list, impl.Mem{}, ticksOf(2, 1, 3, 0))
	}
}

// closeLists are lists that are verified, by chance, with few devices, so that much of a list asks what another part of it has changed.
func closeLists(seed int64, count int) [][]impl.Inst {
	r, lists := rand.New(rand.NewSource(seed)), [][]impl.Inst{}
	contacts, coils := elemsSure(closeContacts()), elemsSure(closeCoils())
	for len(lists) < count {
		words := ""
		for range 1 + r.Intn(5) {
			words += wordsOfRung(r)
		}
		list := instsOf(words)
		for at, i := range list {
			switch i.Code {
			case 1, 2, 3:
				list[at].One = contacts[r.Intn(len(contacts))]
			case 10:
				list[at].One = coils[r.Intn(len(coils))]
			}
		}
		if len(list) <= 300 {
			lists = append(lists, list)
		}
	}
	return lists
}

// sureLists are lists that are verified, of all sorts.
func sureLists(seed int64, count int) [][]impl.Inst {
	lists := slices.Concat(closeLists(seed, count), someVerified(seed, count/2))
	for _, words := range []string{repeated("ld", 16) + repeated("anb", 15) + "coil end", repeated("ld", 16) + repeated("orb", 15) + "coil end", "ld " + repeated("mps", 8) + "coil" + repeated("mpp and coil", 8) + "end", "ld coil " + repeated("ld", 15) + repeated("orb", 14) + "anb coil end"} {
		lists = append(lists, instsOf(words))
	}
	for _, c := range laddersAndLists() {
		lists = append(lists, listSure(c.list))
	}
	return lists
}

// P41: of a list that is verified MachWatch never stops, on any memory and sample, and MachScan leaves the same memory.
func TestNeverOutside(t *testing.T) {
	r, turned := rand.New(rand.NewSource(41)), 0
	mems := append(anyMems(40), actMems()...)
	for at, list := range sureLists(410, 300) {
		if f := impl.SureCheck(list); f != (impl.SureFault{}) {
			t.Fatalf("%s: %v", machBrief(list), f)
		}
		for round := range 3 {
			m := mems[(at*3+round)%len(mems)]
			for _, s := range anySamples(r, 6) {
				watched, fault := impl.MachWatch(list, m, s)
				scanned := impl.MachScan(list, m, s)
				if fault != (impl.MachFault{}) || !sameMem(watched, scanned) {
					t.Errorf("%s with %v of %q: %v, %q, not %q", machBrief(list), s, impl.MemText(m), fault, impl.MemText(watched), impl.MemText(scanned))
				}
				if !sameMem(scanned, impl.ActEnd(impl.ActStart(m, s))) {
					turned++
				}
				m = scanned
			}
		}
		if fault := checkMach(t, list, mems[at%len(mems)], anySamples(r, 3)); fault.Code != 0 {
			t.Errorf("%s: %v", machBrief(list), fault)
		}
	}
	if turned < 3000 {
		t.Errorf("%d scans do something", turned)
	}
}

// P42: instruction by instruction the stacks of the machine are ok and as high as SureTrace says, and empty behind each end.
func TestHeightsOfTheMachine(t *testing.T) {
	r, ends := rand.New(rand.NewSource(42)), 0
	mems := append(anyMems(20), actMems()...)
	for at, list := range sureLists(420, 200) {
		trace := impl.SureTrace(list)
		for _, s := range anySamples(r, 2) {
			state := impl.MachState{Mem: impl.ActStart(mems[at%len(mems)], s)}
			for place, i := range list {
				state = impl.MachStep(state, i, s.Dt)
				if state.Stack.N != trace[place].Bits || state.Forks.N != trace[place].Forks || !impl.BitOk(state.Stack) || !impl.ForkOk(state.Forks) {
					t.Fatalf("%s: behind %d %s, not %v", machBrief(list), place, stateText(state), trace[place])
				}
				if i.Code == 11 {
					ends++
					if state.Stack != (impl.BitStack{}) || state.Forks != (impl.BitFork{}) {
						t.Fatalf("%s: behind the end at %d %s", machBrief(list), place, stateText(state))
					}
				}
			}
			if got, want := impl.MachScan(list, mems[at%len(mems)], s), impl.ActEnd(state.Mem); !sameMem(got, want) {
				t.Errorf("%s with %v: %q, step by step %q", machBrief(list), s, impl.MemText(got), impl.MemText(want))
			}
		}
	}
	if ends < 500 {
		t.Errorf("%d ends", ends)
	}
}

// looseOnes are what may stand in an instruction: contacts and coils, with operands that are missing, needless or not there.
func looseOnes() []impl.Elem {
	ones := append(elemsSure(closeContacts()), elemsSure(closeCoils())...)
	for _, e := range slices.Clone(ones) {
		ones = append(ones, impl.Elem{Op: e.Op, Args: e.Args[:len(e.Args)-1]}, impl.Elem{Op: e.Op, Args: append(slices.Clone(e.Args), operand(1, 0, 0))}, impl.Elem{Op: 52 - e.Op, Args: e.Args})
	}
	return append(ones, impl.Elem{}, impl.Elem{Op: 99}, impl.Elem{Op: -1, Args: []impl.DevArg{operand(2, 0, 0)}})
}

// looseLists are lists by chance that are hardly ever verified; in some of them few instructions or none make a machine that looks stop.
func looseLists(seed int64, count int) [][]impl.Inst {
	r, ones, lists := rand.New(rand.NewSource(seed)), looseOnes(), [][]impl.Inst{}
	for at := range count {
		list := []impl.Inst{}
		if at%4 == 0 {
			// Nearly full stacks, which lists by chance hardly come to.
			list = instsOf(repeated("ld", 14+r.Intn(3)) + repeated("mps", 6+r.Intn(3)))
		}
		for range r.Intn(40) {
			i := impl.Inst{Code: r.Intn(14) - 1, One: ones[r.Intn(len(ones))]}
			if r.Intn(30) == 0 {
				i.One = farOn(i.One, 1-2*r.Intn(2))
			}
			if r.Intn(3) == 0 {
				i.Code = 1
			}
			if at%3 != 0 && stopOf(append(slices.Clone(list), i)).Code != 0 {
				continue
			}
			list = append(list, i)
		}
		lists = append(lists, list)
	}
	return lists
}

// P44: where MachWatch does not stop, verified or not, MachScan leaves the same memory; where it does stop, the memory is as it was.
func TestScansWhereWatchDoesNotStop(t *testing.T) {
	r, stops, unsure := rand.New(rand.NewSource(44)), map[int]int{}, 0
	mems := append(anyMems(30), actMems()...)
	lists := looseLists(440, 1500)
	for _, w := range wrongLists() {
		lists = append(lists, instsOf(w.words))
	}
	for at, list := range lists {
		m, samples := mems[at%len(mems)], anySamples(r, 3)
		stop := checkMach(t, list, m, samples)
		stops[stop.Code]++
		if stop.Code == 0 && impl.SureCheck(list).Code != 0 {
			unsure++
		}
		for _, s := range samples {
			watched, fault := impl.MachWatch(list, m, s)
			if want := impl.MachScan(list, m, s); fault.Code == 0 && !sameMem(watched, want) || fault.Code != 0 && !sameMem(watched, m) {
				t.Errorf("%s with %v of %q: %v and %q, scanned %q", machBrief(list), s, impl.MemText(m), fault, impl.MemText(watched), impl.MemText(want))
			}
		}
	}
	for code := range 4 {
		if stops[code] < 20 {
			t.Errorf("code %d is told %d times: %v", code, stops[code], stops)
		}
	}
	if unsure < 500 {
		t.Errorf("%d lists are not verified and do not stop", unsure)
	}
}

// walked is a machine behind the instructions of a list.
func walked(s impl.MachState, list []impl.Inst, dt uint16) impl.MachState {
	for _, i := range list {
		s = impl.MachStep(s, i, dt)
	}
	return s
}

// P43: MachStep of the instructions of a list and then of another one is MachStep of those of both, from any state, and scans of two lists that are verified are so too.
func TestListsAreOneAfterTheOther(t *testing.T) {
	mems := append(anyMems(10), actMems()...)
	lists := slices.Concat(closeLists(43, 25), looseLists(430, 25))
	for i, a := range lists {
		for j, b := range lists {
			state := stateOf([]string{"", "1", "010"}[i%3], []string{"", "1"}[j%2])
			if (i+j)%4 == 0 {
				state.Stack, state.Forks = badStacks()[i], badForks()[j]
			}
			state.Mem = mems[(i+j)%len(mems)]
			got, want := walked(state, slices.Concat(a, b), 3), walked(walked(state, a, 3), b, 3)
			second := state
			for _, one := range slices.Concat(a, b) {
				second = steppedBy(second, one, 3)
			}
			if !sameState(got, want) || !sameState(got, second) {
				t.Errorf("%s, then %s: %s, %s and %s", machBrief(a), machBrief(b), stateText(got), stateText(want), stateText(second))
			}
		}
	}
	// Behind a list that is verified the machine is as it was at first, but for its memory.
	for i, a := range closeLists(43, 25) {
		for j, b := range closeLists(431, 25) {
			m, s := mems[(i+j)%len(mems)], impl.ActSample{X: uint32(i + j), Dt: dtOf(i)}
			begun := impl.ActStart(m, s)
			first := walked(impl.MachState{Mem: begun}, a, s.Dt)
			then := walked(impl.MachState{Mem: first.Mem}, b, s.Dt)
			if got := impl.MachScan(slices.Concat(a, b), m, s); !sameMem(got, impl.ActEnd(then.Mem)) {
				t.Errorf("%s, then %s: %q, not %q", machBrief(a), machBrief(b), impl.MemText(got), impl.MemText(then.Mem))
			}
		}
	}
}

// P43: scans of some samples and then of others are those of both; a run is a scan for each sample.
func TestListScansAreOneAfterTheOther(t *testing.T) {
	r := rand.New(rand.NewSource(43))
	mems := append(anyMems(30), actMems()...)
	for at, list := range slices.Concat(closeLists(432, 40), looseLists(433, 40)) {
		m, samples := mems[at%len(mems)], anySamples(r, []int{3, 12, 100}[at%3])
		whole, each := impl.MachRun(list, m, samples), m
		for _, s := range samples {
			each = impl.MachScan(list, each, s)
		}
		if !sameMem(each, whole) {
			t.Errorf("%s: scan by scan %q, at once %q", machBrief(list), impl.MemText(each), impl.MemText(whole))
		}
		for cut := 0; cut <= len(samples); cut += 1 + len(samples)/7 {
			if got := impl.MachRun(list, impl.MachRun(list, m, samples[:cut]), samples[cut:]); !sameMem(got, whole) {
				t.Errorf("%s: %d scans and then %d: %q, not %q", machBrief(list), cut, len(samples)-cut, impl.MemText(got), impl.MemText(whole))
			}
		}
		checkMach(t, list, m, samples[:3])
	}
}

// No argument is written into, nor behind its end; what stands behind counts for nothing; nothing is kept from call to call.
func TestMachWritesIntoNothing(t *testing.T) {
	r, mems := rand.New(rand.NewSource(45)), anyMems(5)
	lists := slices.Concat(sureLists(450, 40), looseLists(451, 60), [][]impl.Inst{nil, badInsts(), goodInsts(), slices.Repeat(mixedInsts(), 200), slices.Repeat(mixedInsts(), 201)})
	for at, list := range lists {
		m, samples := mems[at%5], roomy(anySamples(r, 3), impl.ActSample{X: 1 << 9, Dt: 9})
		room, kept, before := withRoomBehind(list), fmt.Sprint(samples[:cap(samples)]), m
		ahead := roomsBehind(room)
		for range 2 {
			checkMach(t, room, m, samples)
			for _, i := range room[:min(len(room), 20)] {
				checkStep(t, impl.MachState{Mem: m, Stack: impl.BitStack{Bits: 1, N: 1}, Forks: impl.BitFork{N: 1}}, i, 4)
			}
			impl.MachWatch(listSure("ld G0;ld G0;mps;mps;anb;anb"), fullMem(), impl.ActSample{X: 7})
			impl.MachScan(listSure("ld G0;ld G0;mps;mps"), fullMem(), impl.ActSample{X: 7})
		}
		if got := roomsBehind(room); got != ahead || fmt.Sprint(samples[:cap(samples)]) != kept || !sameMem(m, before) {
			t.Errorf("%s: written into: %s", machBrief(list), got)
		}
	}
}

// Very large instructions and lists are answered.
func TestMachOfVeryLargeLists(t *testing.T) {
	many := slices.Repeat([]impl.DevArg{operand(1, 0, 0)}, 1000000)
	last := append(slices.Clone(many), operand(1, -1, 0))
	for _, row := range listRows() {
		for _, op := range []int{0, 1, 21} {
			state := stateOf("11", "1")
			checkStep(t, state, impl.Inst{Code: row.code, One: impl.Elem{Op: op, Args: many}}, 1)
			ahead := listSure("ld X0;ld X0;mps")
			if _, fault := impl.MachWatch(append(ahead, impl.Inst{Code: row.code, One: impl.Elem{Op: op, Args: many}}), impl.Mem{}, impl.ActSample{}); fault != (impl.MachFault{}) {
				t.Errorf("%s with a million operands: %v", row.word, fault)
			}
			if _, fault := impl.MachWatch(append(ahead, impl.Inst{Code: row.code, One: impl.Elem{Op: op, Args: last}}), impl.Mem{}, impl.ActSample{}); fault != (impl.MachFault{Code: 3, At: 3}) {
				t.Errorf("%s with a million operands, and one outside: %v", row.word, fault)
			}
		}
	}
	m := anyMems(1)[0]
	for _, i := range codeInsts() {
		list := slices.Repeat([]impl.Inst{i}, 1000000)
		watched, fault := impl.MachWatch(list, m, impl.ActSample{X: 1})
		if !sameMem(impl.MachScan(list, m, impl.ActSample{X: 1}), m) || !sameMem(watched, m) || fault.Code != 0 || !sameMem(impl.MachRun(list, m, ticksOf(1, 1, 2)), m) || !sameMem(impl.MachRun(list, m, make([]impl.ActSample, 1000000)), m) {
			t.Errorf("a million of %s", machBrief([]impl.Inst{i}))
		}
		checkMach(t, list[:1000], m, ticksOf(1, 1, 2))
	}
}
