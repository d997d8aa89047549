package tests

import (
	"fmt"
	"math/rand"
	"runtime"
	"slices"
	"strings"
	"sync"
	"testing"

	"loop.example/stile/impl"
)

// wayPiece is a line that is done, or a part of a ladder that is still to be turned to lines: a net that begins (b), one that is taken into a NetAnd (a) or a NetOr (o), the tail of an arm (t), or a rung (r).
type wayPiece struct {
	line string
	todo byte
	net  impl.Net
	arm  impl.Arm
}

func wayLines(lines ...string) []wayPiece {
	list := []wayPiece{}
	for _, line := range lines {
		list = append(list, wayPiece{line: line})
	}
	return list
}

func wayNets(todo byte, nets ...impl.Net) []wayPiece {
	list := []wayPiece{}
	for _, n := range nets {
		list = append(list, wayPiece{todo: todo, net: n})
	}
	return list
}

// wayNetPieces are what a net is turned to.
func wayNetPieces(p wayPiece) []wayPiece {
	words := map[byte]string{'b': "ld ", 'a': "and ", 'o': "or "}
	switch begins := p.todo == 'b'; {
	case p.net.Kind == 1:
		return wayLines(words[p.todo] + impl.ElemText(p.net.One))
	case !begins:
		return slices.Concat(wayNets('b', p.net), wayLines(map[byte]string{'a': "anb", 'o': "orb"}[p.todo]))
	case p.net.Kind == 4:
		return slices.Concat(wayNets('b', p.net.Kids...), wayLines("inv"))
	default:
		return slices.Concat(wayNets('b', p.net.Kids[0]), wayNets(" ao"[p.net.Kind-1], p.net.Kids[1:]...))
	}
}

// wayTailPieces are what the tail of an arm is turned to.
func wayTailPieces(a impl.Arm) []wayPiece {
	list := []wayPiece{}
	for _, coil := range a.Coils {
		list = append(list, wayLines("coil "+impl.ElemText(coil))...)
	}
	forks := append(append([]string{"mps"}, slices.Repeat([]string{"mrd"}, len(a.Kids))...)[:max(len(a.Kids)-1, 0)], "mpp")
	for i, kid := range a.Kids {
		if len(a.Kids) != 1 {
			list = append(list, wayLines(forks[i])...)
		}
		if kid.Net.Kind == 2 {
			list = append(list, wayNets('a', kid.Net.Kids...)...)
		} else if kid.Net.Kind != 0 {
			list = append(list, wayNets('a', kid.Net)...)
		}
		list = append(list, wayPiece{todo: 't', arm: kid})
	}
	return list
}

// wayTextOf is a second reading of the list of a ladder: from the left, each piece gives way to those that it is turned to, until all are lines.
func wayTextOf(rungs []impl.Arm) string {
	waiting, text := []wayPiece{}, ""
	for _, rung := range normalOf(rungs) {
		waiting = append(waiting, wayPiece{todo: 'r', arm: rung})
	}
	for len(waiting) > 0 {
		p := waiting[0]
		pieces := []wayPiece{}
		switch p.todo {
		case 0:
			text += p.line + "\n"
		case 'r':
			pieces = slices.Concat(wayNets('b', p.arm.Net), []wayPiece{{todo: 't', arm: p.arm}}, wayLines("end"))
		case 't':
			pieces = wayTailPieces(p.arm)
		default:
			pieces = wayNetPieces(p)
		}
		waiting = slices.Concat(pieces, waiting[1:])
	}
	return text
}

// deepestBit is how many bits there are at the deepest contact of a net: one, and one more for each block around it that is taken in.
func deepestBit(n impl.Net, taken bool, around int) int {
	if n.Kind == 1 {
		return around + 1
	}
	if taken {
		around++
	}
	deepest := 0
	for i, kid := range n.Kids {
		deepest = max(deepest, deepestBit(kid, i > 0, around))
	}
	return deepest
}

// deepestArm is how many bits and forks there are at the deepest places of an arm: a fork for each arm on the way to it that is not the last kid.
func deepestArm(a impl.Arm, rung bool, forks int) impl.SureState {
	deepest := impl.SureState{Bits: 1, Forks: forks}
	nets := []impl.Net{a.Net}
	if !rung && a.Net.Kind == 2 {
		nets = a.Net.Kids
	}
	for _, n := range nets {
		deepest.Bits = max(deepest.Bits, deepestBit(n, !rung, 0))
	}
	for i, kid := range a.Kids {
		on := forks
		if i+1 < len(a.Kids) {
			on++
		}
		within := deepestArm(kid, false, on)
		deepest = impl.SureState{Bits: max(deepest.Bits, within.Bits), Forks: max(deepest.Forks, within.Forks)}
	}
	return deepest
}

// depthsOf is a second reading of how many bits and forks a ladder needs.
func depthsOf(rungs []impl.Arm) impl.SureState {
	deepest := impl.SureState{}
	for _, rung := range normalOf(rungs) {
		one := deepestArm(rung, true, 0)
		deepest = impl.SureState{Bits: max(deepest.Bits, one.Bits), Forks: max(deepest.Forks, one.Forks)}
	}
	return deepest
}

// needed is what WayBits and WayForks say.
func needed(rungs []impl.Arm) impl.SureState {
	return impl.SureState{Bits: impl.WayBits(rungs), Forks: impl.WayForks(rungs)}
}

// wayText is a list as a text, however long.
func wayText(list []impl.Inst) string {
	text := ""
	for _, i := range list {
		text += instLine(i) + "\n"
	}
	return text
}

// checkDeepOrNot asks for P45 and P46 of a ladder that is accepted: its list, or that it is too deep.
func checkDeepOrNot(t *testing.T, rungs []impl.Arm, plain []impl.Inst) int {
	t.Helper()
	list, code := impl.WayDown(rungs)
	needs, sure := depthsOf(rungs), impl.SureCheck(plain)
	if needs.Bits > 16 || needs.Forks > 8 {
		if code != 2 || len(list) != 0 || sure.Code != 4 && sure.Code != 7 {
			t.Errorf("%s: needs %v, but %d and %d instructions; %v of all", brief(spelt(rungs)), needs, code, len(list), sure)
		}
		return code
	}
	if code != 0 || !sameInsts(list, plain) {
		t.Errorf("%s: needs %v, but %d and %s", brief(spelt(rungs)), needs, code, brief(wayText(list)))
	}
	if sure != (impl.SureFault{}) || sureFaultOf(list) != (impl.SureFault{}) || !sureByForm(list) {
		t.Errorf("%s: %s is not verified: %v", brief(spelt(rungs)), brief(wayText(list)), sure)
	}
	return code
}

// checkNormalWay asks for P47 of a ladder that is accepted and its normal form.
func checkNormalWay(t *testing.T, rungs []impl.Arm, plain []impl.Inst, code int) {
	t.Helper()
	for _, norm := range [][]impl.Arm{impl.NormMake(rungs), normalOf(rungs)} {
		list, other := impl.WayDown(norm)
		if got := impl.WayPlain(norm); !sameInsts(got, plain) || other != code || needed(norm) != needed(rungs) {
			t.Errorf("%s: %s with %d and %v, but its normal form %s with %d and %v", brief(spelt(rungs)), brief(wayText(plain)), code, needed(rungs), brief(wayText(got)), other, needed(norm))
		}
		if code == 0 && !sameInsts(list, plain) {
			t.Errorf("%s: %s, but its normal form %s", brief(spelt(rungs)), brief(wayText(plain)), brief(wayText(list)))
		}
	}
}

// checkRungByRung asks for P47 of a ladder that is accepted and its rungs.
func checkRungByRung(t *testing.T, rungs []impl.Arm, plain []impl.Inst, code int) {
	t.Helper()
	whole, most, deep := []impl.Inst{}, impl.SureState{}, 0
	parts := impl.SureRungs(plain)
	for i := range rungs {
		one := rungs[i : i+1]
		alone := impl.WayPlain(one)
		list, c := impl.WayDown(one)
		if c == 0 && code == 0 && (!sameInsts(list, alone) || i >= len(parts) || !sameInsts(parts[i], list)) {
			t.Errorf("%s: rung %d alone is %s, and %s", brief(spelt(rungs)), i, brief(wayText(list)), brief(wayText(alone)))
		}
		whole, deep = append(whole, alone...), max(deep, c)
		most.Bits, most.Forks = max(most.Bits, impl.WayBits(one)), max(most.Forks, impl.WayForks(one))
	}
	if !sameInsts(whole, plain) || most != needed(rungs) || deep != code {
		t.Errorf("%s: %s with %v and %d, but its rungs are %s with %v and %d", brief(spelt(rungs)), brief(wayText(plain)), needed(rungs), code, brief(wayText(whole)), most, deep)
	}
}

// checkWay holds all that is said of a ladder that is accepted against the second readings, asks for P45 to P47, and gives the code of WayDown.
func checkWay(t *testing.T, rungs []impl.Arm) int {
	t.Helper()
	ahead := fmt.Sprint(rungs)
	if f := faultOf(rungs); f.Code != 0 {
		t.Fatalf("%s: %v", brief(ahead), f)
	}
	plain, want := impl.WayPlain(rungs), wayTextOf(rungs)
	if got := wayText(plain); got != want {
		t.Errorf("%s: %s, not %s", brief(spelt(rungs)), brief(got), brief(want))
	}
	needs, peak := depthsOf(rungs), impl.SurePeak(plain)
	if got := needed(rungs); got != needs || got != peak {
		t.Errorf("%s: needs %v, not %v; at most %v stand in %s", brief(spelt(rungs)), got, needs, peak, brief(wayText(plain)))
	}
	code := checkDeepOrNot(t, rungs, plain)
	checkNormalWay(t, rungs, plain, code)
	checkRungByRung(t, rungs, plain, code)
	if fmt.Sprint(rungs) != ahead {
		t.Errorf("%s: written into: %v", brief(ahead), rungs)
	}
	return code
}

// checkNoWay asks for what is said of a ladder that is not accepted.
func checkNoWay(t *testing.T, rungs []impl.Arm) {
	t.Helper()
	list, code := impl.WayDown(rungs)
	if plain := impl.WayPlain(rungs); len(list) != 0 || code != 1 || len(plain) != 0 || needed(rungs) != (impl.SureState{}) {
		t.Errorf("%d rungs, %v: %d with %d instructions, %d in all, needs %v", len(rungs), impl.TreeCheck(rungs), code, len(list), len(plain), needed(rungs))
	}
}

func TestWayConstants(t *testing.T) {
	if impl.WayBad != 1 || impl.WayDeep != 2 {
		t.Error(impl.WayBad, impl.WayDeep)
	}
}

// The chapter's example, line by line.
func TestWayExample(t *testing.T) {
	rungs := ladderSure("or( and( X0 X1 ) and( X2 not( or( X3 X4 ) ) ) ) -> out:Y0 [ X5 -> out:Y1 | or( X6 X7 ) -> out:Y2 [ X8 -> set:M1 ] | -> reset:M1 ]")
	want := []string{
		"ld X0", "and X1", "ld X2", "ld X3", "or X4", "inv", "anb", "orb", "coil out:Y0", "mps", "and X5", "coil out:Y1", "mrd", "ld X6", "or X7", "anb", "coil out:Y2", "and X8", "coil set:M1", "mpp", "coil reset:M1", "end",
	}
	list, code := impl.WayDown(rungs)
	if code != 0 || len(list) != len(want) || len(impl.WayPlain(rungs)) != len(want) {
		t.Fatalf("%d and %d instructions", code, len(list))
	}
	for i, line := range want {
		if got, plain := impl.ListLine(list[i]), impl.ListLine(impl.WayPlain(rungs)[i]); got != line || plain != line {
			t.Errorf("line %d: %q and %q, not %q", i, got, plain, line)
		}
	}
	if bits, forks := impl.WayBits(rungs), impl.WayForks(rungs); bits != 3 || forks != 1 {
		t.Errorf("%d bits and %d forks", bits, forks)
	}
	checkWay(t, rungs)
}

// wayRow is a ladder, the list to which it goes down, and the bits and forks that it needs.
type wayRow struct {
	ladder, list string
	bits, forks  int
}

// wayNetRows are nets; what stands behind them is a coil and the end.
func wayNetRows() []wayRow {
	return []wayRow{
		{"X0", "ld X0", 1, 0}, {"/X0", "ld /X0", 1, 0}, {"-M3:E31", "ld -M3:E31", 1, 0}, {"D1<=-5", "ld D1<=-5", 1, 0}, {"R1<>nan", "ld R1<>nan", 1, 0},
		// Contacts alone.
		{"and( X0 X1 )", "ld X0;and X1", 1, 0}, {"and( X2 X0 X1 X0 )", "ld X2;and X0;and X1;and X0", 1, 0}, {"or( X0 X1 )", "ld X0;or X1", 1, 0}, {"or( X0 /X1 T2 )", "ld X0;or /X1;or T2", 1, 0}, {"not( X0 )", "ld X0;inv", 1, 0}, {"not( not( X0 ) )", "ld X0;inv;inv", 1, 0}, {"not( not( not( X0 ) ) )", "ld X0;inv;inv;inv", 1, 0},
		{"not( and( X0 X1 ) )", "ld X0;and X1;inv", 1, 0}, {"not( or( X0 X1 ) )", "ld X0;or X1;inv", 1, 0},
		// A net that begins with a block.
		{"and( or( X0 X1 ) X2 )", "ld X0;or X1;and X2", 1, 0}, {"or( and( X0 X1 ) X2 )", "ld X0;and X1;or X2", 1, 0}, {"and( not( X0 ) X1 )", "ld X0;inv;and X1", 1, 0}, {"or( not( X0 ) X1 )", "ld X0;inv;or X1", 1, 0}, {"or( not( and( X0 X1 ) ) X2 X3 )", "ld X0;and X1;inv;or X2;or X3", 1, 0},
		{"and( or( and( or( X0 X1 ) X2 ) X3 ) X4 )", "ld X0;or X1;and X2;or X3;and X4", 1, 0}, {"not( or( not( and( not( X0 ) X1 ) ) X2 ) )", "ld X0;inv;and X1;inv;or X2;inv", 1, 0},
		// A net that takes a block in.
		{"and( X0 or( X1 X2 ) )", "ld X0;ld X1;or X2;anb", 2, 0}, {"or( X0 and( X1 X2 ) )", "ld X0;ld X1;and X2;orb", 2, 0}, {"and( X0 not( X1 ) )", "ld X0;ld X1;inv;anb", 2, 0}, {"or( X0 not( X1 ) )", "ld X0;ld X1;inv;orb", 2, 0}, {"or( X0 not( X1 ) X2 )", "ld X0;ld X1;inv;orb;or X2", 2, 0}, {"and( X0 not( not( X1 ) ) X2 )", "ld X0;ld X1;inv;inv;anb;and X2", 2, 0},
		{"and( X0 not( and( X1 X2 ) ) )", "ld X0;ld X1;and X2;inv;anb", 2, 0}, {"or( X0 not( or( X1 X2 ) ) )", "ld X0;ld X1;or X2;inv;orb", 2, 0}, {"and( or( X0 X1 ) or( X2 X3 ) )", "ld X0;or X1;ld X2;or X3;anb", 2, 0}, {"or( and( X0 X1 ) X2 and( X3 X4 ) )", "ld X0;and X1;or X2;ld X3;and X4;orb", 2, 0}, {"and( X0 or( X1 X2 ) or( X3 X4 ) X5 )", "ld X0;ld X1;or X2;anb;ld X3;or X4;anb;and X5", 2, 0},
		{"not( and( X0 or( X1 X2 ) ) )", "ld X0;ld X1;or X2;anb;inv", 2, 0}, {"and( X0 or( and( or( X1 X2 ) X3 ) X4 ) )", "ld X0;ld X1;or X2;and X3;or X4;anb", 2, 0}, {"and( or( X0 and( X1 X2 ) ) X3 )", "ld X0;ld X1;and X2;orb;and X3", 2, 0},
		// Blocks within blocks.
		{"and( X0 or( X1 and( X2 X3 ) ) )", "ld X0;ld X1;ld X2;and X3;orb;anb", 3, 0}, {"or( X0 and( X1 or( X2 X3 ) ) )", "ld X0;ld X1;ld X2;or X3;anb;orb", 3, 0}, {"and( X0 or( X1 and( X2 or( X3 X4 ) ) ) )", "ld X0;ld X1;ld X2;ld X3;or X4;anb;orb;anb", 4, 0}, {"or( X0 not( and( X1 not( or( X2 X3 ) ) ) ) )", "ld X0;ld X1;ld X2;or X3;inv;anb;inv;orb", 3, 0},
		{"and( or( X0 X1 ) or( X2 and( X3 X4 ) ) not( or( X5 X6 ) ) X7 )", "ld X0;or X1;ld X2;ld X3;and X4;orb;anb;ld X5;or X6;inv;anb;and X7", 3, 0}, {"or( and( X0 or( X1 X2 ) ) and( X3 or( X4 X5 ) ) )", "ld X0;ld X1;or X2;anb;ld X3;ld X4;or X5;anb;orb", 3, 0}, {"or( and( X0 or( X1 and( X2 X3 ) ) ) and( X4 X5 ) )", "ld X0;ld X1;ld X2;and X3;orb;anb;ld X4;and X5;orb", 3, 0},
		{"and( X0 or( X1 not( X2 ) ) not( or( X3 and( X4 X5 ) ) ) )", "ld X0;ld X1;ld X2;inv;orb;anb;ld X3;ld X4;and X5;orb;inv;anb", 3, 0},
		// Not in normal form.
		{"and( X0 )", "ld X0", 1, 0}, {"or( and( or( X0 ) ) )", "ld X0", 1, 0}, {"not( and( X0 ) )", "ld X0;inv", 1, 0}, {"and( X0 and( X1 X2 ) )", "ld X0;and X1;and X2", 1, 0}, {"or( X0 or( X1 or( X2 X3 ) ) )", "ld X0;or X1;or X2;or X3", 1, 0}, {"and( X0 or( X1 ) )", "ld X0;and X1", 1, 0}, {"and( X0 or( and( X1 X2 ) ) )", "ld X0;and X1;and X2", 1, 0}, {"or( X0 and( or( X1 X2 ) ) )", "ld X0;or X1;or X2", 1, 0},
		{"and( X0 or( X1 or( X2 X3 ) ) )", "ld X0;ld X1;or X2;or X3;anb", 2, 0}, {"and( X0 or( or( X1 and( X2 ) ) not( and( not( X3 ) ) ) ) )", "ld X0;ld X1;or X2;ld X3;inv;inv;orb;anb", 3, 0},
	}
}

// wayKidRows are whole rungs, most of them with kids.
func wayKidRows() []wayRow {
	return []wayRow{
		{"X0 -> out:Y0 set:M1 out:Y0", "ld X0;coil out:Y0;coil set:M1;coil out:Y0;end", 1, 0}, {"+X0:E1 -> timer:T1,50 add:D1,D2,-3", "ld +X0:E1;coil timer:T1,50;coil add:D1,D2,-3;end", 1, 0},
		// One kid alone.
		{"X0 -> out:Y0 [ X1 -> out:Y1 ]", "ld X0;coil out:Y0;and X1;coil out:Y1;end", 1, 0}, {"X0 -> out:Y0 [ X1 -> out:Y1 [ X2 -> out:Y2 set:M1 [ X3 -> out:Y3 ] ] ]", "ld X0;coil out:Y0;and X1;coil out:Y1;and X2;coil out:Y2;coil set:M1;and X3;coil out:Y3;end", 1, 0},
		{"X0 -> out:Y0 [ and( X1 X2 ) -> out:Y1 ]", "ld X0;coil out:Y0;and X1;and X2;coil out:Y1;end", 1, 0}, {"X0 -> out:Y0 [ or( X1 X2 ) -> out:Y1 ]", "ld X0;coil out:Y0;ld X1;or X2;anb;coil out:Y1;end", 2, 0}, {"X0 -> out:Y0 [ not( X1 ) -> out:Y1 ]", "ld X0;coil out:Y0;ld X1;inv;anb;coil out:Y1;end", 2, 0}, {"X0 -> out:Y0 [ not( and( X1 X2 ) ) -> out:Y1 ]", "ld X0;coil out:Y0;ld X1;and X2;inv;anb;coil out:Y1;end", 2, 0},
		{"X0 -> out:Y0 [ and( X1 or( X2 X3 ) X4 ) -> out:Y1 ]", "ld X0;coil out:Y0;and X1;ld X2;or X3;anb;and X4;coil out:Y1;end", 2, 0}, {"X0 -> out:Y0 [ and( or( X1 X2 ) or( X3 X4 ) ) -> out:Y1 ]", "ld X0;coil out:Y0;ld X1;or X2;anb;ld X3;or X4;anb;coil out:Y1;end", 2, 0}, {"X0 -> out:Y0 [ and( not( X1 ) X2 ) -> out:Y1 ]", "ld X0;coil out:Y0;ld X1;inv;anb;and X2;coil out:Y1;end", 2, 0},
		{"X0 -> out:Y0 [ or( and( X1 X2 ) X3 ) -> out:Y1 ]", "ld X0;coil out:Y0;ld X1;and X2;or X3;anb;coil out:Y1;end", 2, 0}, {"X0 -> out:Y0 [ or( X1 and( X2 X3 ) ) -> out:Y1 ]", "ld X0;coil out:Y0;ld X1;ld X2;and X3;orb;anb;coil out:Y1;end", 3, 0}, {"X0 -> out:Y0 [ and( or( X1 and( X2 X3 ) ) X4 ) -> out:Y1 ]", "ld X0;coil out:Y0;ld X1;ld X2;and X3;orb;anb;and X4;coil out:Y1;end", 3, 0},
		{"or( X0 and( X1 X2 ) ) -> out:Y0 [ or( X3 X4 ) -> out:Y1 [ or( X5 X6 ) -> out:Y2 ] ]", "ld X0;ld X1;and X2;orb;coil out:Y0;ld X3;or X4;anb;coil out:Y1;ld X5;or X6;anb;coil out:Y2;end", 2, 0},
		// Two kids and more, with and without nets.
		{"X0 -> [ -> out:Y0 | -> out:Y1 ]", "ld X0;mps;coil out:Y0;mpp;coil out:Y1;end", 1, 1}, {"X0 -> out:Y0 [ X1 -> out:Y1 | X2 -> out:Y2 ]", "ld X0;coil out:Y0;mps;and X1;coil out:Y1;mpp;and X2;coil out:Y2;end", 1, 1}, {"X0 -> [ X1 -> out:Y0 | -> out:Y1 | X2 -> out:Y2 ]", "ld X0;mps;and X1;coil out:Y0;mrd;coil out:Y1;mpp;and X2;coil out:Y2;end", 1, 1},
		{"X0 -> [ -> out:Y0 | -> out:Y1 | -> out:Y2 | -> out:Y3 | -> out:Y4 ]", "ld X0;mps;coil out:Y0;mrd;coil out:Y1;mrd;coil out:Y2;mrd;coil out:Y3;mpp;coil out:Y4;end", 1, 1}, {"X0 -> [ and( X1 X2 ) -> out:Y0 | and( X3 X4 ) -> out:Y1 | and( X5 X6 ) -> out:Y2 ]", "ld X0;mps;and X1;and X2;coil out:Y0;mrd;and X3;and X4;coil out:Y1;mpp;and X5;and X6;coil out:Y2;end", 1, 1},
		{"X0 -> [ or( X1 X2 ) -> out:Y0 | not( X3 ) -> out:Y1 | or( X5 and( X6 X7 ) ) -> out:Y2 ]", "ld X0;mps;ld X1;or X2;anb;coil out:Y0;mrd;ld X3;inv;anb;coil out:Y1;mpp;ld X5;ld X6;and X7;orb;anb;coil out:Y2;end", 3, 1}, {"or( X0 and( X1 or( X2 X3 ) ) ) -> [ or( X1 X2 ) -> out:Y0 | -> out:Y1 ]", "ld X0;ld X1;ld X2;or X3;anb;orb;mps;ld X1;or X2;anb;coil out:Y0;mpp;coil out:Y1;end", 3, 1},
		// Kids within kids: the first, one between, the last.
		{"X0 -> [ X1 -> [ X2 -> out:Y0 | X3 -> out:Y1 ] | X4 -> out:Y2 ]", "ld X0;mps;and X1;mps;and X2;coil out:Y0;mpp;and X3;coil out:Y1;mpp;and X4;coil out:Y2;end", 1, 2}, {"X0 -> [ -> out:Y0 | -> [ -> out:Y1 | -> out:Y2 ] | -> out:Y3 ]", "ld X0;mps;coil out:Y0;mrd;mps;coil out:Y1;mpp;coil out:Y2;mpp;coil out:Y3;end", 1, 2}, {"X0 -> [ X4 -> out:Y2 | X1 -> [ X2 -> out:Y0 | X3 -> out:Y1 ] ]", "ld X0;mps;and X4;coil out:Y2;mpp;and X1;mps;and X2;coil out:Y0;mpp;and X3;coil out:Y1;end", 1, 1},
		{"X0 -> [ -> out:Y0 | -> [ -> out:Y1 | -> [ -> out:Y2 | -> out:Y3 ] ] ]", "ld X0;mps;coil out:Y0;mpp;mps;coil out:Y1;mpp;mps;coil out:Y2;mpp;coil out:Y3;end", 1, 1}, {"X0 -> [ -> [ -> [ -> out:Y0 | -> out:Y1 ] | -> out:Y2 ] | -> out:Y3 ]", "ld X0;mps;mps;mps;coil out:Y0;mpp;coil out:Y1;mpp;coil out:Y2;mpp;coil out:Y3;end", 1, 3},
		{"X0 -> [ -> out:Y0 | X1 -> out:Y1 [ -> out:Y2 | X2 -> [ X3 -> out:Y3 | -> out:Y4 ] | -> out:Y5 ] ]", "ld X0;mps;coil out:Y0;mpp;and X1;coil out:Y1;mps;coil out:Y2;mrd;and X2;mps;and X3;coil out:Y3;mpp;coil out:Y4;mpp;coil out:Y5;end", 1, 2},
		// One kid alone has no fork, wherever it hangs.
		{"X0 -> [ X1 -> out:Y0 [ X2 -> out:Y1 ] | -> out:Y2 [ X3 -> out:Y3 ] ]", "ld X0;mps;and X1;coil out:Y0;and X2;coil out:Y1;mpp;coil out:Y2;and X3;coil out:Y3;end", 1, 1}, {"X0 -> out:Y0 [ X1 -> [ -> out:Y1 | -> out:Y2 ] ]", "ld X0;coil out:Y0;and X1;mps;coil out:Y1;mpp;coil out:Y2;end", 1, 1}, {"X0 -> out:Y0 [ X1 -> out:Y1 [ X2 -> [ -> out:Y2 | -> out:Y3 [ or( X3 X4 ) -> out:Y4 ] ] ] ]", "ld X0;coil out:Y0;and X1;coil out:Y1;and X2;mps;coil out:Y2;mpp;coil out:Y3;ld X3;or X4;anb;coil out:Y4;end", 2, 1},
		// Not in normal form.
		{"X0 -> [ X1 -> out:Y0 ]", "ld X0;and X1;coil out:Y0;end", 1, 0}, {"X0 -> [ -> out:Y0 [ -> out:Y1 ] ]", "ld X0;coil out:Y0;coil out:Y1;end", 1, 0}, {"X0 -> [ or( X1 X2 ) -> out:Y0 ]", "ld X0;ld X1;or X2;anb;coil out:Y0;end", 2, 0}, {"or( X0 X1 ) -> [ X2 -> out:Y0 ]", "ld X0;or X1;and X2;coil out:Y0;end", 1, 0}, {"X0 -> [ and( X1 or( X2 X3 ) ) -> out:Y0 ]", "ld X0;and X1;ld X2;or X3;anb;coil out:Y0;end", 2, 0}, {"or( X0 X1 ) -> [ and( or( X2 X3 ) X4 ) -> out:Y0 ]", "ld X0;or X1;ld X2;or X3;anb;and X4;coil out:Y0;end", 2, 0},
		{"X0 -> out:Y0 [ -> [ X1 -> [ X2 -> out:Y1 ] ] ]", "ld X0;coil out:Y0;and X1;and X2;coil out:Y1;end", 1, 0}, {"X0 -> [ -> [ -> [ -> out:Y0 | -> out:Y1 ] ] ]", "ld X0;mps;coil out:Y0;mpp;coil out:Y1;end", 1, 1}, {"X0 -> [ and( X1 and( X2 X3 ) ) -> out:Y0 | or( and( X4 X5 ) ) -> [ or( X6 or( X7 X8 ) ) -> out:Y1 ] ]", "ld X0;mps;and X1;and X2;and X3;coil out:Y0;mpp;and X4;and X5;ld X6;or X7;or X8;anb;coil out:Y1;end", 2, 1},
	}
}

// wayLadderRows are of several rungs; the most bits and the most forks come from the first, a middle and the last of them.
func wayLadderRows() []wayRow {
	return []wayRow{
		{"X0 -> out:Y0\nX1 -> out:Y1", "ld X0;coil out:Y0;end;ld X1;coil out:Y1;end", 1, 0}, {"X0 -> out:Y0\nX0 -> out:Y0\nX0 -> out:Y0", "ld X0;coil out:Y0;end;ld X0;coil out:Y0;end;ld X0;coil out:Y0;end", 1, 0},
		{"and( X0 or( X1 X2 ) ) -> out:Y0\nX3 -> [ X4 -> out:Y1 | -> out:Y2 ]", "ld X0;ld X1;or X2;anb;coil out:Y0;end;ld X3;mps;and X4;coil out:Y1;mpp;coil out:Y2;end", 2, 1}, {"X3 -> [ X4 -> out:Y1 | -> out:Y2 ]\nand( X0 or( X1 X2 ) ) -> out:Y0", "ld X3;mps;and X4;coil out:Y1;mpp;coil out:Y2;end;ld X0;ld X1;or X2;anb;coil out:Y0;end", 2, 1},
		{"X0 -> out:Y0\nor( X1 and( X2 X3 ) ) -> [ -> out:Y1 | -> out:Y2 ]\nT1 -> set:Y1", "ld X0;coil out:Y0;end;ld X1;ld X2;and X3;orb;mps;coil out:Y1;mpp;coil out:Y2;end;ld T1;coil set:Y1;end", 2, 1}, {"X0 -> [ X1 -> out:Y0 ]\nand( X2 and( X3 ) ) -> out:Y1 [ -> out:Y2 ]", "ld X0;and X1;coil out:Y0;end;ld X2;and X3;coil out:Y1;coil out:Y2;end", 1, 0},
		{"and( X0 or( X1 /M2 ) ) -> out:Y0 [ +X3:E1 -> timer:T1,50 | -> move:D0,5 ]\nT1 -> set:Y1", "ld X0;ld X1;or /M2;anb;coil out:Y0;mps;and +X3:E1;coil timer:T1,50;mpp;coil move:D0,5;end;ld T1;coil set:Y1;end", 2, 1},
	}
}

// wayRows are ladders that are written out, with their lists.
func wayRows() []wayRow {
	list := append(wayKidRows(), wayLadderRows()...)
	for _, row := range wayNetRows() {
		list = append(list, wayRow{row.ladder + " -> out:Y0", row.list + ";coil out:Y0;end", row.bits, row.forks})
	}
	return list
}

// P45 to P47, by ladders that are written out here, alone and with another rung ahead and behind.
func TestWaysWrittenOut(t *testing.T) {
	other := wayRow{"X9 -> out:Y9", "ld X9;coil out:Y9;end", 1, 0}
	for _, row := range wayRows() {
		for _, r := range []wayRow{row, {other.ladder + "\n" + row.ladder, other.list + ";" + row.list, row.bits, row.forks}, {row.ladder + "\n" + other.ladder, row.list + ";" + other.list, row.bits, row.forks}} {
			rungs, want := ladderSure(r.ladder), strings.ReplaceAll(r.list, ";", "\n")+"\n"
			list, code := impl.WayDown(rungs)
			if got, plain := impl.ListText(list), impl.ListText(impl.WayPlain(rungs)); code != 0 || got != want || plain != want {
				t.Errorf("%s: %d, %q and %q", r.ladder, code, got, plain)
			}
			if bits, forks := impl.WayBits(rungs), impl.WayForks(rungs); bits != r.bits || forks != r.forks {
				t.Errorf("%s: %d bits and %d forks", r.ladder, bits, forks)
			}
			checkWay(t, rungs)
		}
	}
}

// The ladders and lists by which the machine was held against what ladders mean.
func TestWaysOfLaddersWithLists(t *testing.T) {
	for _, c := range laddersAndLists() {
		rungs := ladderSure(c.ladder)
		if list, code := impl.WayDown(rungs); code != 0 || !sameInsts(list, listSure(c.list)) {
			t.Errorf("%s: %d and %s", c.ladder, code, wayText(list))
		}
		checkWay(t, rungs)
	}
}

// Without rungs nothing is needed, and the list is empty and right.
func TestWayOfNoRungs(t *testing.T) {
	for _, rungs := range [][]impl.Arm{nil, {}, make([]impl.Arm, 0, 5), branched()[:0]} {
		list, code := impl.WayDown(rungs)
		if plain := impl.WayPlain(rungs); len(list) != 0 || code != 0 || len(plain) != 0 || needed(rungs) != (impl.SureState{}) {
			t.Errorf("no rungs: %v with %d, %v, needs %v", list, code, plain, needed(rungs))
		}
		checkWay(t, rungs)
	}
}

// Each contact and coil, with all its operands, comes into the list as it was, by whichever instruction.
func TestWayKeepsContactsAndCoils(t *testing.T) {
	contacts, coils := contactsAndCoils()
	for _, contact := range contacts {
		for _, coil := range coils {
			rungs := ladderSure("or( and( " + contact + " X1 " + contact + " ) " + contact + " ) -> " + coil + " out:Y0 [ " + contact + " -> " + coil + " ]")
			list, code := impl.WayDown(rungs)
			want := strings.NewReplacer("?", contact, "!", coil).Replace("ld ?\nand X1\nand ?\nor ?\ncoil !\ncoil out:Y0\nand ?\ncoil !\nend\n")
			if got := impl.ListText(list); code != 0 || got != want {
				t.Errorf("%s and %s: %d and %q", contact, coil, code, got)
			}
		}
	}
}

// deepNets are nets that need so many bits (1 at least), beginning; each is deep in another way.
func deepNets(bits int) []impl.Net {
	x, y := contactOf("X0"), contactOf("X1")
	last, middle, wide, nots := andOf(x, y), andOf(x, y), andOf(x, y), x
	for i := range bits - 1 {
		kind, other := 3-i%2, 2+i%2
		block := impl.Net{Kind: other, Kids: []impl.Net{y, x, y}}
		last = impl.Net{Kind: kind, Kids: []impl.Net{x, last}}
		middle = impl.Net{Kind: kind, Kids: []impl.Net{y, middle, x}}
		wide = impl.Net{Kind: kind, Kids: []impl.Net{block, y, wide, x}}
		nots = andOf(x, notOf(nots), y)
	}
	first := impl.Net{Kind: 5 - last.Kind, Kids: []impl.Net{last, y, x}}
	return []impl.Net{last, middle, wide, nots, first, notOf(last), notOf(notOf(wide)), orOf(notOf(first), x)}
}

// deepArms are rungs that need so many forks and 1 bit; each is deep in another way.
func deepArms(forks int) []impl.Arm {
	x, leaf, bit := contactOf("X0"), armOf(contactOf("X1"), "out:Y0"), armOf(impl.Net{}, "out:Y1")
	first, middle, bare := leaf, leaf, bit
	for range forks {
		first = armOf(x, "", first, leaf)
		middle = armOf(x, "out:Y2", bit, middle, leaf)
		bare = armOf(impl.Net{}, "", bare, bit)
	}
	list := []impl.Arm{first, middle, armOf(x, "", bare), armOf(x, "out:Y3", armOf(x, "out:Y4", first))}
	if forks > 0 {
		list = append(list, armOf(x, "", leaf, first), armOf(x, "", bit, leaf, bare), armOf(x, "", leaf, armOf(impl.Net{}, "", bit, middle)))
	}
	return list
}

// checkNeeds asks for bits and forks, and for the code that comes of them, of a rung alone, as the first, a middle and the last one, and twice.
func checkNeeds(t *testing.T, rung impl.Arm, bits, forks int) {
	t.Helper()
	good, want := armOf(contactOf("X5"), "out:Y5"), 0
	if bits > impl.SureMaxBits || forks > impl.SureMaxForks {
		want = 2
	}
	for _, rungs := range [][]impl.Arm{{rung}, {rung, good, good}, {good, rung, good}, {good, good, rung}, {rung, rung}} {
		if faultOf(rungs).Code != 0 {
			continue
		}
		if got := impl.WayBits(rungs); got != bits {
			t.Errorf("%s: %d bits, not %d", brief(spelt(rungs)), got, bits)
		}
		if got := impl.WayForks(rungs); got != forks {
			t.Errorf("%s: %d forks, not %d", brief(spelt(rungs)), got, forks)
		}
		list, code := impl.WayDown(rungs)
		if code != want || (code == 0) != (len(list) > 0) {
			t.Errorf("%s: %d bits, %d forks, and %d with %d instructions", brief(spelt(rungs)), bits, forks, code, len(list))
		}
	}
	checkWay(t, []impl.Arm{rung})
}

// P46 at the bound of bits: in the net of a rung, and in those of kids, where a block is taken in.
func TestWayMaxBits(t *testing.T) {
	x := contactOf("X4")
	for _, bits := range []int{1, 2, 3, 8, 13, 14, 15, 16, 17, 18, 20} {
		for _, n := range deepNets(bits) {
			checkNeeds(t, armOf(n, "out:Y0"), bits, 0)
			checkNeeds(t, armOf(n, "out:Y0", armOf(orOf(x, x), "out:Y1")), max(bits, 2), 0)
			checkNeeds(t, armOf(x, "out:Y0", armOf(notOf(n), "out:Y1")), bits+1, 0)
			checkNeeds(t, armOf(x, "out:Y0", armOf(andOf(x, notOf(n), x), "out:Y1")), bits+1, 0)
			checkNeeds(t, armOf(x, "out:Y0", armOf(andOf(notOf(n), x), "out:Y1")), bits+1, 0)
			checkNeeds(t, armOf(x, "out:Y0", armOf(andOf(x, orOf(x, notOf(n))), "out:Y1")), bits+2, 0)
			checkNeeds(t, armOf(x, "", armOf(impl.Net{}, "out:Y0"), armOf(x, "out:Y1", armOf(notOf(n), "out:Y2")), armOf(x, "out:Y3")), bits+1, 1)
		}
	}
	for _, n := range deepNets(16) {
		if list, code := impl.WayDown([]impl.Arm{armOf(n, "out:Y0")}); code != 0 || impl.SurePeak(list) != (impl.SureState{Bits: 16}) {
			t.Errorf("%s: %d and %v", brief(speltNet(n)), code, impl.SurePeak(list))
		}
		if list, code := impl.WayDown([]impl.Arm{armOf(x, "out:Y0", armOf(notOf(n), "out:Y1"))}); code != impl.WayDeep || len(list) != 0 {
			t.Errorf("%s as a kid: %d with %d instructions", brief(speltNet(n)), code, len(list))
		}
	}
}

// A NetAnd is taken into a kid net by net: with its deepest block behind it needs no bit more than beginning, and one more with it ahead.
func TestWayMaxBitsOfKidsWithNetAnd(t *testing.T) {
	x := contactOf("X4")
	for _, bits := range []int{15, 16, 17} {
		deep := deepNets(bits - 1)[0]
		for _, block := range []impl.Net{notOf(deep), orOf(notOf(deep), x)} {
			checkNeeds(t, armOf(andOf(x, block), "out:Y0"), bits, 0)
			checkNeeds(t, armOf(x, "out:Y0", armOf(andOf(x, block), "out:Y1")), bits, 0)
			checkNeeds(t, armOf(andOf(block, x), "out:Y0"), bits-1, 0)
			checkNeeds(t, armOf(x, "out:Y0", armOf(andOf(block, x), "out:Y1")), bits, 0)
		}
	}
}

// P46 at the bound of forks.
func TestWayMaxForks(t *testing.T) {
	for forks := range 16 {
		for _, a := range deepArms(forks) {
			checkNeeds(t, a, 1, forks)
		}
	}
	for _, a := range deepArms(8) {
		if list, code := impl.WayDown([]impl.Arm{a}); code != 0 || impl.SurePeak(list) != (impl.SureState{Bits: 1, Forks: 8}) {
			t.Errorf("%s: %d and %v", brief(spelt([]impl.Arm{a})), code, impl.SurePeak(list))
		}
	}
	for _, a := range deepArms(9) {
		if list, code := impl.WayDown([]impl.Arm{a}); code != impl.WayDeep || len(list) != 0 {
			t.Errorf("%s: %d with %d instructions", brief(spelt([]impl.Arm{a})), code, len(list))
		}
	}
}

// P46 at both bounds together: in one arm, in arms one within the other, and in two rungs.
func TestWayMaxBitsAndForks(t *testing.T) {
	x := contactOf("X4")
	for bits := 15; bits <= 18; bits++ {
		for forks := 7; forks <= 10; forks++ {
			for i, a := range deepArms(forks) {
				n := deepNets(bits)[i]
				both := a
				both.Net = n
				checkNeeds(t, both, bits, forks)
				within := cloneArms([]impl.Arm{a})
				places := armPlaces(within)
				places[len(places)-1].Net = notOf(deepNets(bits - 1)[i])
				checkNeeds(t, within[0], bits, forks)
				rungs := []impl.Arm{a, armOf(x, "out:Y7"), armOf(n, "out:Y8")}
				want := 0
				if bits > 16 || forks > 8 {
					want = 2
				}
				if code := checkWay(t, rungs); code != want || needed(rungs) != (impl.SureState{Bits: bits, Forks: forks}) {
					t.Errorf("%s: %d, needs %v", brief(spelt(rungs)), code, needed(rungs))
				}
			}
		}
	}
}

// P46, however deep: WayPlain, WayBits and WayForks of ladders as deep as may be at all.
func TestWayOfDeepestLadders(t *testing.T) {
	for i, bits := range map[int]int{0: 198, 1: 132, 3: 100} {
		n := deepNets(bits)[i]
		if n2 := deepNets(bits + 1)[i]; partsOf([]impl.Arm{armOf(n, "out:Y0")}) > 400 || partsOf([]impl.Arm{armOf(n2, "out:Y0")}) <= 400 {
			t.Fatalf("net %d: %d parts", i, partsOf([]impl.Arm{armOf(n, "out:Y0")}))
		}
		checkNeeds(t, armOf(n, "out:Y0"), bits, 0)
		checkNoWay(t, []impl.Arm{armOf(deepNets(bits + 1)[i], "out:Y0")})
	}
	for i, forks := range map[int]int{0: 79, 1: 49, 2: 132} {
		a := deepArms(forks)[i]
		if more := deepArms(forks + 1)[i]; partsOf([]impl.Arm{a}) > 400 || partsOf([]impl.Arm{more}) <= 400 {
			t.Fatalf("arm %d: %d parts", i, partsOf([]impl.Arm{a}))
		}
		checkNeeds(t, a, 1, forks)
		checkNoWay(t, []impl.Arm{deepArms(forks + 1)[i]})
	}
	both := deepArms(40)[0]
	both.Net = deepNets(90)[0]
	checkNeeds(t, both, 90, 40)
}

// What is nested deep and needs little: what the normal form opens, what begins, and what hangs last.
func TestWayOfNestedLaddersThatNeedLittle(t *testing.T) {
	x, leaf := contactOf("X0"), armOf(contactOf("X1"), "out:Y0")
	same, single, begun, nots := orOf(x, x), x, andOf(x, x), x
	chain, coils, last, alone := leaf, leaf, armOf(x, "", leaf, leaf), leaf
	for i := range 150 {
		same, single, nots = orOf(x, same), impl.Net{Kind: 2 + i%2, Kids: []impl.Net{single}}, notOf(nots)
		begun = impl.Net{Kind: 3 - i%2, Kids: []impl.Net{begun, x}}
		chain, coils = armOf(impl.Net{}, "", chain), armOf(impl.Net{}, "out:Y1", coils)
	}
	for range 60 {
		last, alone = armOf(x, "", leaf, last), armOf(x, "out:Y1", alone)
	}
	for _, n := range []impl.Net{same, single, begun, nots} {
		checkNeeds(t, armOf(n, "out:Y0"), 1, 0)
	}
	for _, a := range []impl.Arm{armOf(x, "", chain), armOf(x, "", coils), alone} {
		checkNeeds(t, a, 1, 0)
	}
	checkNeeds(t, last, 1, 1)
	checkNeeds(t, armOf(x, "", last, leaf), 1, 2)
}

// P45 and P47 at the bounds of rungs and of parts, one of them with half as many instructions again as it has parts. (No part is more than two instructions, so that no list is longer than ListMaxList.)
func TestWayOfLargestLadders(t *testing.T) {
	for _, rungs := range append(grown(400), grownLoose(400)...) {
		if impl.TreeSize(rungs) != 400 {
			t.Fatalf("%d parts", impl.TreeSize(rungs))
		}
		checkWay(t, rungs)
	}
	x := contactOf("X0")
	if list, code := impl.WayDown([]impl.Arm{armOf(orOf(slices.Repeat([]impl.Net{notOf(x)}, 198)...), "out:Y0 out:Y1")}); code != 0 || len(list) != 596 {
		t.Errorf("%d with %d instructions", code, len(list))
	}
	for _, count := range []int{1, 2, 39, 40} {
		rungs, want := []impl.Arm{}, ""
		for i := range count {
			// The first rungs are the longest, so that they are not done first.
			coils := strings.Repeat(fmt.Sprintf(" set:M%d", i), 1+(40-i)/6)
			rungs = append(rungs, armOf(contactOf(fmt.Sprintf("M%d", i)), coils))
			want += fmt.Sprintf("ld M%d\n", i) + strings.Repeat(fmt.Sprintf("coil set:M%d\n", i), 1+(40-i)/6) + "end\n"
		}
		if list, code := impl.WayDown(rungs); code != 0 || impl.ListText(list) != want || len(impl.SureRungs(list)) != count {
			t.Errorf("%d rungs: %d and %s", count, code, brief(impl.ListText(list)))
		}
		checkWay(t, rungs)
	}
}

// Each code of chapter 7: there is no list, wherever the ladder is wrong, and not of its good rungs either.
func TestWayOfWrongLadders(t *testing.T) {
	x, good, met := contactOf("X0"), armOf(contactOf("X0"), "out:Y0", armOf(orOf(contactOf("X1"), contactOf("X2")), "out:Y1"), armOf(impl.Net{}, "out:Y2")), map[int]bool{}
	none := []coded{{armOf(impl.Net{}, "out:Y0"), 4}, {armOf(impl.Net{}, ""), 4}, {armOf(impl.Net{Kids: []impl.Net{}}, "", good), 4}}
	for _, c := range append(wrongArms(), none...) {
		met[impl.TreeCheck([]impl.Arm{c.arm}).Code] = true
		for _, rungs := range [][]impl.Arm{{c.arm}, {good, c.arm}, {c.arm, good}, {good, c.arm, good}} {
			checkNoWay(t, rungs)
		}
		if c.code != 4 {
			checkNoWay(t, []impl.Arm{armOf(x, "", c.arm)})
			checkNoWay(t, []impl.Arm{good, armOf(x, "out:Y0", good, armOf(impl.Net{}, "", c.arm))})
		}
	}
	for _, rungs := range append(append(grown(401), grownLoose(401)...), slices.Repeat([]impl.Arm{armOf(x, "out:Y0")}, 41), make([]impl.Arm, 41), slices.Repeat([]impl.Arm{good}, 1000)) {
		met[impl.TreeCheck(rungs).Code] = true
		checkNoWay(t, rungs)
	}
	for code := 1; code <= 5; code++ {
		if !met[code] {
			t.Errorf("no ladder is wrong by code %d", code)
		}
	}
}

// A ladder that is not accepted is told to be bad, and not to be too deep.
func TestWayBadGoesAheadOfWayDeep(t *testing.T) {
	x, met := contactOf("X0"), map[int]bool{}
	for i, a := range deepArms(9) {
		a.Net = deepNets(17)[i]
		if _, code := impl.WayDown([]impl.Arm{a}); code != 2 {
			t.Errorf("%s: %d", brief(spelt([]impl.Arm{a})), code)
		}
		wrong := [][]impl.Arm{slices.Repeat([]impl.Arm{a}, 41), {a, armOf(x, strings.Repeat(" out:Y0", 400))}}
		for _, c := range append(wrongArms(), coded{armOf(impl.Net{}, "out:Y0"), 4}, coded{impl.Arm{}, 4}) {
			wrong = append(wrong, []impl.Arm{a, c.arm}, []impl.Arm{c.arm, a})
			if c.code != 4 {
				wrong = append(wrong, []impl.Arm{armOf(a.Net, "", a, c.arm)})
			}
		}
		for _, n := range wrongNets() {
			wrong = append(wrong, []impl.Arm{armOf(andOf(a.Net, n), "out:Y0", a.Kids...)}, []impl.Arm{armOf(andOf(n, a.Net), "out:Y0", a.Kids...)})
		}
		for _, rungs := range wrong {
			met[impl.TreeCheck(rungs).Code] = true
			checkNoWay(t, rungs)
		}
	}
	for code := 1; code <= 5; code++ {
		if !met[code] {
			t.Errorf("no deep ladder is wrong by code %d", code)
		}
	}
}

// Ladders that are far too large, as they share what they are made of or stand within themselves, are refused at once.
func TestWayOfVeryLargeTrees(t *testing.T) {
	net, arm, deep := contactOf("X0"), armOf(contactOf("X0"), "out:Y0"), contactOf("X0")
	for range 60 {
		net, arm = andOf(net, net), armOf(net, "", arm, arm)
	}
	endless, round := andOf(impl.Net{}), armOf(contactOf("X0"), "", impl.Arm{})
	endless.Kids[0], round.Kids[0] = endless, round
	for range 100000 {
		deep = andOf(contactOf("X1"), notOf(deep))
	}
	for _, rungs := range [][]impl.Arm{{armOf(net, "out:Y0")}, {arm}, {armOf(endless, "out:Y0")}, {round}, {armOf(contactOf("X0"), "out:Y0"), round}, {armOf(deep, "out:Y0")}, {armOf(contactOf("X0"), "", armOf(deep, "out:Y0"))}} {
		checkNoWay(t, rungs)
	}
}

// P45 to P47 of each net of up to seven nets, as the net of a rung, and of up to six as that of one kid alone, of the first and of the last kid.
func TestWayOfEachShape(t *testing.T) {
	x, known, met := contactOf("X0"), map[int][]impl.Net{}, 0
	for count := 1; count <= 7; count++ {
		for _, n := range shapes(count, known) {
			met++
			checkWay(t, numbered([]impl.Arm{armOf(n, "out:Y0")}))
			if count < 7 {
				checkWay(t, numbered([]impl.Arm{armOf(x, "out:Y0", armOf(n, "out:Y0"))}))
				checkWay(t, numbered([]impl.Arm{armOf(n, "", armOf(n, "out:Y0"), armOf(impl.Net{}, "out:Y0", armOf(n, "out:Y0")), armOf(n, "out:Y0"))}))
			}
		}
	}
	if met < 1000 {
		t.Errorf("%d nets", met)
	}
}

// P45 to P47 of each small rung of three arms one behind the other.
func TestWayOfEachArm(t *testing.T) {
	met := 0
	for _, rung := range threeArms() {
		met++
		checkWay(t, numbered([]impl.Arm{rung}))
	}
	if met < 1000 {
		t.Errorf("%d rungs", met)
	}
}

// P47: a ladder in normal form and all that is loosened out of it go down to one list.
func TestWayOfLoosenedLadders(t *testing.T) {
	for _, rungs := range normalLadders() {
		list, code := impl.WayDown(rungs)
		if code != 0 || wayText(list) != wayTextOf(rungs) {
			t.Errorf("%s: %d and %s", spelt(rungs), code, wayText(list))
		}
		for i, once := range loosened(rungs) {
			others := [][]impl.Arm{once}
			if i%15 == 0 {
				others = append(others, loosened(once)...)
			}
			for _, other := range others {
				got, c := impl.WayDown(other)
				if c != code || !sameInsts(got, list) || !sameInsts(impl.WayPlain(other), list) || needed(other) != needed(rungs) {
					t.Errorf("%s: %d, %s, needs %v, but %s needs %v", spelt(other), c, wayText(got), needed(other), spelt(rungs), needed(rungs))
				}
			}
		}
	}
}

// P45 to P47 of many ladders, accepted and not.
func TestWayOfAnyLadders(t *testing.T) {
	list := append(changedOnce(branched()), closeLadders(14, 400)...)
	for _, c := range goodRungs() {
		list = append(list, c.rungs)
		list = append(list, changedOnce(c.rungs)...)
	}
	r := rand.New(rand.NewSource(14))
	for range 400 {
		rungs := []impl.Arm{}
		for range 1 + r.Intn(4) {
			rungs = append(rungs, anyArm(r, 3, true))
		}
		list = append(list, rungs)
	}
	accepted := 0
	for _, rungs := range list {
		if faultOf(rungs).Code != 0 {
			checkNoWay(t, rungs)
			continue
		}
		accepted++
		checkWay(t, rungs)
		if empties := withEmpties(rungs); !sameInsts(impl.WayPlain(empties), impl.WayPlain(rungs)) || needed(empties) != needed(rungs) {
			t.Errorf("%s: with empty lists %s", brief(spelt(rungs)), brief(wayText(impl.WayPlain(empties))))
		}
	}
	if accepted < 700 || len(list)-accepted < 200 {
		t.Errorf("%d of %d ladders are accepted", accepted, len(list))
	}
}

// steepNet and steepArm are nets and arms by chance that are about so deep.
func steepNet(r *rand.Rand, deep int) impl.Net {
	n := closeNet(r, 1)
	for range deep {
		kids := []impl.Net{closeNet(r, r.Intn(2)), n}
		if r.Intn(12) == 0 {
			slices.Reverse(kids)
		}
		if r.Intn(3) == 0 {
			kids = append(kids, closeNet(r, r.Intn(2)))
		}
		n = impl.Net{Kind: 5 - min(max(n.Kind, 2), 3), Kids: kids}
		if r.Intn(6) == 0 {
			n = notOf(n)
		}
	}
	return n
}

func steepArm(r *rand.Rand, deep int) impl.Arm {
	a := closeArm(r, 0, false)
	for range deep {
		kids := []impl.Arm{a, closeArm(r, 0, false)}
		if r.Intn(12) == 0 {
			slices.Reverse(kids)
		}
		if r.Intn(3) == 0 {
			kids = append(kids, closeArm(r, 0, false))
		}
		a = closeArm(r, 0, false)
		a.Kids = kids
	}
	a.Net = closeNet(r, 1)
	return a
}

// P45 to P47 of ladders by chance about as deep as may be: many of them are too deep, by bits, by forks and by both, and many are not.
func TestWayOfSteepLadders(t *testing.T) {
	r, met := rand.New(rand.NewSource(46)), map[string]int{}
	for range 600 {
		rungs := []impl.Arm{armOf(steepNet(r, 10+r.Intn(10)), "out:Y0"), steepArm(r, 3+r.Intn(10))}
		if r.Intn(2) == 0 {
			places := armPlaces(rungs)
			places[1+r.Intn(len(places)-1)].Net = steepNet(r, 9+r.Intn(10))
		}
		if faultOf(rungs).Code != 0 {
			met["not accepted"]++
			checkNoWay(t, rungs)
			continue
		}
		needs := depthsOf(rungs)
		met[fmt.Sprint(checkWay(t, rungs), needs.Bits > 16, needs.Forks > 8)]++
		met[fmt.Sprint(needs.Bits, " bits")]++
		met[fmt.Sprint(needs.Forks, " forks")]++
	}
	for _, what := range []string{"0 false false", "2 true false", "2 false true", "2 true true", "16 bits", "17 bits", "8 forks", "9 forks"} {
		if met[what] < 20 {
			t.Errorf("%s: %d of %v", what, met[what], met)
		}
	}
}

// The list of a ladder leaves, scan by scan, what the ladder means.
func TestWaysDoWhatLaddersMean(t *testing.T) {
	r, mems, met := rand.New(rand.NewSource(15)), append(anyMems(6), actMems()...), 0
	list := append(evalLadders(), closeLadders(77, 200)...)
	for _, row := range wayRows() {
		list = append(list, ladderSure(row.ladder))
	}
	for i, rungs := range list {
		down, code := impl.WayDown(rungs)
		if code != 0 {
			continue
		}
		met++
		for round := range 3 {
			m, samples := mems[(i+round)%len(mems)], anySamples(r, 5)
			for at := range samples {
				samples[at].X ^= r.Uint32() & 0x3fc
			}
			want := impl.EvalRun(rungs, m, samples)
			if got := impl.MachRun(down, m, samples); !sameMem(got, want) {
				t.Errorf("%s: by %s %q, not %q", brief(spelt(rungs)), brief(wayText(down)), impl.MemText(got), impl.MemText(want))
			}
		}
	}
	if met < 500 {
		t.Errorf("%d ladders", met)
	}
}

// wayMemoryLadders are of all sorts, also such that are too deep or not accepted.
func wayMemoryLadders() [][]impl.Arm {
	list := append(memoryLadders(), nil, changedOnce(branched())[0], []impl.Arm{{}})
	for i, a := range deepArms(9) {
		a.Net = deepNets(17)[i]
		list = append(list, []impl.Arm{a})
	}
	for _, row := range wayRows() {
		list = append(list, ladderSure(row.ladder))
	}
	return append(list, closeLadders(8, 60)...)
}

// No argument is written into, nor behind its end, and what stands there counts for nothing.
func TestWayWritesIntoNothing(t *testing.T) {
	for _, rungs := range wayMemoryLadders() {
		want, needs := impl.WayPlain(cloneArms(rungs)), needed(cloneArms(rungs))
		_, code := impl.WayDown(cloneArms(rungs))
		for _, given := range [][]impl.Arm{withRoom(rungs), withEmpties(rungs), rungs} {
			ahead := rooms(given)
			for range 2 {
				list, c := impl.WayDown(given)
				if plain := impl.WayPlain(given); !sameInsts(plain, want) || c != code || needed(given) != needs || code == 0 && !sameInsts(list, want) {
					t.Errorf("%s: %d, %s and %s, needs %v", brief(spelt(rungs)), c, brief(wayText(plain)), brief(wayText(list)), needed(given))
				}
			}
			if rooms(given) != ahead {
				t.Errorf("%s: written into: %s, not %s", brief(spelt(rungs)), rooms(given), ahead)
			}
		}
	}
}

// Each list is new memory: it shares none with the ladder, with another list, nor within itself.
func TestWaySharesNothing(t *testing.T) {
	for _, rungs := range wayMemoryLadders() {
		given := withRoom(rungs)
		ahead, want := rooms(given), impl.WayPlain(cloneArms(rungs))
		plain, again := impl.WayPlain(given), impl.WayPlain(given)
		down, code := impl.WayDown(given)
		checkOwnMemory(t, plain, again, down)
		if rooms(given) != ahead {
			t.Errorf("%s: what was given sees what is written into the list", brief(spelt(rungs)))
		}
		plain, down = impl.WayPlain(given), nil
		if code == 0 {
			down, _ = impl.WayDown(given)
		}
		fillRooms(given)
		for _, a := range argPlaces(given) {
			*a = operand(2, 7, 7)
		}
		for _, a := range armPlaces(given) {
			*a = impl.Arm{}
		}
		if !sameInsts(plain, want) || code == 0 && !sameInsts(down, want) {
			t.Errorf("%s: the list sees what is written into what was given", brief(spelt(rungs)))
		}
	}
}

// Calls at the same time answer as each alone does, and leave nothing running behind them, also where the ladder is too deep or not accepted.
func TestWaysAtTheSameTime(t *testing.T) {
	running := runtime.NumGoroutine()
	ladders := append(closeLadders(3, 12), slices.Repeat(ladderSure("X0 -> out:Y0\nor( X1 and( X2 X3 ) ) -> [ -> out:Y1 | -> out:Y2 ]"), 20), []impl.Arm{deepArms(9)[0]}, []impl.Arm{armOf(deepNets(17)[0], "out:Y0")}, []impl.Arm{{}}, nil)
	var joined sync.WaitGroup
	for _, rungs := range ladders {
		want, needs, bad := "", impl.SureState{}, 1
		if faultOf(rungs).Code == 0 {
			want, needs, bad = wayTextOf(rungs), depthsOf(rungs), 0
		}
		if needs.Bits > 16 || needs.Forks > 8 {
			bad = 2
		}
		for range 4 {
			joined.Go(func() {
				for range 10 {
					list, code := impl.WayDown(rungs)
					if got := wayText(impl.WayPlain(rungs)); got != want || code != bad || code == 0 && wayText(list) != want || needed(rungs) != needs {
						t.Errorf("%s: %d, %s and %s, needs %v", brief(spelt(rungs)), code, brief(got), brief(wayText(list)), needed(rungs))
					}
				}
			})
		}
	}
	joined.Wait()
	checkRunning(t, running)
}
