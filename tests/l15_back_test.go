package tests

import (
	"fmt"
	"math/rand"
	"slices"
	"strings"
	"testing"

	"loop.example/stile/impl"
)

// upArm is an arm of a ladder while its list is gone through: its net is what its bits come to, the one on top last.
type upArm struct {
	bits  []impl.Net
	coils []impl.Elem
	kids  []*upArm
}

// kid is one more kid, which finds a net that is none.
func (a *upArm) kid() *upArm {
	kid := &upArm{bits: []impl.Net{{}}}
	a.kids = append(a.kids, kid)
	return kid
}

func (a *upArm) arm() impl.Arm {
	arm := impl.Arm{Net: a.bits[0], Coils: a.coils}
	for _, kid := range a.kids {
		arm.Kids = append(arm.Kids, kid.arm())
	}
	return arm
}

// bitsBehind is the nets behind one of the six instructions, which finds enough of them. Nothing is opened: each that is put together is a net of its own.
func bitsBehind(bits []impl.Net, i impl.Inst) []impl.Net {
	if i.Code <= 3 {
		bits = append(slices.Clone(bits), impl.Net{Kind: 1, One: i.One})
	}
	kind, last := map[int]int{2: 2, 3: 3, 4: 2, 5: 3}[i.Code], len(bits)-1
	switch {
	case i.Code == 1:
		return bits
	case i.Code == 6:
		return append(slices.Clone(bits[:last]), notOf(bits[last]))
	case isNone(bits[last-1]):
		return append(slices.Clone(bits[:last-1]), impl.Net{Kind: kind, Kids: []impl.Net{bits[last]}})
	}
	return append(slices.Clone(bits[:last-1]), impl.Net{Kind: kind, Kids: []impl.Net{bits[last-1], bits[last]}})
}

// upOf is a second reading of the ladder of a list that is verified: the list is gone through once, and each instruction goes to the arm at which the machine is then. All is made as it comes, and brought to its normal form behind.
func upOf(list []impl.Inst) []impl.Arm {
	rungs, forks := []impl.Arm{}, []*upArm{}
	var rung, now *upArm
	for _, i := range list {
		switch {
		case i.Code == 11:
			rungs, rung = append(rungs, rung.arm()), nil
		case i.Code == 10:
			now.coils = append(now.coils, i.One)
		case i.Code == 7:
			forks = append(forks, now)
			now = now.kid()
		case i.Code > 7:
			now = forks[len(forks)-1].kid()
			forks = forks[:len(forks)-i.Code+8]
		case rung == nil:
			rung = &upArm{bits: bitsBehind(nil, i)}
			now = rung
		case len(now.coils) > 0:
			now = now.kid()
			now.bits = bitsBehind(now.bits, i)
		default:
			now.bits = bitsBehind(now.bits, i)
		}
	}
	return normalOf(rungs)
}

// upNetOf is a second reading of BackNet.
func upNetOf(list []impl.Inst) (impl.Net, bool) {
	needs, bits := map[int]int{1: 0, 2: 1, 3: 1, 4: 2, 5: 2, 6: 1}, []impl.Net{}
	if len(list) > 1000 {
		return impl.Net{}, false
	}
	for _, i := range list {
		need, ok := needs[i.Code]
		if instLine(i) == "" || !ok || len(bits) < need {
			return impl.Net{}, false
		}
		bits = bitsBehind(bits, i)
	}
	if len(bits) != 1 {
		return impl.Net{}, false
	}
	n := normalNetOf(bits[0])
	if len(netsIn(n)) > 400 {
		return impl.Net{}, false
	}
	return n, true
}

// begunBy is what a net begins with, by the second reading of chapter 14.
func begunBy(n impl.Net) []impl.Inst {
	waiting, lines := wayNets('b', n), []string{}
	for len(waiting) > 0 {
		p := waiting[0]
		waiting = waiting[1:]
		if p.todo == 0 {
			lines = append(lines, p.line)
		} else {
			waiting = append(wayNetPieces(p), waiting...)
		}
	}
	return listSure(strings.Join(lines, ";"))
}

// backBrief is a list as far as it is worth telling.
func backBrief(list []impl.Inst) string {
	return brief(strings.ReplaceAll(wayText(list), "\n", ";"))
}

// onesOf are the contacts and coils of a list, in their order.
func onesOf(list []impl.Inst) string {
	texts := []string{}
	for _, i := range list {
		if text := impl.ElemText(i.One); text != "" {
			texts = append(texts, text)
		}
	}
	return strings.Join(texts, " ")
}

// checkDownOfUp asks for P50 of a list and the ladder to which it goes up; it gives the list to which that goes down again.
func checkDownOfUp(t *testing.T, list []impl.Inst, up []impl.Arm) []impl.Inst {
	t.Helper()
	down, code := impl.WayDown(up)
	is, was := impl.SurePeak(down), impl.SurePeak(list)
	if code != 0 || len(down) > len(list) || is.Bits > was.Bits || is.Forks > was.Forks {
		t.Errorf("%s: goes up to %s, and down by %d to %s; %v, not %v", backBrief(list), brief(spelt(up)), code, backBrief(down), is, was)
	}
	if again, code := impl.BackUp(down); code != 0 || !impl.TreeSame(again, up) {
		t.Errorf("%s: goes up to %s, and down and up again by %d to %s", backBrief(list), brief(spelt(up)), code, brief(spelt(again)))
	}
	return down
}

// checkBack holds what is said of a list that is verified against the second reading, asks for P49 and P50, and gives the code of BackUp.
func checkBack(t *testing.T, list []impl.Inst) int {
	t.Helper()
	ahead := fmt.Sprint(list)
	if f := sureFaultOf(list); f.Code != 0 {
		t.Fatalf("%s: %v", backBrief(list), f)
	}
	up, code := impl.BackUp(list)
	want := upOf(list)
	if len(want) > 40 || partsOf(want) > 400 {
		if code != 2 || len(up) != 0 {
			t.Errorf("%s: %d with %d rungs, though it has %d rungs and %d parts", backBrief(list), code, len(up), len(want), partsOf(want))
		}
		return code
	}
	if code != 0 || !impl.TreeSame(up, want) {
		t.Errorf("%s: %d with %s, not %s", backBrief(list), code, brief(spelt(up)), brief(spelt(want)))
		return code
	}
	if f := faultOf(up); f.Code != 0 || impl.TreeCheck(up) != f || !impl.NormIs(up) || looseLadder(up) != "" || onesOf(list) != elemsOf(up) {
		t.Errorf("%s: %s is wrong by %v or loose: %q", backBrief(list), brief(spelt(up)), f, looseLadder(up))
	}
	checkDownOfUp(t, list, up)
	for i, rung := range impl.SureRungs(list) {
		if alone, code := impl.BackUp(rung); code != 0 || !impl.TreeSame(alone, up[i:i+1]) {
			t.Errorf("%s: rung %d alone: %d with %s", backBrief(list), i, code, brief(spelt(alone)))
		}
	}
	if fmt.Sprint(list) != ahead {
		t.Errorf("%s: written into: %v", brief(ahead), list)
	}
	return code
}

// checkNoBack asks for nothing and BackBad, of a list that is not verified.
func checkNoBack(t *testing.T, list []impl.Inst) {
	t.Helper()
	if up, code := impl.BackUp(list); len(up) != 0 || code != 1 {
		t.Errorf("%d instructions, %v: %d with %s", len(list), impl.SureCheck(list), code, brief(spelt(up)))
	}
}

// checkBackNet holds BackNet of any instructions against the second reading.
func checkBackNet(t *testing.T, list []impl.Inst) bool {
	t.Helper()
	n, ok := impl.BackNet(list)
	if want, is := upNetOf(list); ok != is || !sameNet(n, want) {
		t.Errorf("%s: %s and %v, not %s and %v", backBrief(list[:min(len(list), 1002)]), brief(speltNet(n)), ok, brief(speltNet(want)), is)
	}
	if ok && looseNet(n) != "" {
		t.Errorf("%s: %s has %s", backBrief(list), brief(speltNet(n)), looseNet(n))
	}
	return ok
}

// checkUpOfDown asks for P48 and P50 of a ladder that is accepted, and gives the code of WayDown.
func checkUpOfDown(t *testing.T, rungs []impl.Arm) int {
	t.Helper()
	list, code := impl.WayDown(rungs)
	if code != 0 {
		return code
	}
	up, back := impl.BackUp(list)
	want := normalOf(rungs)
	if back != 0 || !impl.TreeSame(up, want) || spelt(up) != spelt(want) || !impl.TreeSame(up, impl.NormMake(rungs)) {
		t.Errorf("%s: goes down to %s, and up by %d to %s", brief(spelt(rungs)), backBrief(list), back, brief(spelt(up)))
	}
	if again := checkDownOfUp(t, list, up); !sameInsts(again, list) {
		t.Errorf("%s: goes down to %s, and down of up to %s", brief(spelt(rungs)), backBrief(list), backBrief(again))
	}
	return code
}

func TestBackConstants(t *testing.T) {
	if impl.BackBad != 1 || impl.BackMany != 2 {
		t.Error(impl.BackBad, impl.BackMany)
	}
}

// The list of chapter 14's example goes up to its ladder.
func TestBackExample(t *testing.T) {
	list := listSure("ld X0;and X1;ld X2;ld X3;or X4;inv;anb;orb;coil out:Y0;mps;and X5;coil out:Y1;mrd;ld X6;or X7;anb;coil out:Y2;and X8;coil set:M1;mpp;coil reset:M1;end")
	up, code := impl.BackUp(list)
	if text := impl.TextPrint(up); code != 0 || text != "or( and( X0 X1 ) and( X2 not( or( X3 X4 ) ) ) ) -> out:Y0 [ X5 -> out:Y1 | or( X6 X7 ) -> out:Y2 [ X8 -> set:M1 ] | -> reset:M1 ]\n" {
		t.Errorf("%d and %q", code, text)
	}
	checkBack(t, list)
	checkUpOfDown(t, up)
	if n, ok := impl.BackNet(list[:8]); !ok || speltNet(n) != "or( and( X0 X1 ) and( X2 not( or( X3 X4 ) ) ) ) " {
		t.Errorf("its net: %v and %s", ok, speltNet(n))
	}
}

// P48 by the ladders and lists that are written out for chapter 14, alone and with another rung ahead and behind.
func TestBacksOfWaysWrittenOut(t *testing.T) {
	other := wayRow{ladder: "X9 -> out:Y9", list: "ld X9;coil out:Y9;end"}
	for _, row := range wayRows() {
		for _, r := range []wayRow{row, {ladder: other.ladder + "\n" + row.ladder, list: other.list + ";" + row.list}, {ladder: row.ladder + "\n" + other.ladder, list: row.list + ";" + other.list}} {
			up, code := impl.BackUp(listSure(r.list))
			if want := impl.TextPrint(normalOf(ladderSure(r.ladder))); code != 0 || impl.TextPrint(up) != want || want == "" {
				t.Errorf("%s: %d and %q, not %q", r.list, code, impl.TextPrint(up), want)
			}
			checkBack(t, listSure(r.list))
			checkUpOfDown(t, ladderSure(r.ladder))
		}
	}
	for _, c := range laddersAndLists() {
		up, code := impl.BackUp(listSure(c.list))
		if code != 0 || !impl.TreeSame(up, normalOf(ladderSure(c.ladder))) {
			t.Errorf("%s: %d and %s", c.list, code, spelt(up))
		}
		checkBack(t, listSure(c.list))
	}
}

// backRow is a list, the ladder to which it goes up, and the list to which that goes down again, if it is another one.
type backRow struct{ list, ladder, down string }

// backNetRows are nets; what stands behind them is a coil and the end.
func backNetRows() []backRow {
	return []backRow{
		{"ld X0", "X0", ""}, {"ld X0;inv", "not( X0 )", ""}, {"ld X0;inv;inv", "not( not( X0 ) )", ""}, {"ld X0;inv;inv;inv;inv", "not( not( not( not( X0 ) ) ) )", ""}, {"ld X0;and X1;inv;inv", "not( not( and( X0 X1 ) ) )", ""},
		// One contact is a block too.
		{"ld X0;ld X1;anb", "and( X0 X1 )", "ld X0;and X1"}, {"ld X0;ld X1;orb", "or( X0 X1 )", "ld X0;or X1"}, {"ld X0;ld X0;anb", "and( X0 X0 )", "ld X0;and X0"}, {"ld X0;ld X1;anb;ld X2;orb", "or( and( X0 X1 ) X2 )", "ld X0;and X1;or X2"}, {"ld X0;ld X1;inv;orb", "or( X0 not( X1 ) )", ""}, {"ld X0;inv;ld X1;orb", "or( not( X0 ) X1 )", "ld X0;inv;or X1"},
		// Blocks of the same kind are opened: the one below, the one on top, and both.
		{"ld X0;and X1;ld X2;anb", "and( X0 X1 X2 )", "ld X0;and X1;and X2"}, {"ld X0;ld X1;and X2;anb", "and( X0 X1 X2 )", "ld X0;and X1;and X2"}, {"ld X0;and X1;ld X2;and X3;anb", "and( X0 X1 X2 X3 )", "ld X0;and X1;and X2;and X3"}, {"ld X0;or X1;ld X2;orb", "or( X0 X1 X2 )", "ld X0;or X1;or X2"}, {"ld X0;ld X1;or X2;orb", "or( X0 X1 X2 )", "ld X0;or X1;or X2"}, {"ld X0;or X1;ld X2;or X3;orb", "or( X0 X1 X2 X3 )", "ld X0;or X1;or X2;or X3"},
		{"ld X0;and X1;and X2;ld X3;and X4;and X5;anb;and X6", "and( X0 X1 X2 X3 X4 X5 X6 )", "ld X0;and X1;and X2;and X3;and X4;and X5;and X6"}, {"ld X0;or X1;or X2;ld X3;or X4;or X5;orb;or X6", "or( X0 X1 X2 X3 X4 X5 X6 )", "ld X0;or X1;or X2;or X3;or X4;or X5;or X6"},
		// Those of the other kind are not.
		{"ld X0;or X1;ld X2;anb", "and( or( X0 X1 ) X2 )", "ld X0;or X1;and X2"}, {"ld X0;ld X1;or X2;anb", "and( X0 or( X1 X2 ) )", ""}, {"ld X0;or X1;ld X2;or X3;anb", "and( or( X0 X1 ) or( X2 X3 ) )", ""}, {"ld X0;and X1;ld X2;orb", "or( and( X0 X1 ) X2 )", "ld X0;and X1;or X2"}, {"ld X0;ld X1;and X2;orb", "or( X0 and( X1 X2 ) )", ""}, {"ld X0;and X1;ld X2;and X3;orb", "or( and( X0 X1 ) and( X2 X3 ) )", ""},
		// One of each kind.
		{"ld X0;and X1;ld X2;or X3;anb", "and( X0 X1 or( X2 X3 ) )", ""}, {"ld X0;or X1;ld X2;and X3;anb", "and( or( X0 X1 ) X2 X3 )", "ld X0;or X1;and X2;and X3"}, {"ld X0;and X1;ld X2;or X3;orb", "or( and( X0 X1 ) X2 X3 )", "ld X0;and X1;or X2;or X3"}, {"ld X0;or X1;ld X2;and X3;orb", "or( X0 X1 and( X2 X3 ) )", ""},
		// A not parts what stands within from what stands around.
		{"ld X0;and X1;inv;and X2", "and( not( and( X0 X1 ) ) X2 )", ""}, {"ld X0;and X1;inv;ld X2;and X3;anb", "and( not( and( X0 X1 ) ) X2 X3 )", "ld X0;and X1;inv;and X2;and X3"}, {"ld X0;ld X1;and X2;inv;anb", "and( X0 not( and( X1 X2 ) ) )", ""}, {"ld X0;or X1;inv;inv;or X2", "or( not( not( or( X0 X1 ) ) ) X2 )", ""}, {"ld X0;or X1;ld X2;or X3;inv;orb", "or( X0 X1 not( or( X2 X3 ) ) )", ""}, {"ld X0;ld X1;anb;inv;ld X2;ld X3;orb;inv;orb;inv", "not( or( not( and( X0 X1 ) ) not( or( X2 X3 ) ) ) )", "ld X0;and X1;inv;ld X2;or X3;inv;orb;inv"},
		// Several blocks at once, taken in from the last one on.
		{"ld X0;ld X1;ld X2;anb;anb", "and( X0 X1 X2 )", "ld X0;and X1;and X2"}, {"ld X0;ld X1;ld X2;ld X3;orb;orb;orb", "or( X0 X1 X2 X3 )", "ld X0;or X1;or X2;or X3"}, {"ld X0;ld X1;ld X2;orb;anb", "and( X0 or( X1 X2 ) )", "ld X0;ld X1;or X2;anb"}, {"ld X0;ld X1;ld X2;anb;orb", "or( X0 and( X1 X2 ) )", "ld X0;ld X1;and X2;orb"}, {"ld X0;ld X1;ld X2;ld X3;anb;orb;anb", "and( X0 or( X1 and( X2 X3 ) ) )", "ld X0;ld X1;ld X2;and X3;orb;anb"}, {"ld X0;ld X1;ld X2;ld X3;orb;anb;anb", "and( X0 X1 or( X2 X3 ) )", "ld X0;and X1;ld X2;or X3;anb"},
		{"ld X0;ld X1;and X2;ld X3;and X4;orb;anb", "and( X0 or( and( X1 X2 ) and( X3 X4 ) ) )", ""}, {"ld X0;ld X1;ld X2;and X3;or X4;ld X5;or X6;orb;anb;orb", "or( X0 and( X1 or( and( X2 X3 ) X4 X5 X6 ) ) )", "ld X0;ld X1;ld X2;and X3;or X4;or X5;or X6;anb;orb"}, {"ld X0;ld X1;anb;ld X2;ld X3;anb;orb;ld X4;ld X5;anb;orb", "or( and( X0 X1 ) and( X2 X3 ) and( X4 X5 ) )", "ld X0;and X1;ld X2;and X3;orb;ld X4;and X5;orb"}, {"ld X0;and X1;or X2;ld X3;and X4;or X5;orb", "or( and( X0 X1 ) X2 and( X3 X4 ) X5 )", "ld X0;and X1;or X2;ld X3;and X4;orb;or X5"},
	}
}

// backKidRows are whole rungs, in which a net is put behind the current of another arm, and what stands behind forks.
func backKidRows() []backRow {
	return []backRow{
		{"ld X0;coil out:Y0;end", "X0 -> out:Y0", ""}, {"ld X0;coil out:Y0;coil out:Y0;coil set:M1;end", "X0 -> out:Y0 out:Y0 set:M1", ""},
		// One kid alone: it begins where its net does.
		{"ld X0;coil out:Y0;and X1;coil out:Y1;end", "X0 -> out:Y0 [ X1 -> out:Y1 ]", ""}, {"ld X0;coil out:Y0;ld X1;anb;coil out:Y1;end", "X0 -> out:Y0 [ X1 -> out:Y1 ]", "ld X0;coil out:Y0;and X1;coil out:Y1;end"}, {"ld X0;coil out:Y0;ld X1;and X2;anb;coil out:Y1;end", "X0 -> out:Y0 [ and( X1 X2 ) -> out:Y1 ]", "ld X0;coil out:Y0;and X1;and X2;coil out:Y1;end"}, {"ld X0;coil out:Y0;ld X1;ld X2;anb;anb;coil out:Y1;end", "X0 -> out:Y0 [ and( X1 X2 ) -> out:Y1 ]", "ld X0;coil out:Y0;and X1;and X2;coil out:Y1;end"},
		{"ld X0;coil out:Y0;and X1;ld X2;anb;coil out:Y1;end", "X0 -> out:Y0 [ and( X1 X2 ) -> out:Y1 ]", "ld X0;coil out:Y0;and X1;and X2;coil out:Y1;end"}, {"ld X0;coil out:Y0;and X1;ld X2;and X3;anb;and X4;coil out:Y1;end", "X0 -> out:Y0 [ and( X1 X2 X3 X4 ) -> out:Y1 ]", "ld X0;coil out:Y0;and X1;and X2;and X3;and X4;coil out:Y1;end"}, {"ld X0;coil out:Y0;ld X1;or X2;anb;coil out:Y1;end", "X0 -> out:Y0 [ or( X1 X2 ) -> out:Y1 ]", ""}, {"ld X0;coil out:Y0;ld X1;ld X2;orb;anb;coil out:Y1;end", "X0 -> out:Y0 [ or( X1 X2 ) -> out:Y1 ]", "ld X0;coil out:Y0;ld X1;or X2;anb;coil out:Y1;end"},
		{"ld X0;coil out:Y0;ld X1;inv;anb;coil out:Y1;end", "X0 -> out:Y0 [ not( X1 ) -> out:Y1 ]", ""}, {"ld X0;coil out:Y0;ld X1;inv;inv;anb;coil out:Y1;end", "X0 -> out:Y0 [ not( not( X1 ) ) -> out:Y1 ]", ""}, {"ld X0;coil out:Y0;ld X1;or X2;and X3;anb;coil out:Y1;end", "X0 -> out:Y0 [ and( or( X1 X2 ) X3 ) -> out:Y1 ]", "ld X0;coil out:Y0;ld X1;or X2;anb;and X3;coil out:Y1;end"}, {"ld X0;coil out:Y0;ld X1;or X2;anb;ld X3;or X4;anb;coil out:Y1;end", "X0 -> out:Y0 [ and( or( X1 X2 ) or( X3 X4 ) ) -> out:Y1 ]", ""}, {"ld X0;coil out:Y0;ld X1;or X2;ld X3;or X4;anb;anb;coil out:Y1;end", "X0 -> out:Y0 [ and( or( X1 X2 ) or( X3 X4 ) ) -> out:Y1 ]", "ld X0;coil out:Y0;ld X1;or X2;anb;ld X3;or X4;anb;coil out:Y1;end"},
		// What is ahead of the coils is not the kid's.
		{"ld X0;or X1;coil out:Y0;and X2;coil out:Y1;coil out:Y2;ld X3;anb;coil out:Y3;end", "or( X0 X1 ) -> out:Y0 [ X2 -> out:Y1 out:Y2 [ X3 -> out:Y3 ] ]", "ld X0;or X1;coil out:Y0;and X2;coil out:Y1;coil out:Y2;and X3;coil out:Y3;end"}, {"ld X0;and X1;coil out:Y0;and X2;and X3;coil out:Y1;end", "and( X0 X1 ) -> out:Y0 [ and( X2 X3 ) -> out:Y1 ]", ""},
		// Kids behind forks, without nets and with them.
		{"ld X0;mps;coil out:Y0;mpp;coil out:Y1;end", "X0 -> [ -> out:Y0 | -> out:Y1 ]", ""}, {"ld X0;mps;ld X1;anb;coil out:Y0;mrd;coil out:Y1;mpp;ld X2;ld X3;orb;anb;coil out:Y2;end", "X0 -> [ X1 -> out:Y0 | -> out:Y1 | or( X2 X3 ) -> out:Y2 ]", "ld X0;mps;and X1;coil out:Y0;mrd;coil out:Y1;mpp;ld X2;or X3;anb;coil out:Y2;end"}, {"ld X0;mps;ld X1;and X2;anb;coil out:Y0;mpp;and X3;ld X4;and X5;anb;coil out:Y1;end", "X0 -> [ and( X1 X2 ) -> out:Y0 | and( X3 X4 X5 ) -> out:Y1 ]", "ld X0;mps;and X1;and X2;coil out:Y0;mpp;and X3;and X4;and X5;coil out:Y1;end"},
		// An arm without a net that only goes on: as the first kid, one between, the last one, and one within the other.
		{"ld X0;mps;mps;coil out:Y0;mpp;coil out:Y1;mpp;coil out:Y2;end", "X0 -> [ -> [ -> out:Y0 | -> out:Y1 ] | -> out:Y2 ]", ""}, {"ld X0;mps;coil out:Y0;mrd;mps;coil out:Y1;mpp;coil out:Y2;mpp;coil out:Y3;end", "X0 -> [ -> out:Y0 | -> [ -> out:Y1 | -> out:Y2 ] | -> out:Y3 ]", ""}, {"ld X0;mps;coil out:Y0;mpp;mps;coil out:Y1;mpp;coil out:Y2;end", "X0 -> [ -> out:Y0 | -> [ -> out:Y1 | -> out:Y2 ] ]", ""}, {"ld X0;mps;mps;mps;and X1;coil out:Y0;mpp;coil out:Y1;mpp;coil out:Y2;mpp;mps;coil out:Y3;mpp;mps;coil out:Y4;mpp;coil out:Y5;end", "X0 -> [ -> [ -> [ X1 -> out:Y0 | -> out:Y1 ] | -> out:Y2 ] | -> [ -> out:Y3 | -> [ -> out:Y4 | -> out:Y5 ] ] ]", ""}, {"ld X0;coil out:Y0;mps;mps;coil out:Y1;mpp;and X1;coil out:Y2;mpp;coil out:Y3;end", "X0 -> out:Y0 [ -> [ -> out:Y1 | X1 -> out:Y2 ] | -> out:Y3 ]", ""},
		// An arm with a net that only goes on.
		{"ld X0;coil out:Y0;ld X1;anb;mps;coil out:Y1;mpp;and X2;coil out:Y2;end", "X0 -> out:Y0 [ X1 -> [ -> out:Y1 | X2 -> out:Y2 ] ]", "ld X0;coil out:Y0;and X1;mps;coil out:Y1;mpp;and X2;coil out:Y2;end"}, {"ld X0;mps;ld X1;ld X2;anb;anb;mps;coil out:Y0;mpp;coil out:Y1;mpp;coil out:Y2;end", "X0 -> [ and( X1 X2 ) -> [ -> out:Y0 | -> out:Y1 ] | -> out:Y2 ]", "ld X0;mps;and X1;and X2;mps;coil out:Y0;mpp;coil out:Y1;mpp;coil out:Y2;end"},
		// What stands behind the last mpp belongs to the last kid, up to what ends the kid around it.
		{"ld X0;mps;coil out:Y0;mpp;coil out:Y1;and X1;coil out:Y2;and X2;coil out:Y3;end", "X0 -> [ -> out:Y0 | -> out:Y1 [ X1 -> out:Y2 [ X2 -> out:Y3 ] ] ]", ""}, {"ld X0;mps;coil out:Y0;mpp;and X1;coil out:Y1;ld X2;anb;coil out:Y2;end", "X0 -> [ -> out:Y0 | X1 -> out:Y1 [ X2 -> out:Y2 ] ]", "ld X0;mps;coil out:Y0;mpp;and X1;coil out:Y1;and X2;coil out:Y2;end"}, {"ld X0;mps;coil out:Y0;mpp;coil out:Y1;mps;coil out:Y2;mpp;coil out:Y3;end", "X0 -> [ -> out:Y0 | -> out:Y1 [ -> out:Y2 | -> out:Y3 ] ]", ""},
		{"ld X0;mps;mps;coil out:Y0;mpp;coil out:Y1;and X1;coil out:Y2;mrd;mps;coil out:Y3;mpp;and X2;coil out:Y4;mpp;coil out:Y5;and X3;coil out:Y6;end", "X0 -> [ -> [ -> out:Y0 | -> out:Y1 [ X1 -> out:Y2 ] ] | -> [ -> out:Y3 | X2 -> out:Y4 ] | -> out:Y5 [ X3 -> out:Y6 ] ]", ""}, {"ld X0;mps;coil out:Y0;mrd;coil out:Y1;mrd;and X1;coil out:Y2;mrd;coil out:Y3;mpp;coil out:Y4;coil out:Y5;end", "X0 -> [ -> out:Y0 | -> out:Y1 | X1 -> out:Y2 | -> out:Y3 | -> out:Y4 out:Y5 ]", ""},
		// Several rungs: each begins anew.
		{"ld X0;mps;coil out:Y0;mpp;coil out:Y1;end;ld X1;ld X2;anb;coil out:Y2;end;ld X3;inv;coil out:Y3;end", "X0 -> [ -> out:Y0 | -> out:Y1 ]\nand( X1 X2 ) -> out:Y2\nnot( X3 ) -> out:Y3", "ld X0;mps;coil out:Y0;mpp;coil out:Y1;end;ld X1;and X2;coil out:Y2;end;ld X3;inv;coil out:Y3;end"}, {"ld X0;coil out:Y0;end;ld X0;coil out:Y0;end", "X0 -> out:Y0\nX0 -> out:Y0", ""},
	}
}

// P49 and P50 by lists that are written out here, also such that did not come down from a ladder.
func TestBacksWrittenOut(t *testing.T) {
	rows := backKidRows()
	for _, row := range backNetRows() {
		if row.down != "" {
			row.down += ";coil out:Y0;end"
		}
		rows = append(rows, backRow{row.list + ";coil out:Y0;end", row.ladder + " -> out:Y0", row.down})
	}
	for _, row := range rows {
		list := listSure(row.list)
		up, code := impl.BackUp(list)
		if got := impl.TextPrint(up); code != 0 || got != row.ladder+"\n" {
			t.Errorf("%s: %d and %q, not %q", row.list, code, got, row.ladder)
		}
		if row.down == "" {
			row.down = row.list
		}
		if down, code := impl.WayDown(up); code != 0 || !sameInsts(down, listSure(row.down)) {
			t.Errorf("%s: down again by %d to %s", row.list, code, backBrief(down))
		}
		checkBack(t, list)
		checkBack(t, slices.Concat(list, listSure("ld X9;coil out:Y9;end"), list))
	}
}

// P51 and BackNet by nets that are written out here.
func TestBackNetsWrittenOut(t *testing.T) {
	for _, row := range backNetRows() {
		n, ok := impl.BackNet(listSure(row.list))
		if !ok || speltNet(n) != row.ladder+" " {
			t.Errorf("%s: %v and %s, not %s", row.list, ok, speltNet(n), row.ladder)
		}
		if row.down != "" {
			n, ok = impl.BackNet(listSure(row.down))
		}
		if !ok || !sameNet(n, netSure(row.ladder)) {
			t.Errorf("%s: %v and %s, not %s", row.down, ok, speltNet(n), row.ladder)
		}
		checkBackNet(t, listSure(row.list))
	}
	for _, row := range wayNetRows() {
		if n, ok := impl.BackNet(listSure(row.list)); !ok || !sameNet(n, normalNetOf(netSure(row.ladder))) {
			t.Errorf("%s: %v and %s, not %s", row.list, ok, speltNet(n), row.ladder)
		}
	}
}

// The empty list and the nil list are verified and have no rungs; they leave no net.
func TestBackOfNothing(t *testing.T) {
	for _, list := range [][]impl.Inst{nil, {}, make([]impl.Inst, 0, 3), mixedInsts()[:0]} {
		if up, code := impl.BackUp(list); len(up) != 0 || code != 0 {
			t.Errorf("no instructions: %d with %v", code, up)
		}
		if n, ok := impl.BackNet(list); ok || !isNone(n) {
			t.Errorf("no instructions: %v and %v", ok, n)
		}
		checkBack(t, list)
	}
}

// Each contact and coil, with all its operands, comes into the ladder as it was, by whichever instruction.
func TestBackKeepsContactsAndCoils(t *testing.T) {
	contacts, coils := contactsAndCoils()
	for _, contact := range contacts {
		for _, coil := range coils {
			put := strings.NewReplacer("?", contact, "!", coil).Replace
			up, code := impl.BackUp(listSure(put("ld ?;and X1;and ?;or ?;ld ?;inv;orb;coil !;coil out:Y0;and ?;coil !;mps;ld ?;anb;coil !;mpp;coil !;end")))
			if got, want := impl.TextPrint(up), put("or( and( ? X1 ? ) ? not( ? ) ) -> ! out:Y0 [ ? -> ! [ ? -> ! | -> ! ] ]\n"); code != 0 || got != want {
				t.Errorf("%s and %s: %d and %q", contact, coil, code, got)
			}
		}
		if n, ok := impl.BackNet(listSure("ld " + contact + ";and " + contact + ";or " + contact)); !ok || speltNet(n) != strings.ReplaceAll("or( and( ? ? ) ? ) ", "?", contact) {
			t.Errorf("%s: %v and %s", contact, ok, speltNet(n))
		}
	}
}

// numberedInsts have another contact or coil in each place, so that none can change its place or go unseen.
func numberedInsts(list []impl.Inst) []impl.Inst {
	other := cloneInsts(list)
	for at, i := range other {
		switch i.Code {
		case 1, 2, 3:
			other[at].One = elemSure(fmt.Sprintf("M%d", at%64))
		case 10:
			other[at].One = elemSure(fmt.Sprintf("out:Y%d", at%32))
		}
	}
	return other
}

// P49 and P50 of each rung of up to nine instructions that is verified; no other beginning of one has a ladder.
func TestBackOfEachShortRung(t *testing.T) {
	lists, met := [][]impl.Inst{{}}, 0
	for count := 1; count <= 9; count++ {
		longer, words := [][]impl.Inst{}, "ld and or anb orb inv mps mrd mpp coil end"
		if count == 9 {
			words = "end"
		}
		for _, list := range lists {
			for _, i := range instsOf(words) {
				next := append(slices.Clone(list), i)
				switch f := impl.SureCheck(next); f.Code {
				case 0:
					met++
					checkBack(t, numberedInsts(next))
				case 9:
					longer = append(longer, next)
					checkNoBack(t, next)
				default:
					checkNoBack(t, next)
				}
			}
		}
		lists = longer
	}
	if met < 5000 {
		t.Errorf("%d rungs", met)
	}
}

// BackNet of each list of up to six instructions of which none finds too few nets, and with each instruction behind it.
func TestBackNetOfEachShortList(t *testing.T) {
	lists, met := [][]impl.Inst{{}}, map[bool]int{}
	for range 7 {
		longer := [][]impl.Inst{}
		for _, list := range lists {
			for _, i := range instsOf("ld and or anb orb inv mps mrd mpp coil end ?") {
				next := append(slices.Clone(list), i)
				ok := checkBackNet(t, numberedInsts(next))
				met[ok]++
				if i.Code <= 6 && impl.SureCheck(next).Code == 9 {
					longer = append(longer, next)
				}
			}
		}
		lists = longer
	}
	if met[true] < 1000 || met[false] < 1000 {
		t.Errorf("%v", met)
	}
}

// P48, P50 and P51 of each net of up to seven nets, as the net of a rung, and of up to six as that of one kid alone, of the first and of the last kid.
func TestBackOfEachShape(t *testing.T) {
	x, known, met := contactOf("X0"), map[int][]impl.Net{}, 0
	for count := 1; count <= 7; count++ {
		for _, n := range shapes(count, known) {
			met++
			rungs := numbered([]impl.Arm{armOf(n, "out:Y0")})
			checkUpOfDown(t, rungs)
			if norm := normalNetOf(rungs[0].Net); !backIs(norm) {
				t.Errorf("%s: not of what it begins with", speltNet(norm))
			}
			if count < 7 {
				checkUpOfDown(t, numbered([]impl.Arm{armOf(x, "out:Y0", armOf(n, "out:Y0"))}))
				checkUpOfDown(t, numbered([]impl.Arm{armOf(n, "", armOf(n, "out:Y0"), armOf(impl.Net{}, "out:Y0", armOf(n, "out:Y0")), armOf(n, "out:Y0"))}))
			}
		}
	}
	if met < 1000 {
		t.Errorf("%d nets", met)
	}
}

// backIs says whether BackNet of what a net begins with is this net.
func backIs(n impl.Net) bool {
	got, ok := impl.BackNet(begunBy(n))
	return ok && sameNet(got, n) && speltNet(got) == speltNet(n)
}

// P48 and P50 of each small rung of three arms one behind the other.
func TestBackOfEachArm(t *testing.T) {
	met := 0
	for _, rung := range threeArms() {
		met++
		checkUpOfDown(t, numbered([]impl.Arm{rung}))
	}
	if met < 1000 {
		t.Errorf("%d rungs", met)
	}
}

// P48 and P50 of ladders of all sorts, in normal form and loosened, and of those by chance; P49 of their lists.
func TestUpOfDownOfAnyLadders(t *testing.T) {
	ladders, met := slices.Concat(memoryLadders(), evalLadders(), closeLadders(48, 400)), 0
	for _, rungs := range normalLadders() {
		if checkUpOfDown(t, rungs) != 0 {
			t.Errorf("%s: too deep", spelt(rungs))
		}
		ladders = append(ladders, loosened(rungs)...)
	}
	r := rand.New(rand.NewSource(48))
	for range 200 {
		rungs := []impl.Arm{}
		for range 1 + r.Intn(4) {
			rungs = append(rungs, anyArm(r, 3, true))
		}
		ladders = append(ladders, rungs)
	}
	for _, rungs := range ladders {
		if faultOf(rungs).Code != 0 || checkUpOfDown(t, rungs) != 0 {
			continue
		}
		met++
		if list, _ := impl.WayDown(rungs); len(list) < 100 {
			checkBack(t, list)
		}
		for i, rung := range rungs {
			if norm := normalNetOf(rung.Net); i < 3 && !backIs(norm) {
				t.Errorf("%s: not of what it begins with", brief(speltNet(norm)))
			}
		}
	}
	if met < 1500 {
		t.Errorf("%d ladders", met)
	}
}

// P48 and P50 of ladders by chance about as deep as may be, and of those that are just as deep.
func TestUpOfDownOfSteepLadders(t *testing.T) {
	r, met := rand.New(rand.NewSource(50)), map[string]int{}
	for range 300 {
		rungs := []impl.Arm{armOf(steepNet(r, 9+r.Intn(8)), "out:Y0"), steepArm(r, 3+r.Intn(6))}
		places := armPlaces(rungs)
		places[1+r.Intn(len(places)-1)].Net = steepNet(r, 8+r.Intn(8))
		if faultOf(rungs).Code != 0 || checkUpOfDown(t, rungs) != 0 {
			continue
		}
		needs := depthsOf(rungs)
		met["all"]++
		met[fmt.Sprint(needs.Bits, " bits")]++
		met[fmt.Sprint(needs.Forks, " forks")]++
	}
	if met["all"] < 100 || met["16 bits"] < 10 || met["8 forks"] < 10 {
		t.Errorf("%v", met)
	}
	for i, a := range deepArms(8) {
		for _, n := range deepNets(16) {
			if checkUpOfDown(t, []impl.Arm{armOf(n, "out:Y0"), a}) != 0 {
				t.Errorf("%s: too deep", brief(speltNet(n)))
			}
			if !backIs(normalNetOf(n)) {
				t.Errorf("%s: not of what it begins with", brief(speltNet(n)))
			}
		}
		a.Net = deepNets(16)[i]
		if checkUpOfDown(t, []impl.Arm{a}) != 0 {
			t.Errorf("%s: too deep", brief(spelt([]impl.Arm{a})))
		}
	}
}

// P49 and P50 of lists by chance that are verified and hardly ever came down from a ladder, and as high as the stacks may be.
func TestBackOfAnyVerifiedLists(t *testing.T) {
	lists, codes, shorter := sureLists(49, 300), map[int]int{}, 0
	for _, between := range []string{"anb", "orb", "anb orb", "orb anb", "inv anb", "anb inv orb", "or orb and anb"} {
		words := repeated("ld", 16)
		for at := range 15 {
			// The instructions up to the next one that takes a bit away are one turn.
			turns := strings.SplitAfter(strings.NewReplacer("anb", "anb,", "orb", "orb,").Replace(between), ",")
			words += " " + strings.Trim(turns[at%(len(turns)-1)], ",")
		}
		lists = append(lists, numberedInsts(instsOf(words+" coil end")))
	}
	for _, between := range []string{"", "and", "coil", "ld anb", "ld or anb", "coil ld inv anb"} {
		lists = append(lists, numberedInsts(instsOf("ld "+repeated("mps "+between, 8)+"coil"+repeated("mpp "+between+" coil", 8)+"end")), numberedInsts(instsOf("ld "+repeated("mps "+between+" coil mrd", 8)+"coil"+repeated("mpp coil", 8)+"end")))
	}
	for _, list := range lists {
		code := checkBack(t, list)
		codes[code]++
		up, _ := impl.BackUp(list)
		if down, _ := impl.WayDown(up); code == 0 && len(down) < len(list) {
			shorter++
		}
	}
	if codes[0] < 300 || shorter < 200 {
		t.Errorf("codes %v, %d are shorter", codes, shorter)
	}
}

// P49: lists that were verified until one instruction was taken out, put in, changed, or changed places with another one have a ladder just if they are still so.
func TestBackOfSpoiltLists(t *testing.T) {
	r, told := rand.New(rand.NewSource(49)), map[int]int{}
	others := slices.Concat(goodInsts(), instsOf(repeated("ld and or anb orb inv mps mrd mpp coil end", 10)), badInsts()[:5])
	for _, list := range anyVerified(490, 300) {
		if len(list) == 0 {
			continue
		}
		for range 6 {
			at, to, one := r.Intn(len(list)), r.Intn(len(list)), others[r.Intn(len(others))]
			other := slices.Clone(list)
			switch r.Intn(4) {
			case 0:
				other = slices.Delete(other, at, at+1)
			case 1:
				other = slices.Insert(other, at, one)
			case 2:
				other[at] = one
			default:
				other[at], other[to] = other[to], other[at]
			}
			f := sureFaultOf(other)
			told[f.Code]++
			if f.Code == 0 {
				checkBack(t, other)
			} else {
				checkNoBack(t, other)
			}
			checkBackNet(t, other)
		}
	}
	for _, code := range []int{0, 2, 3, 5, 6, 7, 8} {
		if told[code] < 20 {
			t.Errorf("code %d is told %d times: %v", code, told[code], told)
		}
	}
}

// Each code of chapter 12: there is no ladder, wherever the list is wrong, and not of its good rungs either.
func TestBackOfListsThatAreNotVerified(t *testing.T) {
	met := map[int]bool{}
	check := func(list []impl.Inst) {
		t.Helper()
		met[impl.SureCheck(list).Code] = true
		checkNoBack(t, list)
	}
	good := instsOf("ld or inv mps coil mpp coil end ld coil end")
	for _, w := range wrongLists() {
		check(instsOf(w.words))
		check(slices.Concat(good, instsOf(w.words)))
		if w.code != 9 {
			check(slices.Concat(instsOf(w.words), good))
		}
	}
	for _, i := range badInsts() {
		check([]impl.Inst{i})
		check(slices.Concat(instsOf("ld"), []impl.Inst{i}, instsOf("coil end")))
		check(slices.Concat(good, []impl.Inst{i}))
	}
	check(instsOf(repeated("ld", 17) + repeated("anb", 16) + "coil end"))
	check(instsOf("ld " + repeated("mps", 9) + "coil" + repeated("mpp coil", 9) + "end"))
	check(slices.Repeat(instsOf("ld coil end"), 334))
	for code := 1; code <= 9; code++ {
		if !met[code] {
			t.Errorf("no list is wrong by code %d", code)
		}
	}
}

// A list that is not verified is told to be bad, and not to have too many rungs or parts.
func TestBackBadGoesAheadOfBackMany(t *testing.T) {
	rungs, coils := slices.Repeat(instsOf("ld coil end"), 41), instsOf("ld"+repeated("coil", 400)+"end")
	for _, many := range [][]impl.Inst{rungs, coils} {
		if checkBack(t, many) != 2 {
			t.Errorf("%d instructions: not too many", len(many))
		}
		for _, w := range wrongLists() {
			checkNoBack(t, slices.Concat(many, instsOf(w.words)))
			if w.code != 9 {
				checkNoBack(t, slices.Concat(instsOf(w.words), many))
			}
		}
		for at := range many {
			checkNoBack(t, slices.Concat(many[:at], instsOf("?"), many[at+1:]))
		}
		checkNoBack(t, slices.Repeat(many, 1+1000/len(many)))
	}
}

// grownLists are lists whose ladders have so many parts (of at least 100), each grown in another place.
func grownLists(parts int) []string {
	threes := (parts - 3) / 3
	rest := repeated("coil", parts-2-3*threes) + "end"
	return []string{
		"ld coil" + repeated("coil", parts-3) + "end",
		"ld and" + repeated("and", parts-5) + "coil end",
		"ld ld orb" + repeated("ld orb", parts-5) + "coil end",
		"ld" + repeated("ld", 10) + repeated("anb", 10) + repeated("ld anb", parts-14) + "coil end",
		"ld" + repeated("inv", parts-3) + "coil end",
		"ld " + strings.Repeat("inv ", parts%2) + "mps coil" + repeated("mrd coil", (parts-6)/2) + "mpp coil end",
		"ld" + repeated("mps coil mpp", threes) + rest,
		"ld" + repeated("coil ld anb", threes) + rest,
		repeated("ld coil end", 30) + "ld" + repeated("coil", parts-92) + "end",
	}
}

// P49 at the bound of parts.
func TestBackMaxNodes(t *testing.T) {
	for _, words := range grownLists(400) {
		list := numberedInsts(instsOf(words))
		if up, code := impl.BackUp(list); code != 0 || impl.TreeSize(up) != 400 || checkBack(t, list) != 0 {
			t.Errorf("%s: %d with %d parts", sureBrief(list), code, impl.TreeSize(up))
		}
	}
	for _, parts := range []int{401, 402, 450} {
		for _, words := range grownLists(parts) {
			list := numberedInsts(instsOf(words))
			if n := partsOf(upOf(list)); n != parts || checkBack(t, list) != 2 {
				t.Errorf("%s: %d parts", sureBrief(list), n)
			}
		}
	}
	for _, rungs := range slices.Concat(grown(400), grownLoose(400)) {
		if checkUpOfDown(t, rungs) != 0 {
			t.Errorf("%s: too deep", brief(spelt(rungs)))
		}
	}
}

// P49 at the bound of rungs, and at both bounds.
func TestBackMaxRungs(t *testing.T) {
	for _, words := range []string{"ld coil end", "ld ld anb coil end", "ld or coil coil end", "ld mps coil mpp coil end"} {
		rung := instsOf(words)
		for _, count := range []int{1, 2, 39, 40} {
			list := numberedInsts(slices.Repeat(rung, count))
			if up, code := impl.BackUp(list); code != 0 || len(up) != count {
				t.Errorf("%d of %s: %d with %d rungs", count, words, code, len(up))
			}
			checkBack(t, list)
		}
		for _, count := range []int{41, 42, 80, 1000 / len(rung)} {
			if up, code := impl.BackUp(slices.Repeat(rung, count)); code != 2 || len(up) != 0 {
				t.Errorf("%d of %s: %d with %d rungs", count, words, code, len(up))
			}
		}
	}
	ten := repeated("ld or inv coil coil coil coil coil end", 40)
	for more, want := range map[string]int{"": 0, "ld coil end": 2, "ld " + repeated("coil", 20) + "end": 2} {
		if code := checkBack(t, instsOf(ten+more)); code != want {
			t.Errorf("40 rungs of 10 parts, and %q: %d", more, code)
		}
	}
	if code := checkBack(t, instsOf(ten[:len(ten)-4]+"coil end")); code != 2 {
		t.Errorf("40 rungs of 401 parts: %d", code)
	}
}

// At the bound of instructions. No part is more than two of them, so that each list this long is too large; the longest that is not has one contact alone in each block.
func TestBackMaxList(t *testing.T) {
	longest := numberedInsts(instsOf("ld" + repeated("ld anb", 396) + "coil end"))
	if up, code := impl.BackUp(longest); len(longest) != 795 || code != 0 || impl.TreeSize(up) != 400 || len(up[0].Net.Kids) != 397 {
		t.Errorf("%d instructions: %d with %d parts", len(longest), code, impl.TreeSize(up))
	}
	checkBack(t, longest)
	for _, words := range []string{
		"ld ld anb" + repeated("ld anb", 497) + "and coil end", "ld" + repeated("inv", 997) + "coil end", "ld" + repeated("coil", 998) + "end", repeated("ld and coil end", 250), "ld" + repeated("mps coil mpp", 332) + "coil coil end", "ld" + repeated("coil and", 498) + "coil end", "ld coil" + repeated("ld anb", 498) + "coil end",
	} {
		list := instsOf(words)
		if len(list) < 1000 {
			list = slices.Insert(list, len(list)-1, slices.Repeat(instsOf("coil"), 1000-len(list))...)
		}
		if f := impl.SureCheck(list); len(list) != 1000 || f.Code != 0 {
			t.Fatalf("%s: %d instructions, %v", sureBrief(list), len(list), f)
		}
		if up, code := impl.BackUp(list); code != 2 || len(up) != 0 {
			t.Errorf("%s: %d with %d rungs", sureBrief(list), code, len(up))
		}
		checkNoBack(t, slices.Insert(list, len(list)-1, instsOf("coil")...))
		checkNoBack(t, slices.Repeat(list, 2))
	}
}

// BackNet of one instruction: a contact is a net, and nothing else is.
func TestBackNetOfOneInstruction(t *testing.T) {
	for _, i := range goodInsts() {
		n, ok := impl.BackNet([]impl.Inst{i})
		if want := (impl.Net{Kind: 1, One: i.One}); ok != (i.Code == 1) || ok && !sameNet(n, want) || !ok && !isNone(n) {
			t.Errorf("%s: %v and %v", instLine(i), ok, n)
		}
		checkBackNet(t, []impl.Inst{i})
	}
	for _, i := range badInsts() {
		if n, ok := impl.BackNet([]impl.Inst{i}); ok || !isNone(n) {
			t.Errorf("%v: %v and %v", i, ok, n)
		}
	}
}

// What is no net: an instruction that finds too few, more than one that is left, and an instruction that is none of the six, or not ok, wherever it stands.
func TestBackNetOfWhatIsNone(t *testing.T) {
	for _, words := range []string{
		"and", "or", "anb", "orb", "inv", "and ld", "inv ld", "or ld", "anb ld", "orb ld ld anb", "ld anb", "ld orb", "ld anb ld", "ld ld anb anb", "ld ld orb orb", "ld and orb", "ld inv anb", "ld ld anb orb ld", "ld ld ld orb anb anb", "ld ld ld orb anb orb",
		"ld ld", "ld ld ld", "ld and ld", "ld ld or", "ld ld inv", "ld ld ld anb", "ld ld orb ld", "ld ld ld ld anb orb", repeated("ld", 16), repeated("ld", 500) + repeated("anb", 498),
	} {
		list := instsOf(words)
		if n, ok := impl.BackNet(list); ok || !isNone(n) {
			t.Errorf("%s: %s", words, speltNet(n))
		}
		checkBackNet(t, list)
	}
	for _, words := range []string{"ld", "ld and", "ld or inv", "ld ld or anb", "ld and ld ld inv orb anb"} {
		net := instsOf(words)
		if !checkBackNet(t, net) {
			t.Errorf("%s: no net", words)
		}
		for at := range len(net) + 1 {
			for _, i := range slices.Concat(instsOf("mps mrd mpp coil end ld? and? or? anb? orb? inv? mps? mrd? mpp? coil? end? ?"), badInsts()) {
				if n, ok := impl.BackNet(slices.Insert(slices.Clone(net), at, i)); ok || !isNone(n) {
					t.Errorf("%s with %v at %d: %v and %s", words, i, at, ok, speltNet(n))
				}
			}
		}
		for _, behind := range []string{"coil end", "mps coil mpp coil end", "ld", "end"} {
			if n, ok := impl.BackNet(instsOf(words + " " + behind)); ok || !isNone(n) {
				t.Errorf("%s, then %s: %v and %s", words, behind, ok, speltNet(n))
			}
		}
	}
	// An empty list of operands is nothing too.
	if n, ok := impl.BackNet([]impl.Inst{instSure(1, "X0"), {Code: 6, One: impl.Elem{Args: []impl.DevArg{}}}}); !ok || speltNet(n) != "not( X0 ) " {
		t.Errorf("%v and %s", ok, speltNet(n))
	}
}

// BackNet need not be of a list that is verified: there may be more nets at once than bits of a stack.
func TestBackNetOfManyNetsAtOnce(t *testing.T) {
	for _, count := range []int{15, 16, 17, 18, 100, 300} {
		for _, taken := range []string{"anb", "orb"} {
			list := numberedInsts(instsOf(repeated("ld", count) + repeated(taken, count-1)))
			if n, ok := impl.BackNet(list); !ok || len(n.Kids) != count || !checkBackNet(t, list) {
				t.Errorf("%d nets, %s: %v and %d kids", count, taken, ok, len(n.Kids))
			}
		}
		if count < 200 {
			list := numberedInsts(instsOf(repeated("ld", count) + strings.Join(slices.Repeat([]string{"anb", "orb"}, count)[:count-1], " ")))
			if !checkBackNet(t, list) {
				t.Errorf("%d nets, one within the other: none", count)
			}
		}
	}
}

// netLists are instructions that leave a net of so many nets (of at least 20), each grown in another place.
func netLists(count int) []string {
	odd := strings.Repeat(" inv", count%2)
	return []string{
		"ld" + repeated("inv", count-1), "ld" + repeated("and", count-2), "ld" + repeated("or", count-2), "ld" + repeated("ld anb", count-2), repeated("ld", count-1) + repeated("orb", count-2),
		"ld" + repeated("and or", (count-1)/4) + repeated("inv", count-1-(count-1)/4*4), "ld" + repeated("ld inv orb", (count-2)/2) + odd,
		"ld and ld" + repeated("and", count-7) + "anb ld or anb", "ld and ld" + repeated("or", count-6) + "orb inv",
	}
}

// At the bound of nets; an arm and a coil around them would be two parts more.
func TestBackNetMaxNets(t *testing.T) {
	for _, count := range []int{20, 21, 398, 399, 400} {
		for _, words := range netLists(count) {
			list := numberedInsts(instsOf(words))
			if n, ok := impl.BackNet(list); !ok || len(netsIn(n)) != count || !checkBackNet(t, list) {
				t.Errorf("%s: %v and %d nets, not %d", sureBrief(list), ok, len(netsIn(n)), count)
			}
		}
	}
	for _, count := range []int{401, 402, 500} {
		for _, words := range netLists(count) {
			list := instsOf(words)
			if n, ok := impl.BackNet(list); ok || !isNone(n) {
				t.Errorf("%s: a net of %d nets", sureBrief(list), len(netsIn(n)))
			}
		}
	}
	for count := 396; count <= 404; count++ {
		for _, n := range netsOf(count) {
			norm := normalNetOf(n)
			if is := backIs(norm); is != (len(netsIn(norm)) <= 400) {
				t.Errorf("%s: %d nets, %v", brief(speltNet(norm)), len(netsIn(norm)), is)
			}
		}
	}
}

// At the bound of instructions, where each net is too large already, and far above it.
func TestBackNetMaxList(t *testing.T) {
	for _, count := range []int{999, 1000, 1001, 1002, 2000, 66536} {
		for _, i := range instsOf("and or inv") {
			list := append(instsOf("ld"), slices.Repeat([]impl.Inst{i}, count-1)...)
			if n, ok := impl.BackNet(list); ok || !isNone(n) {
				t.Errorf("%d instructions: a net of Kind %d", count, n.Kind)
			}
		}
	}
}

// The ladder of a list means, scan by scan, what the list does.
func TestBacksMeanWhatListsDo(t *testing.T) {
	r, mems, met := rand.New(rand.NewSource(51)), append(anyMems(6), actMems()...), 0
	lists := closeLists(51, 300)
	for _, row := range backKidRows() {
		lists = append(lists, listSure(row.list))
	}
	for i, list := range lists {
		up, code := impl.BackUp(list)
		if code != 0 {
			continue
		}
		met++
		for round := range 3 {
			m, samples := mems[(i+round)%len(mems)], anySamples(r, 5)
			for at := range samples {
				samples[at].X ^= r.Uint32() & 0x3fc
			}
			want := impl.MachRun(list, m, samples)
			if got := impl.EvalRun(up, m, samples); !sameMem(got, want) {
				t.Errorf("%s: by %s %q, not %q", backBrief(list), brief(spelt(up)), impl.MemText(got), impl.MemText(want))
			}
		}
	}
	if met < 250 {
		t.Errorf("%d lists", met)
	}
}

// backMemoryLists are lists of all sorts, also such that are too large or not verified.
func backMemoryLists() [][]impl.Inst {
	lists := append(sureLists(52, 60), nil, badInsts(), goodInsts(), slices.Repeat(mixedInsts(), 200), slices.Repeat(mixedInsts(), 201), slices.Repeat(instsOf("ld coil end"), 40), slices.Repeat(instsOf("ld coil end"), 41))
	for _, row := range backKidRows() {
		lists = append(lists, listSure(row.list))
	}
	for _, row := range backNetRows() {
		lists = append(lists, listSure(row.list), listSure(row.list+";coil out:Y0;end"))
	}
	for _, w := range wrongLists() {
		lists = append(lists, instsOf(w.words))
	}
	for _, parts := range []int{100, 101} {
		for _, words := range slices.Concat(grownLists(parts), netLists(parts)) {
			lists = append(lists, instsOf(words))
		}
	}
	return lists
}

// instCells are the places of all that stands in a list and in its spare room, by their addresses.
func instCells(list []impl.Inst) []any {
	cells := []any{}
	for at := range list[:cap(list)] {
		i := &list[:cap(list)][at]
		cells = append(cells, i)
		for j := range i.One.Args[:cap(i.One.Args)] {
			cells = append(cells, &i.One.Args[:cap(i.One.Args)][j])
		}
	}
	return cells
}

// checkApart asks that no cell of these answers is met twice, nor in the list that was given.
func checkApart(t *testing.T, given []impl.Inst, answers ...[]impl.Arm) {
	t.Helper()
	met := map[any]int{}
	for _, cell := range instCells(given) {
		met[cell] = 1
	}
	for _, answer := range answers {
		for _, cell := range cells(answer) {
			if met[cell] != 0 {
				t.Errorf("%s: %s: a %T is shared (%d)", backBrief(given), brief(spelt(answer)), cell, met[cell])
			}
			met[cell] = 2
		}
	}
}

// Each answer is new memory; no argument is written into, nor behind its end; what stands behind counts for nothing; nothing is kept from call to call.
func TestBackIsNewMemory(t *testing.T) {
	for _, list := range backMemoryLists() {
		want, code := impl.BackUp(cloneInsts(list))
		net, is := impl.BackNet(cloneInsts(list))
		room := withRoomBehind(list)
		ahead := roomsBehind(room)
		for range 2 {
			up, c := impl.BackUp(room)
			n, ok := impl.BackNet(room)
			if c != code || ok != is || !impl.TreeSame(up, want) || !sameNet(n, net) {
				t.Errorf("%s: with room behind %d with %s, %v with %s", backBrief(list), c, brief(spelt(up)), ok, brief(speltNet(n)))
			}
			checkApart(t, room, up, want, []impl.Arm{{Net: n}}[:1:1], []impl.Arm{{Net: net}}[:1:1])
			impl.BackUp(listSure("ld X5;mps;ld X6;anb;coil out:Y5;mpp;coil out:Y6;end;ld X7;coil out:Y7;end"))
			impl.BackNet(listSure("ld X5;ld X6;or X7;anb"))
			impl.BackNet(listSure("ld X5;ld X6"))
		}
		if got := roomsBehind(room); got != ahead {
			t.Errorf("%s: written into: %s", backBrief(list), got)
		}
	}
}

// What is written into an answer, or into what was given, is seen nowhere else.
func TestBackSharesNothing(t *testing.T) {
	for _, list := range backMemoryLists() {
		given := withRoomBehind(list)
		ahead := roomsBehind(given)
		up, _ := impl.BackUp(given)
		n, _ := impl.BackNet(given)
		both := append(slices.Clone(up), armOf(n, ""))
		want := cloneArms(both)
		fillRooms(up)
		fillRooms(both)
		if !impl.TreeSame(both, want) {
			t.Errorf("%s: lists share their spare room", backBrief(list))
		}
		for i, a := range argPlaces(both) {
			*a = operand(1, i, 0)
		}
		for i, a := range argPlaces(both) {
			if *a != operand(1, i, 0) {
				t.Errorf("%s: operand %d is shared", backBrief(list), i)
			}
		}
		for _, a := range armPlaces(up) {
			*a = impl.Arm{}
		}
		if roomsBehind(given) != ahead {
			t.Errorf("%s: what was given sees what is written into the answer", backBrief(list))
		}
		up, _ = impl.BackUp(given)
		n, _ = impl.BackNet(given)
		for at := range given[:cap(given)] {
			for j := range given[:cap(given)][at].One.Args {
				given[:cap(given)][at].One.Args[j] = operand(2, 7, 7)
			}
			given[:cap(given)][at] = impl.Inst{}
		}
		if !impl.TreeSame(append(up, armOf(n, "")), want) {
			t.Errorf("%s: the answer sees what is written into what was given", backBrief(list))
		}
	}
}

// Very large instructions and lists are answered, and at once.
func TestBackOfVeryLargeLists(t *testing.T) {
	many := slices.Repeat([]impl.DevArg{operand(1, 0, 0)}, 1000000)
	for _, row := range listRows() {
		for _, op := range []int{0, 1, 21} {
			one := []impl.Inst{{Code: row.code, One: impl.Elem{Op: op, Args: many}}}
			checkNoBack(t, one)
			checkNoBack(t, slices.Concat(instsOf("ld"), one, instsOf("coil end")))
			if n, ok := impl.BackNet(slices.Concat(instsOf("ld ld"), one)); ok || !isNone(n) {
				t.Errorf("%s with a million operands: %v", row.word, ok)
			}
		}
	}
	for _, i := range instsOf("ld and inv coil end ?") {
		list := append(instsOf("ld"), slices.Repeat([]impl.Inst{i}, 1000000)...)
		checkNoBack(t, list)
		if n, ok := impl.BackNet(list); ok || !isNone(n) {
			t.Errorf("a million of %v: %v", i, ok)
		}
	}
}
