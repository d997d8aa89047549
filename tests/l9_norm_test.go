package tests

import (
	"fmt"
	"math/rand"
	"slices"
	"strings"
	"testing"

	"loop.example/stile/impl"
)

// ladderSure is the ladder with this text, which must be one's.
func ladderSure(text string) []impl.Arm {
	rungs, f := impl.TextRead(text)
	if f != (impl.TextFault{}) {
		panic(fmt.Sprintf("%q is no ladder: %v", text, f))
	}
	return rungs
}

func netSure(text string) impl.Net {
	return ladderSure(text + " -> out:Y0")[0].Net
}

// normalArms makes one change where an arm takes in its one kid, if there is such an arm; its net is left as the NetAnd of the two.
func normalArms(rungs []impl.Arm) bool {
	for _, a := range armPlaces(rungs) {
		if len(a.Kids) != 1 || len(a.Coils) > 0 && !isNone(a.Kids[0].Net) {
			continue
		}
		kid := a.Kids[0]
		switch {
		case isNone(kid.Net):
			kid.Net = a.Net
		case !isNone(a.Net):
			kid.Net = andOf(a.Net, kid.Net)
		}
		*a = impl.Arm{Net: kid.Net, Coils: slices.Concat(a.Coils, kid.Coils), Kids: kid.Kids}
		return true
	}
	return false
}

// normalNets makes one change to a net that has one kid alone, or one of its own kind, if there is such a net.
func normalNets(rungs []impl.Arm) bool {
	for _, n := range netPlaces(rungs) {
		if n.Kind != 2 && n.Kind != 3 {
			continue
		}
		if len(n.Kids) == 1 {
			*n = n.Kids[0]
			return true
		}
		for i, kid := range n.Kids {
			if kid.Kind == n.Kind {
				n.Kids = slices.Concat(n.Kids[:i], kid.Kids, n.Kids[i+1:])
				return true
			}
		}
	}
	return false
}

// normalOf is a second reading of chapter 9: from outside to within, one change after the other until there is none to be made. It does not ask whether the ladder is accepted.
func normalOf(rungs []impl.Arm) []impl.Arm {
	other := cloneArms(rungs)
	for normalArms(other) || normalNets(other) {
	}
	return other
}

func normalNetOf(n impl.Net) impl.Net {
	return normalOf([]impl.Arm{armOf(n, "out:Y0")})[0].Net
}

// looseNet tells what P30 rules out within a net, or nothing.
func looseNet(n impl.Net) string {
	for _, within := range netsIn(n) {
		if within.Kind != 2 && within.Kind != 3 {
			continue
		}
		if len(within.Kids) == 1 {
			return fmt.Sprintf("a net of Kind %d with one kid", within.Kind)
		}
		for _, kid := range within.Kids {
			if kid.Kind == within.Kind {
				return fmt.Sprintf("a net of Kind %d within one", kid.Kind)
			}
		}
	}
	return ""
}

// looseLadder tells what P30 rules out, or nothing.
func looseLadder(rungs []impl.Arm) string {
	for _, rung := range rungs {
		for _, a := range armsIn(rung) {
			if loose := looseNet(a.Net); loose != "" {
				return loose
			}
			if len(a.Kids) == 1 && (len(a.Coils) == 0 || isNone(a.Kids[0].Net)) {
				return "an arm with one kid that could be taken in"
			}
		}
	}
	return ""
}

// elemsOf are all contacts and coils, in the order in which a ladder is written; no normal form changes it.
func elemsOf(rungs []impl.Arm) string {
	texts := []string{}
	for _, rung := range rungs {
		for _, a := range armsIn(rung) {
			for _, n := range netsIn(a.Net) {
				if n.Kind == 1 {
					texts = append(texts, impl.ElemText(n.One))
				}
			}
			for _, coil := range a.Coils {
				texts = append(texts, impl.ElemText(coil))
			}
		}
	}
	return strings.Join(texts, " ")
}

// checkNamed asks for P31: each operand stands in both ladders as often.
func checkNamed(t *testing.T, rungs, norm []impl.Arm) {
	t.Helper()
	asked := map[impl.DevArg]bool{}
	for _, a := range slices.Concat(argPlaces(rungs), argPlaces(norm)) {
		asked[*a] = true
	}
	for a := range asked {
		if was, is := impl.TreeUses(rungs, a), impl.TreeUses(norm, a); was != is || was != usesOf(rungs, a) {
			t.Errorf("%s: uses %v %d times, its normal form %d times", brief(spelt(rungs)), a, was, is)
		}
	}
	if elemsOf(rungs) != elemsOf(norm) {
		t.Errorf("%s: other contacts and coils, or in another order: %s", brief(spelt(rungs)), brief(spelt(norm)))
	}
}

// checkNorm asks for P29, P30 and P31 of a ladder that is accepted, holds it against the second reading, and gives its normal form.
func checkNorm(t *testing.T, rungs []impl.Arm) []impl.Arm {
	t.Helper()
	ahead := fmt.Sprint(rungs)
	if f := faultOf(rungs); f.Code != 0 {
		t.Errorf("%s: %v", ahead, f)
	}
	norm, want := impl.NormMake(rungs), normalOf(rungs)
	if !impl.TreeSame(norm, want) {
		t.Errorf("%s: %s, not %s", brief(spelt(rungs)), brief(spelt(norm)), brief(spelt(want)))
		return norm
	}
	if f := impl.TreeCheck(norm); f.Code != 0 || len(norm) != len(rungs) || impl.TreeSize(norm) > impl.TreeSize(rungs) {
		t.Errorf("%s: %v, %d rungs for %d, %d parts for %d", brief(spelt(rungs)), f, len(norm), len(rungs), impl.TreeSize(norm), impl.TreeSize(rungs))
	}
	if again := impl.NormMake(norm); !impl.TreeSame(again, norm) || !impl.NormIs(norm) {
		t.Errorf("%s: once more %s, %v", brief(spelt(norm)), brief(spelt(again)), impl.NormIs(norm))
	}
	if is := impl.NormIs(rungs); is != impl.TreeSame(rungs, norm) || is != (looseLadder(rungs) == "") {
		t.Errorf("%s: said to be normal %v, though %q", brief(spelt(rungs)), is, looseLadder(rungs))
	}
	if loose := looseLadder(norm); loose != "" {
		t.Errorf("%s: has %s", brief(spelt(norm)), loose)
	}
	checkNamed(t, rungs, norm)
	if fmt.Sprint(rungs) != ahead {
		t.Errorf("%s: written into: %v", ahead, rungs)
	}
	return norm
}

// checkNormNet asks for the same of a net that is right.
func checkNormNet(t *testing.T, n impl.Net) impl.Net {
	t.Helper()
	ahead := fmt.Sprint(n)
	norm, want := impl.NormNet(n), normalNetOf(n)
	if !sameNet(norm, want) || isNone(norm) {
		t.Errorf("%s: %s, not %s", brief(speltNet(n)), brief(speltNet(norm)), brief(speltNet(want)))
		return norm
	}
	if again := impl.NormNet(norm); !sameNet(again, norm) {
		t.Errorf("%s: once more %s", brief(speltNet(norm)), brief(speltNet(again)))
	}
	if loose := looseNet(norm); loose != "" || len(netsIn(norm)) > len(netsIn(n)) {
		t.Errorf("%s: has %q, %d nets for %d", brief(speltNet(norm)), loose, len(netsIn(norm)), len(netsIn(n)))
	}
	checkNamed(t, []impl.Arm{{Net: n}}, []impl.Arm{{Net: norm}})
	if fmt.Sprint(n) != ahead {
		t.Errorf("%s: written into: %v", ahead, n)
	}
	return norm
}

func sameNet(a, b impl.Net) bool {
	return impl.TreeSame([]impl.Arm{{Net: a}}, []impl.Arm{{Net: b}})
}

// checkNoNorm asks for nothing, of a ladder that is not accepted.
func checkNoNorm(t *testing.T, rungs []impl.Arm) {
	t.Helper()
	if norm := impl.NormMake(rungs); len(norm) != 0 || impl.NormIs(rungs) {
		t.Errorf("%d rungs, %v: %s, said to be normal %v", len(rungs), impl.TreeCheck(rungs), brief(spelt(norm)), impl.NormIs(rungs))
	}
}

// checkNoNormNet asks for nothing, of a net that is wrong or too large.
func checkNoNormNet(t *testing.T, n impl.Net) {
	t.Helper()
	if norm := impl.NormNet(n); !isNone(norm) {
		t.Errorf("a wrong net of Kind %d: %v", n.Kind, norm)
	}
}

// normedNets are nets, and their normal forms behind; where there is none behind the net is its own.
func normedNets() [][2]string {
	return [][2]string{
		{"X0"}, {"/X0"}, {"+X0:E1"}, {"D1<=-5"}, {"R1<>nan"},
		{"and( X0 X1 )"}, {"or( X0 X1 )"}, {"not( X0 )"}, {"and( X0 X0 )"}, {"or( X0 X0 X0 )"}, {"and( X2 X0 X1 )"},
		// Within one of its kind: at the beginning, in the middle, at the end.
		{"and( and( X0 X1 ) X2 X3 )", "and( X0 X1 X2 X3 )"}, {"and( X0 and( X1 X2 ) X3 )", "and( X0 X1 X2 X3 )"}, {"and( X0 X1 and( X2 X3 ) )", "and( X0 X1 X2 X3 )"},
		{"or( or( X0 X1 ) X2 X3 )", "or( X0 X1 X2 X3 )"}, {"or( X0 or( X1 X2 ) X3 )", "or( X0 X1 X2 X3 )"}, {"or( X0 X1 or( X2 X3 ) )", "or( X0 X1 X2 X3 )"},
		{"and( and( X0 X1 ) and( X2 X3 ) )", "and( X0 X1 X2 X3 )"}, {"or( or( X0 X1 ) X2 or( X3 X4 X5 ) )", "or( X0 X1 X2 X3 X4 X5 )"},
		// Several deep.
		{"and( and( and( X0 X1 ) X2 ) X3 )", "and( X0 X1 X2 X3 )"}, {"or( X0 or( X1 or( X2 or( X3 X4 ) ) ) )", "or( X0 X1 X2 X3 X4 )"}, {"and( X0 and( X1 and( X2 X3 ) X4 ) X5 )", "and( X0 X1 X2 X3 X4 X5 )"},
		{"or( or( or( X0 X1 ) or( X2 X3 ) ) or( X4 or( X5 X6 ) ) )", "or( X0 X1 X2 X3 X4 X5 X6 )"},
		// Within one of the other kind.
		{"and( or( X0 X1 ) X2 )"}, {"or( and( X0 X1 ) X2 )"}, {"and( X0 or( X1 and( X2 X3 ) ) )"}, {"or( X0 and( X1 or( X2 X3 ) ) )"}, {"and( or( X0 X1 ) or( X2 X3 ) )"}, {"or( and( X0 X1 ) and( X2 X3 ) )"},
		{"and( or( X0 or( X1 X2 ) ) X3 )", "and( or( X0 X1 X2 ) X3 )"}, {"or( and( and( X0 X1 ) X2 ) and( X3 and( X4 X5 ) ) )", "or( and( X0 X1 X2 ) and( X3 X4 X5 ) )"}, {"and( X0 or( X1 and( X2 and( X3 X4 ) ) ) )", "and( X0 or( X1 and( X2 X3 X4 ) ) )"},
		// A not stays, and parts what stands around it from what stands within.
		{"not( /X0 )"}, {"not( not( X0 ) )"}, {"not( not( not( X0 ) ) )"}, {"not( and( X0 X1 ) )"}, {"not( or( X0 X1 ) )"}, {"and( X0 not( and( X1 X2 ) ) )"}, {"or( not( or( X0 X1 ) ) X2 )"}, {"and( not( not( and( X0 X1 ) ) ) X2 )"},
		{"not( and( X0 and( X1 X2 ) ) )", "not( and( X0 X1 X2 ) )"}, {"not( or( or( X0 X1 ) X2 ) )", "not( or( X0 X1 X2 ) )"}, {"not( and( X0 ) )", "not( X0 )"}, {"not( or( X0 ) )", "not( X0 )"}, {"not( not( and( X0 ) ) )", "not( not( X0 ) )"}, {"not( and( not( X0 ) ) )", "not( not( X0 ) )"}, {"and( not( and( or( X0 ) ) ) )", "not( X0 )"},
		// One kid alone, and that of one kid again.
		{"and( X0 )", "X0"}, {"or( X0 )", "X0"}, {"and( and( X0 ) )", "X0"}, {"or( or( X0 ) )", "X0"}, {"and( or( X0 ) )", "X0"}, {"or( and( X0 ) )", "X0"}, {"and( or( and( or( X0 ) ) ) )", "X0"}, {"and( not( X0 ) )", "not( X0 )"}, {"or( not( X0 ) )", "not( X0 )"},
		{"and( and( X0 X1 ) )", "and( X0 X1 )"}, {"or( and( X0 X1 ) )", "and( X0 X1 )"}, {"and( or( X0 X1 ) )", "or( X0 X1 )"}, {"or( or( X0 X1 ) )", "or( X0 X1 )"}, {"and( or( and( X0 X1 ) ) )", "and( X0 X1 )"}, {"or( and( or( X0 X1 ) ) )", "or( X0 X1 )"},
		{"and( and( X0 ) X1 )", "and( X0 X1 )"}, {"and( X0 or( X1 ) )", "and( X0 X1 )"}, {"or( and( X0 ) or( X1 ) )", "or( X0 X1 )"}, {"and( or( X0 ) and( X1 ) )", "and( X0 X1 )"}, {"and( or( and( X0 ) ) or( X1 ) )", "and( X0 X1 )"},
		// One kid alone that is of the kind that stands around: its Kids are taken in.
		{"and( X0 or( and( X1 X2 ) ) )", "and( X0 X1 X2 )"}, {"and( or( and( X0 X1 ) ) X2 )", "and( X0 X1 X2 )"}, {"or( X0 and( or( X1 X2 ) ) X3 )", "or( X0 X1 X2 X3 )"}, {"or( and( or( X0 X1 ) ) and( or( X2 X3 ) ) )", "or( X0 X1 X2 X3 )"},
		{"and( X0 or( or( and( X1 X2 ) ) ) )", "and( X0 X1 X2 )"}, {"and( X0 or( and( or( and( X1 X2 ) ) ) ) X3 )", "and( X0 X1 X2 X3 )"}, {"or( X0 and( or( X1 and( or( X2 X3 ) ) ) ) )", "or( X0 X1 X2 X3 )"}, {"and( or( X0 and( X1 ) ) or( and( X2 X3 ) ) )", "and( or( X0 X1 ) X2 X3 )"},
		{"or( or( and( X0 and( X1 X2 ) ) ) X3 )", "or( and( X0 X1 X2 ) X3 )"}, {"not( and( X0 or( and( X1 X2 ) ) ) )", "not( and( X0 X1 X2 ) )"}, {"and( X0 or( not( and( X1 X2 ) ) ) )", "and( X0 not( and( X1 X2 ) ) )"},
	}
}

// P30 by nets that are written out here, alone and in rungs and kids.
func TestNormedNets(t *testing.T) {
	rungs, whole := []impl.Arm{}, []impl.Arm{}
	for _, c := range normedNets() {
		n, own := netSure(c[0]), c[1] == ""
		want := n
		if !own {
			want = netSure(c[1])
		}
		if norm := checkNormNet(t, n); !sameNet(norm, want) {
			t.Errorf("%s: %s, not %s", c[0], speltNet(norm), speltNet(want))
		}
		for _, pair := range [][2]impl.Arm{
			{armOf(n, "out:Y0 set:M1"), armOf(want, "out:Y0 set:M1")},
			{armOf(contactOf("X9"), "out:Y1", armOf(n, "out:Y0")), armOf(contactOf("X9"), "out:Y1", armOf(want, "out:Y0"))},
			{armOf(n, "", armOf(n, "out:Y0"), armOf(impl.Net{}, "out:Y1")), armOf(want, "", armOf(want, "out:Y0"), armOf(impl.Net{}, "out:Y1"))},
		} {
			norm := checkNorm(t, []impl.Arm{pair[0]})
			if !impl.TreeSame(norm, []impl.Arm{pair[1]}) || impl.NormIs([]impl.Arm{pair[0]}) != own {
				t.Errorf("%s: %s", spelt([]impl.Arm{pair[0]}), spelt(norm))
			}
		}
		if len(rungs) < 40 {
			rungs, whole = append(rungs, armOf(n, "out:Y0")), append(whole, armOf(want, "out:Y0"))
		}
	}
	if norm := checkNorm(t, rungs); !impl.TreeSame(norm, whole) {
		t.Errorf("%s: %s", spelt(rungs), spelt(norm))
	}
}

// normedRungs are rungs, and their normal forms behind; where there is none behind the rung is its own.
func normedRungs() [][2]string {
	return [][2]string{
		{"X0 -> out:Y0"}, {"X0 -> out:Y0 out:Y1 out:Y0"}, {"and( X0 X1 ) -> out:Y0"},
		// One kid and no coils.
		{"X0 -> [ X1 -> out:Y0 ]", "and( X0 X1 ) -> out:Y0"}, {"X0 -> [ -> out:Y0 ]", "X0 -> out:Y0"}, {"X0 -> [ -> out:Y0 out:Y1 ]", "X0 -> out:Y0 out:Y1"}, {"not( X0 ) -> [ not( X1 ) -> out:Y0 ]", "and( not( X0 ) not( X1 ) ) -> out:Y0"},
		{"X0 -> [ X1 -> out:Y0 [ X2 -> out:Y1 ] ]", "and( X0 X1 ) -> out:Y0 [ X2 -> out:Y1 ]"}, {"X0 -> [ -> out:Y0 [ X2 -> out:Y1 ] ]", "X0 -> out:Y0 [ X2 -> out:Y1 ]"}, {"X0 -> [ X1 -> [ X2 -> out:Y0 | X3 -> out:Y1 ] ]", "and( X0 X1 ) -> [ X2 -> out:Y0 | X3 -> out:Y1 ]"},
		// Coils, and one kid without a net.
		{"X0 -> out:Y0 [ -> out:Y1 ]", "X0 -> out:Y0 out:Y1"}, {"X0 -> out:Y0 out:Y1 [ -> out:Y2 out:Y3 ]", "X0 -> out:Y0 out:Y1 out:Y2 out:Y3"}, {"X0 -> out:Y0 [ -> out:Y1 [ X1 -> out:Y2 ] ]", "X0 -> out:Y0 out:Y1 [ X1 -> out:Y2 ]"}, {"X0 -> out:Y0 [ -> [ X1 -> out:Y1 | -> out:Y2 ] ]", "X0 -> out:Y0 [ X1 -> out:Y1 | -> out:Y2 ]"},
		{"X0 -> out:Y0 [ -> out:Y1 [ -> out:Y2 [ -> out:Y3 ] ] ]", "X0 -> out:Y0 out:Y1 out:Y2 out:Y3"}, {"X0 -> out:Y0 [ -> [ -> [ -> out:Y1 ] ] ]", "X0 -> out:Y0 out:Y1"},
		// Coils, and one kid with a net, which stays; and its own kid.
		{"X0 -> out:Y0 [ X1 -> out:Y1 ]"}, {"X0 -> out:Y0 [ X1 -> out:Y1 [ X2 -> out:Y2 [ X3 -> out:Y3 ] ] ]"}, {"X0 -> out:Y0 [ and( X1 X2 ) -> out:Y1 out:Y2 ]"}, {"X0 -> out:Y0 [ X1 -> [ X2 -> out:Y1 ] ]", "X0 -> out:Y0 [ and( X1 X2 ) -> out:Y1 ]"}, {"X0 -> out:Y0 [ X1 -> [ -> out:Y1 ] ]", "X0 -> out:Y0 [ X1 -> out:Y1 ]"},
		{"X0 -> out:Y0 [ -> [ X1 -> out:Y1 ] ]", "X0 -> out:Y0 [ X1 -> out:Y1 ]"}, {"X0 -> out:Y0 [ -> [ -> [ X1 -> [ X2 -> out:Y1 ] ] ] ]", "X0 -> out:Y0 [ and( X1 X2 ) -> out:Y1 ]"}, {"X0 -> out:Y0 [ -> out:Y1 [ -> [ X1 -> out:Y2 ] ] ]", "X0 -> out:Y0 out:Y1 [ X1 -> out:Y2 ]"},
		// An arm without a net whose kid has one, the other way round, and neither; as kids among others.
		{"X0 -> [ -> [ X1 -> out:Y0 ] | X2 -> out:Y1 ]", "X0 -> [ X1 -> out:Y0 | X2 -> out:Y1 ]"}, {"X0 -> [ X1 -> [ -> out:Y0 ] | X2 -> out:Y1 ]", "X0 -> [ X1 -> out:Y0 | X2 -> out:Y1 ]"}, {"X0 -> [ -> [ -> out:Y0 ] | X2 -> out:Y1 ]", "X0 -> [ -> out:Y0 | X2 -> out:Y1 ]"}, {"X0 -> [ X1 -> [ X3 -> out:Y0 ] | X2 -> out:Y1 ]", "X0 -> [ and( X1 X3 ) -> out:Y0 | X2 -> out:Y1 ]"},
		{"X0 -> [ X2 -> out:Y1 | -> out:Y2 [ -> [ X1 -> out:Y0 ] ] ]", "X0 -> [ X2 -> out:Y1 | -> out:Y2 [ X1 -> out:Y0 ] ]"}, {"X0 -> [ -> out:Y1 [ -> out:Y2 ] | -> [ -> [ X1 -> [ -> out:Y0 ] ] ] ]", "X0 -> [ -> out:Y1 out:Y2 | X1 -> out:Y0 ]"}, {"X0 -> [ -> [ or( X1 X2 ) -> out:Y0 ] | -> [ and( X3 X4 ) -> out:Y1 ] ]", "X0 -> [ or( X1 X2 ) -> out:Y0 | and( X3 X4 ) -> out:Y1 ]"},
		// Several one behind the other, the last one with two kids or more.
		{"X0 -> [ X1 -> [ X2 -> [ X3 -> out:Y0 ] ] ]", "and( X0 X1 X2 X3 ) -> out:Y0"}, {"X0 -> [ X1 -> [ X2 -> [ X3 -> out:Y0 | X4 -> out:Y1 ] ] ]", "and( X0 X1 X2 ) -> [ X3 -> out:Y0 | X4 -> out:Y1 ]"}, {"X0 -> [ -> [ X1 -> [ -> [ X2 -> out:Y0 | -> out:Y1 | X3 -> out:Y2 ] ] ] ]", "and( X0 X1 ) -> [ X2 -> out:Y0 | -> out:Y1 | X3 -> out:Y2 ]"},
		{"X0 -> [ X1 -> out:Y0 [ -> out:Y1 [ -> [ X2 -> out:Y2 | X3 -> out:Y3 ] ] ] ]", "and( X0 X1 ) -> out:Y0 out:Y1 [ X2 -> out:Y2 | X3 -> out:Y3 ]"}, {"X0 -> [ -> [ -> [ -> out:Y0 | -> out:Y1 ] ] ]", "X0 -> [ -> out:Y0 | -> out:Y1 ]"}, {"X0 -> out:Y0 [ -> [ -> out:Y1 [ -> out:Y2 | -> out:Y3 ] ] ]", "X0 -> out:Y0 out:Y1 [ -> out:Y2 | -> out:Y3 ]"},
		{"X0 -> [ X1 -> [ X2 -> out:Y0 [ X3 -> [ X4 -> [ X5 -> out:Y1 | X6 -> [ X7 -> out:Y2 ] ] ] ] ] ]", "and( X0 X1 X2 ) -> out:Y0 [ and( X3 X4 ) -> [ X5 -> out:Y1 | and( X6 X7 ) -> out:Y2 ] ]"}, {"X0 -> [ X1 -> [ -> out:Y0 [ X2 -> [ -> out:Y1 [ X3 -> out:Y2 ] ] ] ] ]", "and( X0 X1 ) -> out:Y0 [ X2 -> out:Y1 [ X3 -> out:Y2 ] ]"},
		// Two nets that join: one or both are a NetAnd, or come to be one.
		{"and( X0 X1 ) -> [ X2 -> out:Y0 ]", "and( X0 X1 X2 ) -> out:Y0"}, {"X0 -> [ and( X1 X2 ) -> out:Y0 ]", "and( X0 X1 X2 ) -> out:Y0"}, {"and( X0 X1 ) -> [ and( X2 X3 ) -> out:Y0 ]", "and( X0 X1 X2 X3 ) -> out:Y0"}, {"and( X0 X1 ) -> [ and( X2 X3 ) -> [ and( X4 X5 ) -> out:Y0 ] ]", "and( X0 X1 X2 X3 X4 X5 ) -> out:Y0"},
		{"or( X0 X1 ) -> [ X2 -> out:Y0 ]", "and( or( X0 X1 ) X2 ) -> out:Y0"}, {"X0 -> [ or( X1 X2 ) -> out:Y0 ]", "and( X0 or( X1 X2 ) ) -> out:Y0"}, {"or( X0 X1 ) -> [ or( X2 X3 ) -> out:Y0 ]", "and( or( X0 X1 ) or( X2 X3 ) ) -> out:Y0"}, {"or( X0 X1 ) -> [ and( X2 X3 ) -> out:Y0 ]", "and( or( X0 X1 ) X2 X3 ) -> out:Y0"}, {"and( X0 X1 ) -> [ or( X2 X3 ) -> out:Y0 ]", "and( X0 X1 or( X2 X3 ) ) -> out:Y0"},
		{"and( X0 X1 ) -> [ not( and( X2 X3 ) ) -> out:Y0 ]", "and( X0 X1 not( and( X2 X3 ) ) ) -> out:Y0"}, {"or( and( X0 X1 ) ) -> [ or( and( X2 ) ) -> out:Y0 ]", "and( X0 X1 X2 ) -> out:Y0"}, {"and( or( X0 X1 ) ) -> [ and( or( X2 X3 ) ) -> out:Y0 ]", "and( or( X0 X1 ) or( X2 X3 ) ) -> out:Y0"},
		{"X0 -> [ -> [ and( X1 X2 ) -> out:Y0 ] ]", "and( X0 X1 X2 ) -> out:Y0"}, {"and( X0 X1 ) -> [ -> [ -> out:Y0 ] ]", "and( X0 X1 ) -> out:Y0"}, {"X0 -> out:Y0 [ and( X1 X2 ) -> [ and( X3 X4 ) -> out:Y1 ] ]", "X0 -> out:Y0 [ and( X1 X2 X3 X4 ) -> out:Y1 ]"}, {"X0 -> [ X0 -> [ X0 -> out:Y0 ] ]", "and( X0 X0 X0 ) -> out:Y0"},
		// Two kids or more stay, as they are or as their normal forms.
		{"X0 -> [ -> out:Y0 | -> out:Y1 ]"}, {"X0 -> [ X1 -> out:Y0 | X2 -> out:Y1 ]"}, {"X0 -> out:Y0 [ -> out:Y1 | -> out:Y2 | -> out:Y3 ]"}, {"X0 -> [ X1 -> [ X2 -> out:Y0 | X3 -> out:Y1 ] | X4 -> out:Y2 [ X5 -> out:Y3 ] ]"}, {"and( X0 or( X1 X2 ) ) -> out:Y0 [ +X3:E1 -> timer:T1,50 | -> move:D0,5 ]"},
		{"X0 -> [ -> [ -> out:Y0 | -> out:Y1 ] | -> out:Y2 ]"}, {"X0 -> [ and( X1 ) -> out:Y0 | -> out:Y1 [ -> out:Y2 ] ]", "X0 -> [ X1 -> out:Y0 | -> out:Y1 out:Y2 ]"}, {"X0 -> out:Y0 [ X1 -> [ -> [ X2 -> out:Y1 | X3 -> out:Y2 ] ] | or( X4 or( X5 X6 ) ) -> [ -> out:Y3 ] ]", "X0 -> out:Y0 [ X1 -> [ X2 -> out:Y1 | X3 -> out:Y2 ] | or( X4 X5 X6 ) -> out:Y3 ]"},
	}
}

// P29, P30 and P31 by rungs that are written out here: each alone, between others, and as many as there may be.
func TestNormedRungs(t *testing.T) {
	rungs, whole := []impl.Arm{}, []impl.Arm{}
	good := ladderSure("X9 -> out:Y9")[0]
	for _, c := range normedRungs() {
		want := c[1]
		if want == "" {
			want = c[0]
		}
		in, out := ladderSure(c[0]), ladderSure(want)
		norm := checkNorm(t, in)
		if text := impl.TextPrint(norm); text != want+"\n" || impl.NormIs(in) != (c[1] == "") {
			t.Errorf("%s: %s, not %s", c[0], text, want)
		}
		if norm := checkNorm(t, []impl.Arm{good, in[0], good}); !impl.TreeSame(norm, []impl.Arm{good, out[0], good}) {
			t.Errorf("%s between others: %s", c[0], spelt(norm))
		}
		rungs, whole = append(rungs, in[0]), append(whole, out[0])
		for impl.TreeCheck(rungs).Code != 0 {
			rungs, whole = rungs[1:], whole[1:]
		}
		if norm := checkNorm(t, rungs); !impl.TreeSame(norm, whole) {
			t.Errorf("%s: %s", spelt(rungs), spelt(norm))
		}
	}
}

// Each contact and coil, with all its operands, comes through as it was.
func TestNormKeepsContactsAndCoils(t *testing.T) {
	contacts, coils := contactsAndCoils()
	for _, contact := range contacts {
		for _, coil := range coils {
			text := contact + " -> [ and( X1 and( " + contact + " X0 ) ) -> " + coil + " [ -> " + coil + " set:M1 ] ]"
			want := "and( " + contact + " X1 " + contact + " X0 ) -> " + coil + " " + coil + " set:M1\n"
			if got := impl.TextPrint(checkNorm(t, ladderSure(text))); got != want {
				t.Errorf("%s: %s", text, got)
			}
		}
	}
}

func TestNormOfNoRungs(t *testing.T) {
	for _, rungs := range [][]impl.Arm{nil, {}, make([]impl.Arm, 0, 5)} {
		if norm := impl.NormMake(rungs); len(norm) != 0 || !impl.NormIs(rungs) || !impl.NormIs(norm) {
			t.Errorf("no rungs: %v, normal %v", norm, impl.NormIs(rungs))
		}
		checkNorm(t, rungs)
	}
}

// P29 at the bound of rungs.
func TestNormMaxRungs(t *testing.T) {
	for _, c := range [][2]string{{"X0 -> out:Y0", "X0 -> out:Y0"}, {"X0 -> [ X1 -> out:Y0 ]", "and( X0 X1 ) -> out:Y0"}, {"and( or( X0 X1 ) ) -> out:Y0 [ -> out:Y1 ]", "or( X0 X1 ) -> out:Y0 out:Y1"}} {
		rung, want := ladderSure(c[0]), ladderSure(c[1])
		for _, count := range []int{1, 39, 40} {
			if norm := checkNorm(t, slices.Repeat(rung, count)); !impl.TreeSame(norm, slices.Repeat(want, count)) {
				t.Errorf("%d of %s: %s", count, c[0], brief(spelt(norm)))
			}
		}
		for _, count := range []int{41, 42, 80, 276, 1000} {
			checkNoNorm(t, slices.Repeat(rung, count))
			checkNoNorm(t, slices.Repeat(want, count))
		}
	}
}

// grownLoose are ladders with so many parts (of at least 20), of which the normal form has fewer.
func grownLoose(parts int) [][]impl.Arm {
	x := contactOf("X0")
	single, left, right := x, andOf(x, x), orOf(x, x)
	chain, coils := armOf(x, "out:Y0"), armOf(impl.Net{}, "out:Y0")
	for i := range parts - 3 {
		single = impl.Net{Kind: 2 + i%2, Kids: []impl.Net{single}}
	}
	for range (parts - 5) / 2 {
		left, right = andOf(left, x), orOf(x, right)
	}
	if parts%2 == 0 {
		left, right = orOf(left), andOf(right)
	}
	for range (parts - 3) / 2 {
		chain = armOf(x, "", chain)
	}
	for range (parts - 4) / 2 {
		coils = armOf(impl.Net{}, "out:Y0", coils)
	}
	if parts%2 == 0 {
		chain.Net = andOf(x)
	} else {
		coils.Coils = append(coils.Coils, elemSure("set:M1"))
	}
	return [][]impl.Arm{{armOf(single, "out:Y0")}, {armOf(left, "out:Y0")}, {armOf(right, "out:Y0")}, {chain}, {armOf(x, "", coils)}}
}

// P29 at the bound of parts.
func TestNormMaxNodes(t *testing.T) {
	for i, rungs := range append(grown(400), grownLoose(400)...) {
		if impl.TreeSize(rungs) != 400 {
			t.Fatalf("ladder %d: %d parts", i, impl.TreeSize(rungs))
		}
		if norm := checkNorm(t, rungs); len(norm) != len(rungs) || i >= len(grown(400)) && impl.TreeSize(norm) == 400 {
			t.Errorf("ladder %d: %d rungs, %d parts", i, len(norm), impl.TreeSize(norm))
		}
	}
	for i, rungs := range append(grown(401), grownLoose(401)...) {
		if impl.TreeSize(rungs) != 401 {
			t.Fatalf("ladder %d: %d parts", i, impl.TreeSize(rungs))
		}
		checkNoNorm(t, rungs)
	}
	for parts := 20; parts < 399; parts += 63 {
		for _, rungs := range append(grown(parts), grownLoose(parts)...) {
			checkNorm(t, rungs)
		}
	}
	if norm := impl.NormMake(grownLoose(400)[0]); impl.TextPrint(norm) != "X0 -> out:Y0\n" {
		t.Errorf("one kid again and again: %s", spelt(norm))
	}
}

// netsOf are nets of so many nets (of at least 10), each grown in another place.
func netsOf(count int) []impl.Net {
	x := contactOf("X0")
	deep, single, left := x, x, andOf(x, x)
	for i := range count - 1 {
		deep, single = notOf(deep), impl.Net{Kind: 2 + i%2, Kids: []impl.Net{single}}
	}
	for range (count - 3) / 2 {
		left = andOf(left, x)
	}
	if count%2 == 0 {
		left = notOf(left)
	}
	wide, other := andOf(slices.Repeat([]impl.Net{x}, count-1)...), orOf(andOf(x, x), notOf(orOf(slices.Repeat([]impl.Net{x}, count-6)...)))
	return []impl.Net{deep, single, left, wide, other}
}

// P29 and P30 at the bound of nets, which NormNet counts without an arm around them.
func TestNormMaxNets(t *testing.T) {
	for _, count := range []int{10, 11, 397, 398, 399, 400} {
		for i, n := range netsOf(count) {
			if len(netsIn(n)) != count {
				t.Fatalf("net %d: %d nets", i, len(netsIn(n)))
			}
			checkNormNet(t, n)
		}
	}
	for _, count := range []int{401, 402, 656, 800, 66000} {
		for _, n := range netsOf(count) {
			checkNoNormNet(t, n)
			checkNoNormNet(t, notOf(n))
		}
	}
	for _, n := range netsOf(400) {
		checkNoNormNet(t, notOf(n))
		checkNoNormNet(t, andOf(n))
		checkNoNormNet(t, orOf(contactOf("X0"), n))
		checkNoNormNet(t, orOf(n, contactOf("X0")))
	}
	wrong := slices.Repeat([]impl.Net{contactOf("X0")}, 399)
	wrong[398] = impl.Net{}
	checkNoNormNet(t, andOf(wrong...))
	checkNormNet(t, andOf(wrong[:398]...))
}

// Nets and ladders that are far too large, as they share what they are made of or stand within themselves, are nothing at once.
func TestNormOfVeryLargeTrees(t *testing.T) {
	net, arm := contactOf("X0"), armOf(contactOf("X0"), "out:Y0")
	deep := net
	for range 60 {
		net, arm = andOf(net, net), armOf(net, "", arm, arm)
	}
	endless, round := andOf(impl.Net{}), armOf(contactOf("X0"), "", impl.Arm{})
	endless.Kids[0], round.Kids[0] = endless, round
	for range 100000 {
		deep = andOf(deep)
	}
	for _, n := range []impl.Net{net, endless, deep} {
		checkNoNormNet(t, n)
		for _, a := range []impl.Arm{armOf(n, "out:Y0"), armOf(contactOf("X0"), "", armOf(n, "out:Y0"))} {
			if norm := impl.NormMake([]impl.Arm{a}); len(norm) != 0 || impl.NormIs([]impl.Arm{a}) {
				t.Errorf("%d rungs of a net that is far too large", len(norm))
			}
		}
	}
	for _, a := range []impl.Arm{arm, round} {
		if norm := impl.NormMake([]impl.Arm{a}); len(norm) != 0 || impl.NormIs([]impl.Arm{a}) {
			t.Errorf("%d rungs of an arm that is far too large", len(norm))
		}
	}
}

// Each code of chapter 7: such a ladder has no normal form, wherever it is wrong, and not in its good rungs either.
func TestNormOfWrongLadders(t *testing.T) {
	x, good := contactOf("X0"), armOf(contactOf("X0"), "out:Y0")
	none := []coded{{armOf(impl.Net{}, "out:Y0"), 4}, {armOf(impl.Net{}, ""), 4}, {armOf(impl.Net{Kids: []impl.Net{}}, "", good), 4}}
	met := map[int]bool{}
	for _, c := range append(wrongArms(), none...) {
		met[impl.TreeCheck([]impl.Arm{c.arm}).Code] = true
		for _, rungs := range [][]impl.Arm{{c.arm}, {good, c.arm}, {c.arm, good}, {good, c.arm, good}} {
			checkNoNorm(t, rungs)
		}
		if c.code != 4 {
			checkNoNorm(t, []impl.Arm{armOf(x, "", c.arm)})
			checkNoNorm(t, []impl.Arm{armOf(x, "out:Y0", good, armOf(impl.Net{}, "", c.arm))})
		}
	}
	checkNoNorm(t, slices.Repeat([]impl.Arm{good}, 41))
	for code := 2; code <= 5; code++ {
		if !met[code] {
			t.Errorf("no ladder is wrong by code %d", code)
		}
	}
}

// wrongWithin are wrong nets alone and within others, as the first, a middle and the last kid, several deep, and as one kid alone.
func wrongWithin(n impl.Net) []impl.Net {
	x := contactOf("X0")
	return []impl.Net{n, andOf(n), orOf(n), notOf(n), andOf(n, x), orOf(x, n, x), andOf(x, n), orOf(x, andOf(x, notOf(orOf(n, x)))), andOf(orOf(andOf(n))), andOf(andOf(x, x), andOf(x, n))}
}

// Wrong nets by code 2 and 3, and those that are none.
func TestNormOfWrongNets(t *testing.T) {
	list := append(wrongNets(), impl.Net{}, impl.Net{Kids: []impl.Net{}}, impl.Net{One: impl.Elem{Args: []impl.DevArg{}}}, impl.Net{One: impl.Elem{Args: make([]impl.DevArg, 0, 3)}, Kids: make([]impl.Net, 0, 3)})
	for _, e := range wrongContacts() {
		list = append(list, impl.Net{Kind: 1, One: e}, impl.Net{Kind: 1, One: e, Kids: []impl.Net{}})
	}
	for _, wrong := range list {
		for _, n := range wrongWithin(wrong) {
			checkNoNormNet(t, n)
		}
	}
}

// Every small net of any Kind: it has a normal form just if chapter 7 finds nothing wrong.
func TestNormOfSmallNets(t *testing.T) {
	x, kids := contactOf("X0"), [][]impl.Net{nil, {}}
	for _, a := range []impl.Net{{}, x, {Kind: 1}, notOf(x), andOf(), andOf(x), orOf(x, x), andOf(x, x)} {
		kids = append(kids, []impl.Net{a}, []impl.Net{a, x}, []impl.Net{x, a}, []impl.Net{x, a, x})
	}
	right := 0
	for _, n := range smallNets(kids) {
		for _, net := range []impl.Net{n, notOf(n), andOf(x, n), orOf(n)} {
			if armCode(armOf(net, "out:Y0"), true) != 0 {
				checkNoNormNet(t, net)
				continue
			}
			right++
			checkNormNet(t, net)
		}
	}
	if right < 50 {
		t.Errorf("%d nets are right", right)
	}
}

// numbered has other contacts and coils in each place, so that none can change its place or go unseen.
func numbered(rungs []impl.Arm) []impl.Arm {
	other := cloneArms(rungs)
	contacts, coils := 0, 0
	for _, a := range armPlaces(other) {
		alone := []impl.Arm{{Net: a.Net}}
		for _, n := range netPlaces(alone) {
			if n.Kind == 1 {
				*n = contactOf(fmt.Sprintf("X%d", contacts%32))
				contacts++
			}
		}
		a.Net = alone[0].Net
		for i := range a.Coils {
			a.Coils[i] = elemSure(fmt.Sprintf("out:Y%d", coils%32))
			coils++
		}
	}
	return other
}

// shapes are all nets of so many nets.
func shapes(count int, known map[int][]impl.Net) []impl.Net {
	if list, ok := known[count]; ok {
		return list
	}
	list := []impl.Net{}
	if count == 1 {
		list = append(list, contactOf("X0"))
	} else {
		for _, kids := range shapeLists(count-1, known) {
			list = append(list, andOf(kids...), orOf(kids...))
			if len(kids) == 1 {
				list = append(list, notOf(kids...))
			}
		}
	}
	known[count] = list
	return list
}

// shapeLists are all lists of nets, of so many nets together.
func shapeLists(count int, known map[int][]impl.Net) [][]impl.Net {
	if count == 0 {
		return [][]impl.Net{nil}
	}
	lists := [][]impl.Net{}
	for first := 1; first <= count; first++ {
		for _, n := range shapes(first, known) {
			for _, rest := range shapeLists(count-first, known) {
				lists = append(lists, append([]impl.Net{n}, rest...))
			}
		}
	}
	return lists
}

// P29, P30 and P31 of each net of up to seven nets.
func TestNormOfEachShape(t *testing.T) {
	known, met := map[int][]impl.Net{}, 0
	for count := 1; count <= 7; count++ {
		for _, n := range shapes(count, known) {
			met++
			rungs := numbered([]impl.Arm{armOf(n, "out:Y0")})
			norm := checkNormNet(t, rungs[0].Net)
			if made := checkNorm(t, rungs); !impl.TreeSame(made, []impl.Arm{armOf(norm, "out:Y0")}) {
				t.Errorf("%s: %s, but its net %s", spelt(rungs), spelt(made), speltNet(norm))
			}
		}
	}
	if met < 1000 {
		t.Errorf("%d nets", met)
	}
}

// armShapes are arms with these kids, of each sort of net and with none to two coils; those with neither coils nor kids are left out.
func armShapes(kids [][]impl.Arm) []impl.Arm {
	x, list := contactOf("X0"), []impl.Arm{}
	for _, net := range []impl.Net{{}, x, andOf(x, x), orOf(x)} {
		for _, coils := range []string{"", "out:Y0", "out:Y0 out:Y0"} {
			for _, k := range kids {
				if coils != "" || len(k) > 0 {
					list = append(list, armOf(net, coils, k...))
				}
			}
		}
	}
	return list
}

// threeArms is each small rung of three arms one behind the other, with and without others beside them.
func threeArms() []impl.Arm {
	some := armOf(contactOf("X0"), "out:Y0")
	leaves := armShapes([][]impl.Arm{nil})
	lists := [][]impl.Arm{nil}
	for _, leaf := range leaves {
		lists = append(lists, []impl.Arm{leaf}, []impl.Arm{leaf, some}, []impl.Arm{some, leaf})
	}
	middle := armShapes(lists)
	lists = nil
	for _, a := range middle {
		lists = append(lists, []impl.Arm{a}, []impl.Arm{armOf(impl.Net{}, "out:Y0"), a})
	}
	return slices.DeleteFunc(armShapes(lists), func(rung impl.Arm) bool { return isNone(rung.Net) })
}

// P29, P30 and P31 of each small rung of three arms one behind the other.
func TestNormOfEachArm(t *testing.T) {
	met := 0
	for _, rung := range threeArms() {
		met++
		checkNorm(t, numbered([]impl.Arm{rung}))
	}
	if met < 1000 {
		t.Errorf("%d rungs", met)
	}
}

// P29, P30 and P31 of many ladders, accepted and not.
func TestNormOfAnyLadders(t *testing.T) {
	list := changedOnce(branched())
	for _, c := range goodRungs() {
		list = append(list, c.rungs)
		list = append(list, changedOnce(c.rungs)...)
	}
	r := rand.New(rand.NewSource(9))
	for range 1500 {
		rungs := []impl.Arm{}
		for range 1 + r.Intn(4) {
			rungs = append(rungs, anyArm(r, 3, true))
		}
		list = append(list, rungs)
	}
	accepted, loose := 0, 0
	for _, rungs := range list {
		if faultOf(rungs).Code != 0 {
			checkNoNorm(t, rungs)
			continue
		}
		accepted++
		norm := checkNorm(t, rungs)
		if !impl.TreeSame(norm, rungs) {
			loose++
		}
		if empties := checkNorm(t, withEmpties(rungs)); !impl.TreeSame(empties, norm) {
			t.Errorf("%s: with empty lists %s", spelt(rungs), spelt(empties))
		}
		for i := range rungs {
			if alone := impl.NormMake(rungs[i : i+1]); !impl.TreeSame(alone, norm[i:i+1]) {
				t.Errorf("%s: alone %s", spelt(norm[i:i+1]), spelt(alone))
			}
		}
	}
	if accepted < 1000 || loose < 500 || loose > accepted-100 {
		t.Errorf("%d ladders are accepted, of which %d are not normal", accepted, loose)
	}
}

// netLoosenings change a net to one that has the same normal form and is not it; where they can't they leave it.
func netLoosenings() []func(n *impl.Net) {
	group := func(n *impl.Net, from, to int) {
		to = min(to, len(n.Kids))
		if from < to && (n.Kind == 2 || n.Kind == 3) {
			n.Kids = slices.Concat(n.Kids[:from], []impl.Net{{Kind: n.Kind, Kids: slices.Clone(n.Kids[from:to])}}, n.Kids[to:])
		}
	}
	wrap := func(n *impl.Net, kinds ...int) {
		for _, kind := range kinds {
			if !isNone(*n) {
				*n = impl.Net{Kind: kind, Kids: []impl.Net{*n}}
			}
		}
	}
	return []func(n *impl.Net){
		func(n *impl.Net) { wrap(n, 2) }, func(n *impl.Net) { wrap(n, 3) }, func(n *impl.Net) { wrap(n, 2, 3) }, func(n *impl.Net) { wrap(n, 3, 2, 2) },
		func(n *impl.Net) { group(n, 0, 1) }, func(n *impl.Net) { group(n, 0, 2) }, func(n *impl.Net) { group(n, 1, 2) }, func(n *impl.Net) { group(n, 1, 9) }, func(n *impl.Net) { group(n, 0, 9) },
		func(n *impl.Net) { group(n, 0, 2); wrap(n, 5-min(max(n.Kind, 2), 3)) },
	}
}

// armLoosenings do the same to an arm.
func armLoosenings() []func(a *impl.Arm) {
	split := func(a *impl.Arm, coils int) {
		coils = min(coils, len(a.Coils))
		kid := impl.Arm{Coils: slices.Clone(a.Coils[coils:]), Kids: a.Kids}
		if len(kid.Coils)+len(kid.Kids) > 0 {
			a.Coils, a.Kids = slices.Clone(a.Coils[:coils]), []impl.Arm{kid}
		}
	}
	return []func(a *impl.Arm){
		func(a *impl.Arm) { split(a, 0) }, func(a *impl.Arm) { split(a, 1) }, func(a *impl.Arm) { split(a, 2) }, func(a *impl.Arm) { split(a, 0); split(&a.Kids[0], 1) },
		func(a *impl.Arm) {
			if a.Net.Kind == 2 && len(a.Net.Kids) > 1 {
				kid := impl.Arm{Net: andOf(a.Net.Kids[1:]...), Coils: a.Coils, Kids: a.Kids}
				*a = impl.Arm{Net: a.Net.Kids[0], Kids: []impl.Arm{kid}}
			}
		},
		func(a *impl.Arm) {
			if !isNone(a.Net) {
				*a = impl.Arm{Net: a.Net, Kids: []impl.Arm{{Coils: a.Coils, Kids: a.Kids}}}
			}
		},
	}
}

// loosened are ladders with the same normal form as this one, changed in one place.
func loosened(rungs []impl.Arm) [][]impl.Arm {
	list := slices.Concat(changed(rungs, netPlaces, netLoosenings()), changed(rungs, armPlaces, armLoosenings()))
	return slices.DeleteFunc(list, func(other []impl.Arm) bool { return impl.TreeSame(other, rungs) })
}

// normalLadders are in normal form.
func normalLadders() [][]impl.Arm {
	list := [][]impl.Arm{}
	for _, c := range normedRungs() {
		if c[1] == "" {
			list = append(list, ladderSure(c[0]))
		} else {
			list = append(list, ladderSure(c[1]))
		}
	}
	for _, c := range normedNets() {
		if c[1] == "" {
			list = append(list, ladderSure(c[0]+" -> out:Y0 out:Y1"))
		}
	}
	return append(list, ladderSure("and( X0 or( X1 /M2 ) ) -> out:Y0 [ +X3:E1 -> timer:T1,50 | -> move:D0,5 ]\nT1 -> set:Y1"))
}

// A ladder in normal form is said to be so, and is the normal form of all that is loosened out of it, which are said not to be.
func TestLoosenedLadders(t *testing.T) {
	for _, rungs := range normalLadders() {
		if !impl.NormIs(rungs) || !impl.TreeSame(checkNorm(t, rungs), rungs) {
			t.Errorf("%s: said not to be normal", spelt(rungs))
		}
		met := 0
		for i, once := range loosened(rungs) {
			met++
			if impl.NormIs(once) || !impl.TreeSame(checkNorm(t, once), rungs) {
				t.Errorf("%s out of %s", spelt(once), spelt(rungs))
			}
			if i%9 != 0 {
				continue
			}
			for _, twice := range loosened(once) {
				if impl.NormIs(twice) || !impl.TreeSame(impl.NormMake(twice), rungs) {
					t.Errorf("%s out of %s", spelt(twice), spelt(rungs))
				}
			}
		}
		if met < 5 {
			t.Errorf("%s: loosened in %d ways", spelt(rungs), met)
		}
	}
}

// Ladders in normal form are those alone that are their own: one that is loose in its last rung or its innermost arm is none.
func TestNormIsLooksAtAll(t *testing.T) {
	good := ladderSure("X0 -> out:Y0")[0]
	for _, text := range []string{"and( X0 ) -> out:Y0", "X0 -> [ -> out:Y0 ]", "X0 -> out:Y0 [ X1 -> out:Y1 [ X2 -> out:Y2 [ -> out:Y3 ] ] ]", "X0 -> [ X1 -> out:Y0 | not( not( or( X0 or( X1 X2 ) ) ) ) -> out:Y1 ]"} {
		loose := ladderSure(text)[0]
		for _, count := range []int{1, 2, 5, 20} {
			for _, place := range []int{0, count / 2, count - 1} {
				rungs := slices.Repeat([]impl.Arm{good}, count)
				if !impl.NormIs(rungs) {
					t.Errorf("%d rungs: said not to be normal", count)
				}
				rungs[place] = loose
				if impl.NormIs(rungs) || !impl.NormIs(checkNorm(t, rungs)) {
					t.Errorf("%s as rung %d of %d: said to be normal", text, place, count)
				}
			}
		}
	}
}

// cells are the places of all that stands in a ladder and in its spare room, by their addresses.
func cells(rungs []impl.Arm) []any {
	list := []any{}
	elem := func(e impl.Elem) {
		for i := range e.Args[:cap(e.Args)] {
			list = append(list, &e.Args[:cap(e.Args)][i])
		}
	}
	var net func(n impl.Net)
	net = func(n impl.Net) {
		elem(n.One)
		for i, kid := range n.Kids[:cap(n.Kids)] {
			list = append(list, &n.Kids[:cap(n.Kids)][i])
			net(kid)
		}
	}
	for i, a := range rungs[:cap(rungs)] {
		list = append(list, &rungs[:cap(rungs)][i])
		net(a.Net)
		for j, coil := range a.Coils[:cap(a.Coils)] {
			list = append(list, &a.Coils[:cap(a.Coils)][j])
			elem(coil)
		}
		list = append(list, cells(a.Kids)...)
	}
	return list
}

// checkNewMemory asks that no cell of an answer is met twice, nor in what was given.
func checkNewMemory(t *testing.T, given, answer []impl.Arm) {
	t.Helper()
	met := map[any]int{}
	for _, cell := range cells(given) {
		met[cell] = 1
	}
	for _, cell := range cells(answer) {
		if met[cell] != 0 {
			t.Errorf("%s: %s: a %T is shared (%d)", brief(spelt(given)), brief(spelt(answer)), cell, met[cell])
		}
		met[cell] = 2
	}
}

// memoryLadders are of all sorts, in normal form and not.
func memoryLadders() [][]impl.Arm {
	list := append(normalLadders(), branched(), ladderSure("X0 -> out:Y0\nX0 -> [ X1 -> out:Y0 ]\nor( X0 or( X1 and( X2 ) ) ) -> [ -> [ -> out:Y0 | X3 -> out:Y1 [ -> out:Y2 ] ] ]"))
	for _, c := range normedRungs() {
		list = append(list, ladderSure(c[0]))
	}
	for _, c := range normedNets() {
		list = append(list, ladderSure(c[0]+" -> out:Y0 out:Y1"))
	}
	for _, parts := range []int{20, 33, 90} {
		list = append(list, append(grown(parts), grownLoose(parts)...)...)
	}
	for _, c := range goodRungs() {
		list = append(list, c.rungs)
	}
	return list
}

// Each answer is new memory, also where a net, a list of coils or of kids comes into it unchanged; no argument is written into, nor behind its end.
func TestNormIsNewMemory(t *testing.T) {
	for _, rungs := range memoryLadders() {
		want := normalOf(rungs)
		for _, given := range [][]impl.Arm{cloneArms(rungs), withRoom(rungs), withEmpties(rungs), rungs} {
			ahead := rooms(given)
			norm, is := impl.NormMake(given), impl.NormIs(given)
			net := impl.NormNet(given[0].Net)
			if !impl.TreeSame(norm, want) || is != impl.TreeSame(rungs, want) || !sameNet(net, normalNetOf(given[0].Net)) {
				t.Errorf("%s: %s, said to be normal %v", brief(spelt(rungs)), brief(spelt(norm)), is)
			}
			checkNewMemory(t, given, norm)
			checkNewMemory(t, given, []impl.Arm{{Net: net}})
			checkNewMemory(t, norm, []impl.Arm{{Net: net}})
			if rooms(given) != ahead {
				t.Errorf("%s: written into: %s, not %s", brief(spelt(rungs)), rooms(given), ahead)
			}
		}
	}
}

// What is written into an answer, or into what was given, is seen nowhere else.
func TestNormSharesNothing(t *testing.T) {
	for _, rungs := range memoryLadders() {
		want, given := normalOf(rungs), withRoom(rungs)
		ahead := rooms(given)
		norm := impl.NormMake(given)
		fillRooms(norm)
		if !impl.TreeSame(norm, want) {
			t.Errorf("%s: lists share their spare room", brief(spelt(rungs)))
		}
		for i, a := range argPlaces(norm) {
			*a = operand(1, i, 0)
		}
		for i, a := range argPlaces(norm) {
			if *a != operand(1, i, 0) {
				t.Errorf("%s: operand %d is shared", brief(spelt(rungs)), i)
			}
		}
		for _, a := range armPlaces(norm) {
			*a = impl.Arm{}
		}
		if rooms(given) != ahead {
			t.Errorf("%s: what was given sees what is written into the answer", brief(spelt(rungs)))
		}
		norm = impl.NormMake(given)
		fillRooms(given)
		for _, a := range argPlaces(given) {
			*a = operand(2, 7, 7)
		}
		for _, n := range netPlaces(given) {
			n.Kind += 7
		}
		for _, a := range armPlaces(given) {
			*a = impl.Arm{}
		}
		if !impl.TreeSame(norm, want) {
			t.Errorf("%s: the answer sees what is written into what was given", brief(spelt(rungs)))
		}
	}
}
