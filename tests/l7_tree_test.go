package tests

import (
	"fmt"
	"math"
	"slices"
	"strings"
	"testing"

	"loop.example/stile/impl"
)

// elemSure is the contact or coil with this text, which must be one's.
func elemSure(text string) impl.Elem {
	e, ok := impl.ElemRead(text)
	if !ok {
		panic(text + " is neither a contact nor a coil")
	}
	return e
}

func contactOf(text string) impl.Net {
	return impl.Net{Kind: 1, One: elemSure(text)}
}

func andOf(kids ...impl.Net) impl.Net { return impl.Net{Kind: 2, Kids: kids} }
func orOf(kids ...impl.Net) impl.Net  { return impl.Net{Kind: 3, Kids: kids} }
func notOf(kids ...impl.Net) impl.Net { return impl.Net{Kind: 4, Kids: kids} }

// armOf has its coils as words.
func armOf(net impl.Net, coils string, kids ...impl.Arm) impl.Arm {
	a := impl.Arm{Net: net, Kids: kids}
	for _, text := range strings.Fields(coils) {
		a.Coils = append(a.Coils, elemSure(text))
	}
	return a
}

// isNone, netsIn, armsIn, partsOf, netCode, armCode, faultOf and usesOf are a second reading of chapter 7.
func isNone(n impl.Net) bool {
	return n.Kind == 0 && n.One.Op == 0 && len(n.One.Args) == 0 && len(n.Kids) == 0
}

// netsIn is a net and those within it, each before its kids.
func netsIn(n impl.Net) []impl.Net {
	list := []impl.Net{n}
	for i := 0; i < len(list); i++ {
		list = slices.Insert(list, i+1, list[i].Kids...)
	}
	return list
}

// armsIn is an arm and those within it, each before its kids.
func armsIn(a impl.Arm) []impl.Arm {
	list := []impl.Arm{a}
	for i := 0; i < len(list); i++ {
		list = slices.Insert(list, i+1, list[i].Kids...)
	}
	return list
}

func partsOf(rungs []impl.Arm) int {
	parts := 0
	for _, rung := range rungs {
		for _, a := range armsIn(rung) {
			parts += 1 + len(a.Coils)
			if !isNone(a.Net) {
				parts += len(netsIn(a.Net))
			}
		}
	}
	return parts
}

func netCode(n impl.Net) int {
	kids := len(n.Kids)
	nothing := n.One.Op == 0 && len(n.One.Args) == 0
	shapes := map[int]bool{1: kids == 0, 2: nothing && kids >= 1, 3: nothing && kids >= 1, 4: nothing && kids == 1}
	if !shapes[n.Kind] {
		return 2
	}
	if n.Kind == 1 && !impl.ElemIsContact(n.One) {
		return 3
	}
	return 0
}

// armCode is what is wrong with an arm, its kids aside.
func armCode(a impl.Arm, rung bool) int {
	if isNone(a.Net) && rung {
		return 4
	}
	if !isNone(a.Net) {
		for _, n := range netsIn(a.Net) {
			if code := netCode(n); code != 0 {
				return code
			}
		}
	}
	if slices.ContainsFunc(a.Coils, func(e impl.Elem) bool { return !impl.ElemIsCoil(e) }) {
		return 3
	}
	if len(a.Coils)+len(a.Kids) == 0 {
		return 5
	}
	return 0
}

func faultOf(rungs []impl.Arm) impl.TreeFault {
	if len(rungs) > 40 || partsOf(rungs) > 400 {
		return impl.TreeFault{Code: 1}
	}
	for i, rung := range rungs {
		for j, a := range armsIn(rung) {
			if code := armCode(a, j == 0); code != 0 {
				return impl.TreeFault{Code: code, Rung: i}
			}
		}
	}
	return impl.TreeFault{}
}

func usesOf(rungs []impl.Arm, a impl.DevArg) int {
	args := []impl.DevArg{}
	for _, rung := range rungs {
		for _, arm := range armsIn(rung) {
			for _, n := range netsIn(arm.Net) {
				args = append(args, n.One.Args...)
			}
			for _, coil := range arm.Coils {
				args = append(args, coil.Args...)
			}
		}
	}
	return len(slices.DeleteFunc(args, func(b impl.DevArg) bool { return a != b }))
}

// askedUses are operands for which ladders are asked: some that stand there, nothing, one that is not ok, one that stands nowhere.
func askedUses() []impl.DevArg {
	return []impl.DevArg{operand(1, 0, 0), operand(2, 0, 0), operand(5, 1, 0), {}, operand(1, 32, 0), operand(1, 0, 1), operand(4, 7, 0)}
}

// checkTree holds a ladder against the second reading, and asks for P25.
func checkTree(t *testing.T, rungs []impl.Arm) {
	t.Helper()
	ahead := fmt.Sprint(rungs)
	size, fault := impl.TreeSize(rungs), impl.TreeCheck(rungs)
	if size != partsOf(rungs) || fault != faultOf(rungs) {
		t.Errorf("%v: %d and %v, not %d and %v", rungs, size, fault, partsOf(rungs), faultOf(rungs))
	}
	for _, a := range askedUses() {
		if got, want := impl.TreeUses(rungs, a), usesOf(rungs, a); got != want {
			t.Errorf("%v: uses %v %d times, not %d", rungs, a, got, want)
		}
	}
	together := 0
	for i := range rungs {
		together += impl.TreeSize(rungs[i : i+1])
		if alone := impl.TreeCheck(rungs[i : i+1]); fault.Code == 0 && alone.Code != 0 {
			t.Errorf("%v: accepted, but rung %d is %v", rungs, i, alone)
		}
		if begun := impl.TreeCheck(rungs[:i]); fault.Code == 0 && begun.Code != 0 {
			t.Errorf("%v: accepted, but %d rungs are %v", rungs, i, begun)
		}
	}
	if size != together {
		t.Errorf("%v: %d parts, but its rungs have %d", rungs, size, together)
	}
	if fmt.Sprint(rungs) != ahead {
		t.Errorf("%s: written into: %v", ahead, rungs)
	}
}

func TestTreeConstants(t *testing.T) {
	if impl.NetNone != 0 || impl.NetContact != 1 || impl.NetAnd != 2 || impl.NetOr != 3 || impl.NetNot != 4 {
		t.Error("kinds of nets")
	}
	if impl.TreeMany != 1 || impl.TreeBadNet != 2 || impl.TreeBadElem != 3 || impl.TreeNoNet != 4 || impl.TreeNoCoil != 5 {
		t.Error("codes")
	}
	if impl.TreeMaxRungs != 40 || impl.TreeMaxNodes != 400 {
		t.Error("bounds")
	}
}

// sized is a ladder that is accepted, and how many parts it has.
type sized struct {
	rungs []impl.Arm
	size  int
}

// goodRungs are accepted, and so are their kids as kids.
func goodRungs() []sized {
	x, y, m := contactOf("X0"), contactOf("X1"), contactOf("/M2")
	one := func(size int, a impl.Arm) sized { return sized{[]impl.Arm{a}, size} }
	return []sized{
		one(3, armOf(x, "out:Y0")),
		one(3, armOf(contactOf("+X0:E1"), "pulse:Y0,E1")),
		one(3, armOf(contactOf("D1<=-5"), "add:D1,D1,1")),
		one(3, armOf(contactOf("R2<>nan"), "whole:D1,R2")),
		one(6, armOf(x, "out:Y0 set:M1 reset:T1 out:Y0")),
		one(4, armOf(andOf(x), "out:Y0")),
		one(4, armOf(orOf(x), "out:Y0")),
		one(4, armOf(notOf(x), "out:Y0")),
		one(5, armOf(andOf(x, x), "out:Y0")),
		one(6, armOf(orOf(x, y, m), "out:Y0")),
		one(6, armOf(notOf(notOf(notOf(x))), "out:Y0")),
		one(9, armOf(andOf(andOf(x, y), orOf(andOf(m))), "out:Y0")),
		one(10, armOf(orOf(x, notOf(andOf(y, orOf(m, x)))), "out:Y0")),
		one(4, armOf(x, "", armOf(impl.Net{}, "out:Y0"))),
		one(5, armOf(x, "", armOf(impl.Net{}, "", armOf(impl.Net{}, "out:Y0")))),
		one(9, armOf(x, "", armOf(y, "out:Y0"), armOf(impl.Net{}, "set:M1"), armOf(impl.Net{}, "set:M1"))),
		one(16, armOf(x, "out:Y0", armOf(y, "out:Y1", armOf(notOf(m), "step:S1"), armOf(impl.Net{}, "out:Y0 out:Y2")), armOf(x, "late:T1,5"))),
		one(12, armOf(andOf(x, orOf(y, m)), "out:Y0", armOf(contactOf("+X3:E1"), "timer:T1,50"), armOf(impl.Net{}, "move:D0,5"))),
	}
}

// P25, by ladders that are written out here.
func TestTreesWrittenOut(t *testing.T) {
	whole := sized{}
	for _, c := range goodRungs() {
		whole = sized{append(whole.rungs, c.rungs...), whole.size + c.size}
		for _, l := range []sized{c, whole} {
			if n := impl.TreeSize(l.rungs); n != l.size {
				t.Errorf("%v: %d parts, not %d", l.rungs, n, l.size)
			}
			if f := impl.TreeCheck(l.rungs); f != (impl.TreeFault{}) {
				t.Errorf("%v: %v", l.rungs, f)
			}
			checkTree(t, l.rungs)
		}
	}
}

func TestNoRungs(t *testing.T) {
	for _, rungs := range [][]impl.Arm{nil, {}, make([]impl.Arm, 0, 5)} {
		if impl.TreeSize(rungs) != 0 || impl.TreeCheck(rungs) != (impl.TreeFault{}) || impl.TreeUses(rungs, impl.DevArg{}) != 0 {
			t.Errorf("%d %v %d", impl.TreeSize(rungs), impl.TreeCheck(rungs), impl.TreeUses(rungs, impl.DevArg{}))
		}
		if !impl.TreeSame(rungs, nil) || !impl.TreeSame(nil, rungs) || impl.TreeSame(rungs, []impl.Arm{{}}) || impl.TreeSame([]impl.Arm{{}}, rungs) {
			t.Error("no rungs are the same as others, or not as none")
		}
	}
}

// wrongContacts are no contacts that are ok.
func wrongContacts() []impl.Elem {
	return []impl.Elem{
		{}, {Args: []impl.DevArg{}}, {Args: []impl.DevArg{operand(1, 0, 0)}}, {Op: 1}, {Op: 1, Args: []impl.DevArg{}}, {Op: 1, Args: []impl.DevArg{{}}},
		{Op: 1, Args: []impl.DevArg{operand(1, 32, 0)}}, {Op: 2, Args: []impl.DevArg{operand(1, 0, 1)}}, {Op: 1, Args: []impl.DevArg{operand(9, 0, 0)}},
		{Op: 1, Args: []impl.DevArg{operand(1, 0, 0), operand(1, 0, 0)}}, {Op: 3, Args: []impl.DevArg{operand(1, 0, 0)}}, {Op: 3, Args: []impl.DevArg{operand(1, 0, 0), operand(1, 0, 0)}},
		{Op: 5, Args: []impl.DevArg{operand(9, 0, 0), operand(10, 0, 0)}}, {Op: 11, Args: []impl.DevArg{operand(1, 0, 0)}}, {Op: -1, Args: []impl.DevArg{operand(1, 0, 0)}},
		elemSure("out:Y0"), elemSure("timer:T1,50"), elemSure("add:D1,D2,D3"),
	}
}

// wrongCoils are no coils that are ok.
func wrongCoils() []impl.Elem {
	return []impl.Elem{
		{}, {Args: []impl.DevArg{}}, {Args: []impl.DevArg{operand(2, 0, 0)}}, {Op: 21}, {Op: 21, Args: []impl.DevArg{}}, {Op: 21, Args: []impl.DevArg{{}}},
		{Op: 21, Args: []impl.DevArg{operand(2, 32, 0)}}, {Op: 22, Args: []impl.DevArg{operand(2, 0, 1)}}, {Op: 21, Args: []impl.DevArg{operand(1, 0, 0)}},
		{Op: 21, Args: []impl.DevArg{operand(2, 0, 0), operand(2, 0, 0)}}, {Op: 24, Args: []impl.DevArg{operand(2, 0, 0)}}, {Op: 26, Args: []impl.DevArg{operand(7, 0, 0), operand(11, -1, 0)}},
		{Op: 20, Args: []impl.DevArg{operand(2, 0, 0)}}, {Op: 38, Args: []impl.DevArg{operand(2, 0, 0)}}, {Op: -21, Args: []impl.DevArg{operand(2, 0, 0)}},
		elemSure("X0"), elemSure("+X0:E1"), elemSure("D1<D2"),
	}
}

// coded is an arm that is wrong, and the code of it.
type coded struct {
	arm  impl.Arm
	code int
}

// wrongNets are all wrong by code 2; none of them is none.
func wrongNets() []impl.Net {
	x := contactOf("X0")
	list := []impl.Net{
		{Kind: 1, One: x.One, Kids: []impl.Net{x}}, {Kind: 1, Kids: []impl.Net{x}}, {Kind: 1, One: x.One, Kids: []impl.Net{{}}}, {Kind: 1, One: elemSure("out:Y0"), Kids: []impl.Net{x, x}},
		{Kind: 0, One: x.One}, {Kind: 0, Kids: []impl.Net{x}}, {Kind: 0, Kids: []impl.Net{{}}}, {Kind: 0, One: impl.Elem{Op: 1}}, {Kind: 0, One: impl.Elem{Args: []impl.DevArg{{}}}},
		notOf(x, x), notOf(x, x, x), andOf(impl.Net{}), andOf(x, impl.Net{}), andOf(impl.Net{}, x), orOf(x, andOf(x, impl.Net{}), x), notOf(impl.Net{}), orOf(notOf(notOf())),
	}
	for _, kind := range []int{-1, 5, 6, -4, 258, math.MinInt, math.MaxInt} {
		list = append(list, impl.Net{Kind: kind}, impl.Net{Kind: kind, One: x.One}, impl.Net{Kind: kind, Kids: []impl.Net{}}, impl.Net{Kind: kind, Kids: []impl.Net{x}}, impl.Net{Kind: kind, Kids: []impl.Net{x, x}}, andOf(x, impl.Net{Kind: kind, Kids: []impl.Net{x}}))
	}
	for kind := 2; kind <= 4; kind++ {
		list = append(list, impl.Net{Kind: kind}, impl.Net{Kind: kind, Kids: []impl.Net{}}, andOf(x, impl.Net{Kind: kind}))
		for _, one := range []impl.Elem{x.One, {Op: 1}, {Op: -1}, {Args: []impl.DevArg{operand(1, 0, 0)}}, {Args: []impl.DevArg{{}}}, elemSure("out:Y0")} {
			list = append(list, impl.Net{Kind: kind, One: one}, impl.Net{Kind: kind, One: one, Kids: []impl.Net{x}}, notOf(impl.Net{Kind: kind, One: one, Kids: []impl.Net{x}}))
		}
	}
	return list
}

// wrongArms are wrong, as rungs and as kids of others.
func wrongArms() []coded {
	x := contactOf("X0")
	list := []coded{
		{armOf(x, ""), 5}, {impl.Arm{Net: x, Coils: []impl.Elem{}, Kids: []impl.Arm{}}, 5}, {armOf(andOf(x, notOf(x)), ""), 5}, {armOf(x, "", armOf(x, "")), 5}, {armOf(x, "", armOf(x, "out:Y0"), armOf(impl.Net{}, "")), 5},
	}
	for _, n := range wrongNets() {
		list = append(list, coded{armOf(n, "out:Y0"), 2}, coded{armOf(n, "", armOf(x, "out:Y0")), 2}, coded{armOf(n, ""), 2})
	}
	for _, e := range wrongContacts() {
		n := impl.Net{Kind: 1, One: e}
		for _, net := range []impl.Net{n, {Kind: 1, One: e, Kids: []impl.Net{}}, andOf(n), orOf(x, n), notOf(n), andOf(x, orOf(notOf(n), x), x)} {
			list = append(list, coded{armOf(net, "out:Y0"), 3}, coded{armOf(net, "", armOf(impl.Net{}, "out:Y0")), 3}, coded{armOf(net, ""), 3})
		}
	}
	for _, e := range wrongCoils() {
		y := elemSure("out:Y0")
		for _, coils := range [][]impl.Elem{{e}, {e, y}, {y, e}, {y, e, y}, {e, e}} {
			list = append(list, coded{impl.Arm{Net: x, Coils: coils}, 3}, coded{impl.Arm{Net: x, Coils: coils, Kids: []impl.Arm{armOf(x, "out:Y0")}}, 3})
		}
	}
	return list
}

// checkCode asks for a code with an arm as the first, a middle and the last rung.
func checkCode(t *testing.T, a impl.Arm, code int) {
	t.Helper()
	good := armOf(contactOf("X0"), "out:Y0")
	for _, size := range []int{1, 2, 3, 40} {
		for _, place := range []int{0, size / 2, size - 1} {
			rungs := slices.Repeat([]impl.Arm{good}, size)
			rungs[place] = a
			if f := impl.TreeCheck(rungs); f != (impl.TreeFault{Code: code, Rung: place}) {
				t.Errorf("%v as rung %d of %d: %v, not %d", a, place, size, f, code)
			}
		}
	}
	checkTree(t, []impl.Arm{good, a, good})
}

// Each code, in a rung and in kids of it.
func TestWrongArms(t *testing.T) {
	x := contactOf("X0")
	good := armOf(x, "out:Y0")
	for _, c := range wrongArms() {
		checkCode(t, c.arm, c.code)
		checkCode(t, armOf(x, "", c.arm), c.code)
		checkCode(t, armOf(x, "out:Y0", good, c.arm), c.code)
		checkCode(t, armOf(x, "", good, c.arm, good), c.code)
		checkCode(t, armOf(x, "", armOf(impl.Net{}, "", good, armOf(impl.Net{}, "", c.arm, good)), good), c.code)
	}
}

// A net that is none is wrong as the net of a rung alone; there it goes ahead of all that is wrong behind it.
func TestNetsThatAreNone(t *testing.T) {
	x := contactOf("X0")
	for _, none := range []impl.Net{{}, {Kids: []impl.Net{}}, {One: impl.Elem{Args: []impl.DevArg{}}}, {One: impl.Elem{Args: make([]impl.DevArg, 0, 3)}, Kids: make([]impl.Net, 0, 3)}} {
		for _, c := range []sized{
			{[]impl.Arm{armOf(none, "out:Y0")}, 2}, {[]impl.Arm{armOf(none, "")}, 1}, {[]impl.Arm{{Net: none, Coils: []impl.Elem{{}}}}, 2}, {[]impl.Arm{armOf(none, "", armOf(x, "out:Y0"))}, 4},
			{[]impl.Arm{armOf(none, "out:Y0", armOf(andOf(), ""))}, 4},
		} {
			checkCode(t, c.rungs[0], 4)
			if n := impl.TreeSize(c.rungs); n != c.size {
				t.Errorf("%v: %d parts, not %d", c.rungs, n, c.size)
			}
		}
		checkCode(t, armOf(x, "out:Y0", armOf(none, "")), 5)
		checkCode(t, armOf(x, "out:Y0", impl.Arm{Net: none, Coils: []impl.Elem{{}}}), 3)
		kid := []impl.Arm{armOf(x, "", armOf(none, "out:Y0"))}
		if n, f := impl.TreeSize(kid), impl.TreeCheck(kid); n != 4 || f != (impl.TreeFault{}) {
			t.Errorf("%v: %d and %v", kid, n, f)
		}
		for size, net := range []impl.Net{2: notOf(none), 3: andOf(x, none), 4: orOf(none, andOf(none)), 5: andOf(none, none, none, none), 6: andOf(x, notOf(none), notOf(x))} {
			if isNone(net) {
				continue
			}
			checkCode(t, armOf(net, "out:Y0"), 2)
			within := []impl.Arm{armOf(net, "out:Y0")}
			if n := impl.TreeSize(within); n != size+2 {
				t.Errorf("%v: %d parts, not %d", within, n, size+2)
			}
		}
	}
}

// Lists that are empty are nothing, nil or not.
func TestEmptyListsAreNothing(t *testing.T) {
	bare := impl.Elem{Args: []impl.DevArg{}}
	x := contactOf("X0")
	full := x
	full.Kids = []impl.Net{}
	for _, rung := range []impl.Arm{
		armOf(full, "out:Y0"),
		armOf(impl.Net{Kind: 2, One: bare, Kids: []impl.Net{full, x}}, "out:Y0"),
		armOf(impl.Net{Kind: 3, One: bare, Kids: []impl.Net{full, x}}, "out:Y0"),
		armOf(impl.Net{Kind: 4, One: bare, Kids: []impl.Net{full}}, "out:Y0"),
		{Net: x, Coils: []impl.Elem{elemSure("out:Y0")}, Kids: []impl.Arm{}},
		{Net: x, Coils: []impl.Elem{}, Kids: []impl.Arm{{Net: impl.Net{One: bare, Kids: []impl.Net{}}, Coils: []impl.Elem{elemSure("out:Y0")}, Kids: []impl.Arm{}}}},
	} {
		if f := impl.TreeCheck([]impl.Arm{rung}); f != (impl.TreeFault{}) {
			t.Errorf("%v: %v", rung, f)
		}
		checkTree(t, []impl.Arm{rung})
	}
}

// What is wrong is told in order: in one net, in a net and in coils, in an arm and in its kid, in two rungs.
func TestOrderOfWhatIsWrong(t *testing.T) {
	x, badNet, badElem := contactOf("X0"), andOf(), impl.Net{Kind: 1}
	noCoil, badCoil := armOf(x, ""), impl.Arm{Net: x, Coils: []impl.Elem{{}}}
	inNet, inElem := armOf(badNet, "out:Y0"), armOf(badElem, "out:Y0")
	for _, c := range []coded{
		{armOf(andOf(badNet, badElem), "out:Y0"), 2}, {armOf(andOf(badElem, badNet), "out:Y0"), 3},
		{armOf(andOf(orOf(notOf(badElem)), badNet), "out:Y0"), 3}, {armOf(andOf(orOf(notOf(badNet)), badElem), "out:Y0"), 2},
		{armOf(andOf(x, orOf(x, badElem), notOf(badNet)), "out:Y0"), 3}, {armOf(andOf(x, orOf(x, badNet), notOf(badElem)), "out:Y0"), 2},
		{armOf(notOf(badElem, x), "out:Y0"), 2}, {armOf(impl.Net{Kind: 2, One: x.One, Kids: []impl.Net{badElem}}, "out:Y0"), 2}, {armOf(impl.Net{Kind: 1, Kids: []impl.Net{badElem}}, "out:Y0"), 2},
		{armOf(impl.Net{Kind: 7, Kids: []impl.Net{badElem}}, "out:Y0"), 2}, {armOf(andOf(badElem, impl.Net{}), "out:Y0"), 3}, {armOf(andOf(impl.Net{}, badElem), "out:Y0"), 2},
		{impl.Arm{Net: badNet, Coils: []impl.Elem{{}}}, 2}, {impl.Arm{Net: badElem, Coils: []impl.Elem{{}}}, 3}, {impl.Arm{Coils: []impl.Elem{{}}}, 4},
		{armOf(badNet, ""), 2}, {armOf(badElem, ""), 3}, {armOf(impl.Net{}, ""), 4},
		{armOf(badNet, "", inElem), 2}, {armOf(badElem, "", inNet), 3}, {armOf(badNet, "", noCoil), 2}, {armOf(badElem, "", noCoil), 3}, {armOf(impl.Net{}, "", inNet), 4},
		{impl.Arm{Net: x, Coils: []impl.Elem{{}}, Kids: []impl.Arm{inNet}}, 3}, {impl.Arm{Net: x, Coils: []impl.Elem{{}}, Kids: []impl.Arm{noCoil}}, 3},
		{armOf(x, "", inNet, inElem), 2}, {armOf(x, "", inElem, inNet), 3}, {armOf(x, "", noCoil, inNet), 5}, {armOf(x, "", inNet, noCoil), 2}, {armOf(x, "", badCoil, noCoil), 3}, {armOf(x, "", noCoil, badCoil), 5},
		{armOf(x, "", armOf(x, "", noCoil), inNet), 5}, {armOf(x, "", armOf(x, "", inNet), noCoil), 2}, {armOf(x, "", armOf(x, "out:Y0"), armOf(badElem, "", inNet)), 3}, {armOf(x, "", armOf(badNet, "", inElem)), 2},
	} {
		checkCode(t, c.arm, c.code)
	}
	wrong := []coded{{inNet, 2}, {inElem, 3}, {badCoil, 3}, {armOf(impl.Net{}, "out:Y0"), 4}, {noCoil, 5}, {armOf(x, "", inNet), 2}, {armOf(x, "", noCoil), 5}}
	good := armOf(x, "out:Y0")
	for _, first := range wrong {
		for _, second := range wrong {
			for _, rungs := range [][]impl.Arm{{good, first.arm, second.arm}, {good, first.arm, good, second.arm, good}} {
				if f := impl.TreeCheck(rungs); f != (impl.TreeFault{Code: first.code, Rung: 1}) {
					t.Errorf("%v: %v, not %d", rungs, f, first.code)
				}
			}
		}
	}
}

// P25 at the bound of rungs.
func TestTreeMaxRungs(t *testing.T) {
	x := contactOf("X0")
	good, large := armOf(x, "out:Y0"), armOf(andOf(x, notOf(x)), "out:Y0", armOf(impl.Net{}, "set:M1 set:M2 set:M3"))
	for _, rung := range []impl.Arm{good, large} {
		most := slices.Repeat([]impl.Arm{rung}, 40)
		if f := impl.TreeCheck(most); f != (impl.TreeFault{}) {
			t.Errorf("40 of %v: %v", rung, f)
		}
		checkTree(t, most)
		for _, count := range []int{41, 42, 80, 256 + 20, 1000} {
			checkMany(t, slices.Repeat([]impl.Arm{rung}, count))
		}
	}
	for _, c := range wrongArms() {
		for _, place := range []int{0, 20, 40} {
			rungs := slices.Repeat([]impl.Arm{good}, 41)
			rungs[place] = c.arm
			checkMany(t, rungs)
		}
	}
	checkMany(t, make([]impl.Arm, 41))
	if f := impl.TreeCheck(make([]impl.Arm, 40)); f != (impl.TreeFault{Code: 4}) {
		t.Errorf("40 rungs that are nothing: %v", f)
	}
}

func checkMany(t *testing.T, rungs []impl.Arm) {
	t.Helper()
	if f := impl.TreeCheck(rungs); f != (impl.TreeFault{Code: 1}) {
		t.Errorf("%d rungs, %d parts: %v", len(rungs), impl.TreeSize(rungs), f)
	}
	if n := impl.TreeSize(rungs); n != partsOf(rungs) {
		t.Errorf("%d rungs: %d parts, not %d", len(rungs), n, partsOf(rungs))
	}
}

// grown are ladders with so many parts (of at least 10), each grown in another place.
func grown(parts int) [][]impl.Arm {
	x, good := contactOf("X0"), armOf(contactOf("X0"), "out:Y0")
	coils := armOf(x, "out:Y0"+strings.Repeat(" out:Y0", parts-3))
	kids := armOf(x, "out:Y0")
	for range (parts - 3) / 2 {
		kids.Kids = append(kids.Kids, armOf(impl.Net{}, "out:Y0"))
	}
	kids.Coils = append(kids.Coils, slices.Repeat([]impl.Elem{elemSure("set:M1")}, (parts-3)%2)...)
	deep, chain := x, armOf(impl.Net{}, "out:Y0")
	for range parts - 3 {
		deep = notOf(deep)
	}
	for range parts - 4 {
		chain = armOf(impl.Net{}, "", chain)
	}
	last := slices.Repeat([]impl.Arm{good}, 3)
	last[2].Coils = slices.Repeat([]impl.Elem{elemSure("set:M1")}, parts-8)
	return [][]impl.Arm{
		{coils}, {kids}, {armOf(andOf(slices.Repeat([]impl.Net{x}, parts-3)...), "out:Y0")}, {armOf(deep, "out:Y0")}, {armOf(x, "", chain)}, last,
		{good, armOf(x, "", armOf(orOf(slices.Repeat([]impl.Net{x}, parts-8)...), "out:Y0"))},
	}
}

// P25 at the bound of parts; nets that are none count within nets, and nowhere else.
func TestTreeMaxNodes(t *testing.T) {
	for parts := 10; parts <= 402; parts += 56 {
		for i, rungs := range grown(parts) {
			if n := impl.TreeSize(rungs); n != parts {
				t.Errorf("ladder %d: %d parts, not %d", i, n, parts)
			}
		}
	}
	x := contactOf("X0")
	for i, rungs := range grown(400) {
		if n, f := impl.TreeSize(rungs), impl.TreeCheck(rungs); n != 400 || f != (impl.TreeFault{}) {
			t.Errorf("ladder %d: %d and %v", i, n, f)
		}
		checkTree(t, rungs)
		checkMany(t, append(slices.Clone(rungs), armOf(x, "out:Y0")))
		checkMany(t, append(slices.Clone(rungs), impl.Arm{}))
		checkMany(t, append([]impl.Arm{{}}, rungs...))
	}
	for i, rungs := range grown(401) {
		if n, f := impl.TreeSize(rungs), impl.TreeCheck(rungs); n != 401 || f != (impl.TreeFault{Code: 1}) {
			t.Errorf("ladder %d: %d and %v", i, n, f)
		}
	}
	for count, code := range map[int]int{396: 2, 397: 2, 398: 1, 399: 1} {
		rungs := []impl.Arm{armOf(andOf(make([]impl.Net, count)...), "out:Y0")}
		if n, f := impl.TreeSize(rungs), impl.TreeCheck(rungs); n != count+3 || f != (impl.TreeFault{Code: code}) {
			t.Errorf("%d nets that are none: %d and %v, not %d", count, n, f, code)
		}
	}
	for count, code := range map[int]int{397: 5, 398: 5, 399: 1} {
		rungs := []impl.Arm{{Net: x, Kids: make([]impl.Arm, count)}}
		if n, f := impl.TreeSize(rungs), impl.TreeCheck(rungs); n != count+2 || f != (impl.TreeFault{Code: code}) {
			t.Errorf("%d arms that are nothing: %d and %v, not %d", count, n, f, code)
		}
	}
}

// With too many parts nothing else is told.
func TestTooManyPartsGoAhead(t *testing.T) {
	x := contactOf("X0")
	coils := strings.Repeat(" out:Y0", 400)
	for _, c := range wrongArms() {
		checkMany(t, []impl.Arm{c.arm, armOf(x, coils)})
		checkMany(t, []impl.Arm{armOf(x, coils), c.arm})
		checkMany(t, []impl.Arm{armOf(x, coils, c.arm)})
	}
	checkMany(t, []impl.Arm{armOf(impl.Net{}, coils)})
}

// Ladders that are far too large, as they share what they are made of or stand within themselves, or are nested far too deep, are refused.
func TestVeryLargeTrees(t *testing.T) {
	net, arm := contactOf("X0"), armOf(contactOf("X0"), "out:Y0")
	for range 60 {
		net, arm = andOf(net, net), armOf(net, "", arm, arm)
	}
	endless, round := andOf(impl.Net{}), armOf(contactOf("X0"), "", impl.Arm{})
	endless.Kids[0], round.Kids[0] = endless, round
	for _, rungs := range [][]impl.Arm{{armOf(net, "out:Y0")}, {arm}, {armOf(contactOf("X0"), "out:Y0"), arm}, {armOf(endless, "out:Y0")}, {round}} {
		if f := impl.TreeCheck(rungs); f != (impl.TreeFault{Code: 1}) {
			t.Error(f)
		}
	}
	deep, chain := contactOf("X0"), armOf(impl.Net{}, "out:Y0")
	for range 100000 {
		deep, chain = notOf(deep), armOf(impl.Net{}, "", chain)
	}
	for _, c := range []sized{{[]impl.Arm{armOf(deep, "out:Y0")}, 100003}, {[]impl.Arm{armOf(contactOf("X0"), "", chain)}, 100004}} {
		n, f, uses := impl.TreeSize(c.rungs), impl.TreeCheck(c.rungs), impl.TreeUses(c.rungs, operand(1, 0, 0))
		if n != c.size || f != (impl.TreeFault{Code: 1}) || uses != 1 || !impl.TreeSame(c.rungs, c.rungs) {
			t.Errorf("%d parts, not %d; %v, %d uses", n, c.size, f, uses)
		}
	}
}

// smallNets are nets of every Kind with this and that in One, and with those of kids that are given.
func smallNets(kids [][]impl.Net) []impl.Net {
	list := []impl.Net{}
	for _, kind := range []int{-1, 0, 1, 2, 3, 4, 5} {
		for _, one := range []impl.Elem{{}, {Args: []impl.DevArg{}}, {Args: []impl.DevArg{{}}}, {Op: 1}, elemSure("X0"), {Op: 1, Args: []impl.DevArg{operand(1, 32, 0)}}, elemSure("out:Y0")} {
			for _, k := range kids {
				list = append(list, impl.Net{Kind: kind, One: one, Kids: k})
			}
		}
	}
	return list
}

// Every small net, as the net of a rung and of a kid, with this and that behind it.
func TestSmallTrees(t *testing.T) {
	x, bad := contactOf("X0"), impl.Net{Kind: 1}
	kids := [][]impl.Net{nil, {}}
	some := []impl.Net{{}, x, bad, notOf(x), andOf(), orOf(bad, impl.Net{})}
	for _, a := range some {
		kids = append(kids, []impl.Net{a}, []impl.Net{a, x, x})
		for _, b := range some {
			kids = append(kids, []impl.Net{a, b})
		}
	}
	good, badArm := armOf(x, "out:Y0"), armOf(andOf(), "")
	for _, n := range smallNets(kids) {
		for _, coils := range [][]impl.Elem{nil, {elemSure("out:Y0")}, {elemSure("out:Y0"), elemSure("X0")}} {
			for _, more := range [][]impl.Arm{nil, {good}, {badArm, good}, {good, {Coils: coils}}} {
				a := impl.Arm{Net: n, Coils: coils, Kids: more}
				checkTree(t, []impl.Arm{a})
				checkTree(t, []impl.Arm{good, {Net: x, Kids: []impl.Arm{good, a}}})
			}
		}
	}
}

func cloneElems(list []impl.Elem) []impl.Elem {
	other := slices.Clone(list)
	for i := range other {
		other[i].Args = slices.Clone(other[i].Args)
	}
	return other
}

func cloneNet(n impl.Net) impl.Net {
	other := impl.Net{Kind: n.Kind, One: impl.Elem{Op: n.One.Op, Args: slices.Clone(n.One.Args)}}
	for _, kid := range n.Kids {
		other.Kids = append(other.Kids, cloneNet(kid))
	}
	return other
}

// cloneArms is the same ladder in other memory.
func cloneArms(list []impl.Arm) []impl.Arm {
	other := []impl.Arm{}
	for _, a := range list {
		other = append(other, impl.Arm{Net: cloneNet(a.Net), Coils: cloneElems(a.Coils), Kids: cloneArms(a.Kids)})
	}
	return other
}

// armPlaces are all arms of a ladder, to be changed.
func armPlaces(list []impl.Arm) []*impl.Arm {
	places := []*impl.Arm{}
	for i := range list {
		places = append(append(places, &list[i]), armPlaces(list[i].Kids)...)
	}
	return places
}

// netPlaces are all nets of a ladder, those of arms that are none too.
func netPlaces(list []impl.Arm) []*impl.Net {
	places := []*impl.Net{}
	for _, a := range armPlaces(list) {
		places = append(places, &a.Net)
	}
	for i := 0; i < len(places); i++ {
		for j := range places[i].Kids {
			places = append(places, &places[i].Kids[j])
		}
	}
	return places
}

// elemPlaces are all contacts and coils of a ladder.
func elemPlaces(list []impl.Arm) []*impl.Elem {
	places := []*impl.Elem{}
	for _, n := range netPlaces(list) {
		places = append(places, &n.One)
	}
	for _, a := range armPlaces(list) {
		for i := range a.Coils {
			places = append(places, &a.Coils[i])
		}
	}
	return places
}

// turned is a list whose first two parts have changed places, if it has two.
func turned[T any](list []T) []T {
	if len(list) > 1 {
		list[0], list[1] = list[1], list[0]
	}
	return list
}

func netChanges() []func(n *impl.Net) {
	return []func(n *impl.Net){
		func(n *impl.Net) { n.Kind++ }, func(n *impl.Net) { n.Kind-- }, func(n *impl.Net) { n.Kind = 5 - n.Kind }, func(n *impl.Net) { *n = impl.Net{} },
		func(n *impl.Net) { n.Kids = nil }, func(n *impl.Net) { n.Kids = append(n.Kids, contactOf("X0")) }, func(n *impl.Net) { n.Kids = append(n.Kids, impl.Net{}) },
		func(n *impl.Net) { turned(n.Kids) }, func(n *impl.Net) { n.Kids = n.Kids[:max(len(n.Kids)-1, 0)] }, func(n *impl.Net) { *n = notOf(*n) },
	}
}

func elemChanges() []func(e *impl.Elem) {
	return []func(e *impl.Elem){
		func(e *impl.Elem) { e.Op = e.Op%2 + 1 }, func(e *impl.Elem) { e.Op = 0 }, func(e *impl.Elem) { e.Args = nil }, func(e *impl.Elem) { e.Args = append(e.Args, impl.DevArg{}) },
		func(e *impl.Elem) { turned(e.Args) }, func(e *impl.Elem) { *e = elemSure("out:Y0") }, func(e *impl.Elem) { *e = elemSure("X0") },
	}
}

func argChanges() []func(a *impl.DevArg) {
	return []func(a *impl.DevArg){func(a *impl.DevArg) { a.Kind++ }, func(a *impl.DevArg) { a.N++ }, func(a *impl.DevArg) { a.P++ }, func(a *impl.DevArg) { a.N -= 32 }}
}

func armChanges() []func(a *impl.Arm) {
	return []func(a *impl.Arm){
		func(a *impl.Arm) { a.Coils = nil }, func(a *impl.Arm) { a.Coils = append(a.Coils, elemSure("out:Y0")) }, func(a *impl.Arm) { a.Coils = append(a.Coils, elemSure("X0")) },
		func(a *impl.Arm) { turned(a.Coils) }, func(a *impl.Arm) { a.Kids = nil }, func(a *impl.Arm) { a.Kids = append(a.Kids, armOf(contactOf("X0"), "out:Y0")) },
		func(a *impl.Arm) { a.Kids = append(a.Kids, impl.Arm{}) }, func(a *impl.Arm) { turned(a.Kids) }, func(a *impl.Arm) { *a = armOf(impl.Net{}, "", *a) },
	}
}

// changed is a ladder with each change made in each place that places finds, one at a time.
func changed[T any](rungs []impl.Arm, places func([]impl.Arm) []*T, changes []func(*T)) [][]impl.Arm {
	list := [][]impl.Arm{}
	for i := range places(rungs) {
		for _, change := range changes {
			other := cloneArms(rungs)
			change(places(other)[i])
			list = append(list, other)
		}
	}
	return list
}

// argPlaces are all operands of a ladder.
func argPlaces(list []impl.Arm) []*impl.DevArg {
	places := []*impl.DevArg{}
	for _, e := range elemPlaces(list) {
		for i := range e.Args {
			places = append(places, &e.Args[i])
		}
	}
	return places
}

// changedOnce are ladders that part from this one in one place alone; a few are still the same.
func changedOnce(rungs []impl.Arm) [][]impl.Arm {
	list := slices.Concat(
		changed(rungs, netPlaces, netChanges()), changed(rungs, elemPlaces, elemChanges()), changed(rungs, argPlaces, argChanges()), changed(rungs, armPlaces, armChanges()),
	)
	return append(list, turned(cloneArms(rungs)), rungs[:len(rungs)-1], append(cloneArms(rungs), rungs[0]), append(cloneArms(rungs), impl.Arm{}))
}

// branched is a ladder with a bit of everything.
func branched() []impl.Arm {
	x, e := contactOf("X0"), contactOf("+X1:E1")
	return []impl.Arm{
		armOf(andOf(x, orOf(e, notOf(x))), "out:Y0 set:M1", armOf(x, "pulse:Y0,E1"), armOf(impl.Net{}, "", armOf(e, "out:Y0"))),
		armOf(contactOf("D1<D2"), "add:D1,D2,5"),
	}
}

// A ladder with everything in it, changed in one place, and in two.
func TestChangedTrees(t *testing.T) {
	for _, once := range changedOnce(branched()) {
		checkTree(t, once)
		for _, twice := range changedOnce(once[:min(len(once), 1)]) {
			if f := impl.TreeCheck(twice); f != faultOf(twice) {
				t.Errorf("%v: %v, not %v", twice, f, faultOf(twice))
			}
			if n := impl.TreeSize(twice); n != partsOf(twice) {
				t.Errorf("%v: %d parts, not %d", twice, n, partsOf(twice))
			}
		}
	}
}

// P26, for each two of many ladders of which most part in one place alone.
func TestTreeSameOfEachTwo(t *testing.T) {
	list := append(changedOnce(branched()), branched(), cloneArms(branched()))
	for _, c := range goodRungs() {
		list = append(list, c.rungs)
	}
	texts := make([]string, len(list))
	for i, rungs := range list {
		texts[i] = fmt.Sprint(rungs)
	}
	same := 0
	for i, a := range list {
		for j, b := range list {
			if got := impl.TreeSame(a, b); got != (texts[i] == texts[j]) || got != impl.TreeSame(b, a) {
				t.Errorf("%v and %v: the same %v, the other way round %v", a, b, got, impl.TreeSame(b, a))
			}
			if i != j && texts[i] == texts[j] {
				same++
				checkAlike(t, a, b)
			}
		}
		checkAlike(t, a, cloneArms(a))
	}
	if same == 0 {
		t.Error("no two of the ladders are the same")
	}
}

// checkAlike asks for P26 of two ladders that are the same.
func checkAlike(t *testing.T, a, b []impl.Arm) {
	t.Helper()
	if !impl.TreeSame(a, b) || !impl.TreeSame(b, a) {
		t.Errorf("%v and %v: not the same", a, b)
	}
	if impl.TreeSize(a) != impl.TreeSize(b) || impl.TreeCheck(a) != impl.TreeCheck(b) {
		t.Errorf("%v and %v: %d and %d parts, %v and %v", a, b, impl.TreeSize(a), impl.TreeSize(b), impl.TreeCheck(a), impl.TreeCheck(b))
	}
	for _, arg := range askedUses() {
		if impl.TreeUses(a, arg) != impl.TreeUses(b, arg) {
			t.Errorf("%v and %v: %d and %d uses of %v", a, b, impl.TreeUses(a, arg), impl.TreeUses(b, arg), arg)
		}
	}
}

// P26, by pairs that are written out here: each parts in one place alone.
func TestTreeSameWrittenOut(t *testing.T) {
	x, y := contactOf("X0"), contactOf("X1")
	base := armOf(andOf(x, orOf(y, x)), "out:Y0 set:M1", armOf(x, "out:Y0"), armOf(y, "out:Y1", armOf(impl.Net{}, "out:Y0")))
	other := func(change func(a *impl.Arm)) impl.Arm {
		list := cloneArms([]impl.Arm{base})
		change(&list[0])
		return list[0]
	}
	unlike := map[string]impl.Arm{
		"an operand of a contact":      other(func(a *impl.Arm) { a.Net.Kids[1].Kids[0].One.Args[0].N = 2 }),
		"the Kind of an operand":       other(func(a *impl.Arm) { a.Net.Kids[0].One.Args[0].Kind = 3 }),
		"the P of an operand":          other(func(a *impl.Arm) { a.Net.Kids[0].One.Args[0].P = 1 }),
		"an operand more":              other(func(a *impl.Arm) { a.Net.Kids[0].One.Args = append(a.Net.Kids[0].One.Args, impl.DevArg{}) }),
		"an operand of a coil":         other(func(a *impl.Arm) { a.Coils[1].Args[0].N = 2 }),
		"an operand deep within":       other(func(a *impl.Arm) { a.Kids[1].Kids[0].Coils[0].Args[0].N = 1 }),
		"the Op of a contact":          other(func(a *impl.Arm) { a.Net.Kids[0].One.Op = 2 }),
		"the Op of a coil":             other(func(a *impl.Arm) { a.Coils[0].Op = 22 }),
		"the Op in One of a NetAnd":    other(func(a *impl.Arm) { a.Net.One.Op = 1 }),
		"the operands in that One":     other(func(a *impl.Arm) { a.Net.One.Args = []impl.DevArg{{}} }),
		"the Kind of a net":            other(func(a *impl.Arm) { a.Net.Kind = 3 }),
		"the Kind of a net within":     other(func(a *impl.Arm) { a.Net.Kids[1].Kind = 2 }),
		"the Kind of a kid's net":      other(func(a *impl.Arm) { a.Kids[0].Net.Kind = 0 }),
		"the order of nets":            other(func(a *impl.Arm) { slices.Reverse(a.Net.Kids) }),
		"the order of nets within":     other(func(a *impl.Arm) { slices.Reverse(a.Net.Kids[1].Kids) }),
		"the order of coils":           other(func(a *impl.Arm) { slices.Reverse(a.Coils) }),
		"the order of arms":            other(func(a *impl.Arm) { slices.Reverse(a.Kids) }),
		"a net more":                   other(func(a *impl.Arm) { a.Net.Kids = append(a.Net.Kids, x) }),
		"a net that is none more":      other(func(a *impl.Arm) { a.Net.Kids = append(a.Net.Kids, impl.Net{}) }),
		"a net less":                   other(func(a *impl.Arm) { a.Net.Kids[1].Kids = a.Net.Kids[1].Kids[:1] }),
		"a coil more":                  other(func(a *impl.Arm) { a.Coils = append(a.Coils, elemSure("out:Y0")) }),
		"a coil that is nothing more":  other(func(a *impl.Arm) { a.Coils = append(a.Coils, impl.Elem{}) }),
		"a coil less":                  other(func(a *impl.Arm) { a.Kids[0].Coils = nil }),
		"an arm more":                  other(func(a *impl.Arm) { a.Kids = append(a.Kids, armOf(x, "out:Y0")) }),
		"an arm that is nothing more":  other(func(a *impl.Arm) { a.Kids = append(a.Kids, impl.Arm{}) }),
		"an arm less":                  other(func(a *impl.Arm) { a.Kids = a.Kids[:1] }),
		"an arm deep within less":      other(func(a *impl.Arm) { a.Kids[1].Kids = nil }),
		"a net that is there for none": other(func(a *impl.Arm) { a.Kids[1].Kids[0].Net = x }),
		"a net in one of its own":      other(func(a *impl.Arm) { a.Net = andOf(a.Net) }),
		"an arm in one of its own":     other(func(a *impl.Arm) { *a = armOf(impl.Net{}, "", *a) }),
	}
	checkAlike(t, []impl.Arm{base}, []impl.Arm{other(func(a *impl.Arm) {})})
	for what, a := range unlike {
		if impl.TreeSame([]impl.Arm{base}, []impl.Arm{a}) || impl.TreeSame([]impl.Arm{a}, []impl.Arm{base}) {
			t.Errorf("%s: the same", what)
		}
		if impl.TreeSame([]impl.Arm{base, base}, []impl.Arm{base, a}) || impl.TreeSame([]impl.Arm{a, base}, []impl.Arm{base, base}) || impl.TreeSame([]impl.Arm{a, base}, []impl.Arm{base, a}) {
			t.Errorf("%s, in one rung of two: the same", what)
		}
		checkAlike(t, []impl.Arm{a}, cloneArms([]impl.Arm{a}))
	}
	if impl.TreeSame([]impl.Arm{base}, []impl.Arm{base, base}) || impl.TreeSame([]impl.Arm{base, base}, []impl.Arm{base}) {
		t.Error("a rung more: the same")
	}
}

// withEmpties has empty lists where a ladder has nil ones.
func withEmpties(list []impl.Arm) []impl.Arm {
	other := cloneArms(list)
	for _, e := range elemPlaces(other) {
		if e.Args == nil {
			e.Args = []impl.DevArg{}
		}
	}
	for _, n := range netPlaces(other) {
		if n.Kids == nil {
			n.Kids = []impl.Net{}
		}
	}
	for _, a := range armPlaces(other) {
		if a.Coils == nil {
			a.Coils = make([]impl.Elem, 0, 2)
		}
	}
	return other
}

// P26: the empty list and the nil list are the same value.
func TestEmptyListsAreTheSame(t *testing.T) {
	list := append(changedOnce(branched()), []impl.Arm{{}}, []impl.Arm{armOf(andOf(), "")}, []impl.Arm{armOf(andOf(impl.Net{}, impl.Net{}), "", impl.Arm{})})
	for _, c := range goodRungs() {
		list = append(list, c.rungs)
	}
	for _, c := range wrongArms() {
		list = append(list, []impl.Arm{c.arm})
	}
	for _, rungs := range list {
		checkAlike(t, rungs, withEmpties(rungs))
		checkTree(t, withEmpties(rungs))
	}
}

// P26, by operands that stand there often, once, not at all; also where they may not stand.
func TestTreeUsesWrittenOut(t *testing.T) {
	nothing, x32 := impl.DevArg{}, operand(1, 32, 0)
	odd := []impl.Arm{{
		Net: impl.Net{Kind: 2, One: impl.Elem{Args: []impl.DevArg{nothing, x32}}, Kids: []impl.Net{
			{One: impl.Elem{Op: 99, Args: []impl.DevArg{nothing}}}, {Kind: 1, One: elemSure("X0"), Kids: []impl.Net{contactOf("X0")}}, {Kind: -3, Kids: []impl.Net{{Kind: 9, One: elemSure("out:Y0")}}},
		}},
		Coils: []impl.Elem{{Args: []impl.DevArg{nothing, nothing, x32}}, elemSure("X0")},
		Kids:  []impl.Arm{{Net: impl.Net{One: impl.Elem{Args: []impl.DevArg{nothing}}}, Kids: []impl.Arm{{Coils: []impl.Elem{{Op: 1, Args: []impl.DevArg{nothing}}}}}}},
	}}
	for _, c := range []struct {
		rungs []impl.Arm
		a     impl.DevArg
		uses  int
	}{
		{branched(), operand(1, 0, 0), 3}, {branched(), operand(1, 1, 0), 2}, {branched(), operand(2, 0, 0), 3}, {branched(), operand(3, 1, 0), 1}, {branched(), operand(5, 1, 0), 3},
		{branched(), operand(9, 1, 0), 2}, {branched(), operand(9, 2, 0), 2}, {branched(), operand(11, 5, 0), 1}, {branched(), operand(11, 4, 0), 0}, {branched(), operand(12, 5, 1), 0},
		{branched(), operand(1, 2, 0), 0}, {branched(), operand(1, 0, 1), 0}, {branched(), operand(1, 32, 0), 0}, {branched(), operand(4, 0, 0), 0}, {branched(), nothing, 0},
		{branched()[:1], operand(9, 1, 0), 0}, {branched()[1:], operand(1, 0, 0), 0}, {slices.Repeat(branched(), 30), operand(1, 0, 0), 90},
		{[]impl.Arm{armOf(contactOf("D1=D1"), "add:D1,D1,D1")}, operand(9, 1, 0), 5}, {[]impl.Arm{armOf(contactOf("R1<>nan"), "move:R1,-0.5")}, operand(13, 0, 0), 1},
		{[]impl.Arm{armOf(contactOf("R1<>nan"), "move:R1,-0.5")}, operand(12, -5, 1), 1}, {[]impl.Arm{armOf(contactOf("R1<>nan"), "move:R1,-0.5")}, operand(12, 5, 1), 0},
		{odd, nothing, 6}, {odd, x32, 2}, {odd, operand(1, 0, 0), 3}, {odd, operand(2, 0, 0), 1}, {odd, operand(2, 1, 0), 0}, {[]impl.Arm{{}}, nothing, 0},
	} {
		if n := impl.TreeUses(c.rungs, c.a); n != c.uses {
			t.Errorf("%v: uses %v %d times, not %d", c.rungs, c.a, n, c.uses)
		}
		checkTree(t, c.rungs)
	}
}

// roomy is a list with something behind its end.
func roomy[T any](list []T, behind T) []T {
	return append(slices.Clone(list), behind, behind)[:len(list)]
}

// withRoom has something behind the end of each list of a ladder.
func withRoom(list []impl.Arm) []impl.Arm {
	other := roomy(cloneArms(list), armOf(contactOf("X9"), "out:Y9"))
	for _, e := range elemPlaces(other) {
		e.Args = roomy(e.Args, operand(1, 9, 0))
	}
	for _, a := range armPlaces(other) {
		a.Coils = roomy(a.Coils, elemSure("out:Y9"))
		a.Kids = roomy(a.Kids, armOf(contactOf("X9"), "out:Y9"))
	}
	for _, n := range netPlaces(other) {
		n.Kids = roomy(n.Kids, contactOf("X9"))
	}
	return other
}

// rooms is all that stands in a ladder and behind the ends of its lists.
func rooms(list []impl.Arm) string {
	text := fmt.Sprint(list[:cap(list)])
	for _, e := range elemPlaces(list) {
		text += fmt.Sprint(e.Args[:cap(e.Args)])
	}
	for _, a := range armPlaces(list) {
		text += fmt.Sprint(a.Coils[:cap(a.Coils)], a.Kids[:cap(a.Kids)])
	}
	for _, n := range netPlaces(list) {
		text += fmt.Sprint(n.Kids[:cap(n.Kids)])
	}
	return text
}

// No argument is written into, nor behind its end; what stands behind counts for nothing; nothing is kept from call to call.
func TestTreesAreNotWrittenInto(t *testing.T) {
	list := append(changedOnce(branched()), slices.Repeat(branched(), 25), nil)
	for _, c := range goodRungs() {
		list = append(list, c.rungs)
	}
	for _, rungs := range list {
		room := withRoom(rungs)
		ahead := rooms(room)
		size, fault, uses := impl.TreeSize(room), impl.TreeCheck(room), impl.TreeUses(room, operand(1, 9, 0))
		if size != partsOf(rungs) || fault != faultOf(rungs) || uses != 0 || !impl.TreeSame(room, rungs) || !impl.TreeSame(rungs, room) {
			t.Errorf("%v: with room behind %d, %v and %d", rungs, size, fault, uses)
		}
		impl.TreeCheck(slices.Repeat([]impl.Arm{{}}, 50))
		if impl.TreeSize(room) != size || impl.TreeCheck(room) != fault || impl.TreeUses(room, operand(1, 9, 0)) != uses {
			t.Errorf("%v: asked again: %d, %v and %d", rungs, impl.TreeSize(room), impl.TreeCheck(room), impl.TreeUses(room, operand(1, 9, 0)))
		}
		if rooms(room) != ahead {
			t.Errorf("%v: written into: %s, not %s", rungs, rooms(room), ahead)
		}
	}
}
