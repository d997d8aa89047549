package tests

import (
	"math"
	"regexp"
	"slices"
	"strconv"
	"strings"
	"testing"

	"loop.example/stile/impl"
)

// elemRow is a row of the tables of chapter 4. Of the operands there are one or two sorts, a letter for each operand: see sortKinds.
type elemRow struct {
	op    int
	name  string // of a coil
	ahead string
	sign  string
	sorts []string
}

func elemRows() []elemRow {
	rows := []elemRow{
		{1, "", "", "", []string{"b"}}, {2, "", "/", "", []string{"b"}}, {3, "", "+", ":", []string{"bE"}}, {4, "", "-", ":", []string{"bE"}},
	}
	for i, sign := range cmpSigns() {
		rows = append(rows, elemRow{5 + i, "", "", sign, []string{"ww", "rr"}})
	}
	for i, coil := range []struct {
		name  string
		sorts []string
	}{
		{"out", []string{"o"}}, {"set", []string{"s"}}, {"reset", []string{"z"}}, {"pulse", []string{"oE"}}, {"step", []string{"S"}},
		{"timer", []string{"Tp"}}, {"hold", []string{"Tp"}}, {"late", []string{"Tp"}}, {"count", []string{"Cp"}}, {"move", []string{"Dw", "Rr"}},
		{"add", []string{"Dww", "Rrr"}}, {"sub", []string{"Dww", "Rrr"}}, {"mul", []string{"Dww", "Rrr"}}, {"div", []string{"Dww", "Rrr"}},
		{"rem", []string{"Dww"}}, {"real", []string{"Rw"}}, {"whole", []string{"Dr"}},
	} {
		rows = append(rows, elemRow{21 + i, coil.name, coil.name + ":", ",", coil.sorts})
	}
	return rows
}

var (
	// sortKinds are the kinds of operands (see kindOfText) that may stand where a sort has this letter.
	sortKinds = map[byte]string{
		'b': "XYMSGTC", 'E': "E", 'w': "TCD0", 'r': "R.", 'o': "YM", 's': "YMS", 'z': "YMSTC", 'S': "S", 'T': "T", 'C': "C", 'p': "0", 'D': "D", 'R': "R",
	}
	deviceSizes = map[string]int{"X": 32, "Y": 32, "M": 64, "S": 16, "E": 32, "G": 5, "T": 16, "C": 16, "D": 32, "R": 16}
	deviceForm  = regexp.MustCompile(`^([XYMSEGTCDR])(0|[1-9][0-9]?)$`)
	wholeForm   = regexp.MustCompile(`^(0|-?[1-9][0-9]{0,4})$`)
	decimalForm = regexp.MustCompile(`^-?(0|[1-9][0-9]{0,7})\.([0-9]|[0-9]{1,5}[1-9])$`)
	testForm    = regexp.MustCompile(`^([^<=>]*)([<=>]+)([^<=>]*)$`)
	edgeForm    = regexp.MustCompile(`^([+-])([^:]*):([^:]*)$`)
)

// mayStand says whether the operand with this text may stand where a sort has this letter; p is a preset.
func mayStand(letter byte, text string) bool {
	if letter == 'p' && strings.HasPrefix(text, "-") {
		return false
	}
	kind := kindOfText(text)
	return kind != "" && strings.Contains(sortKinds[letter], kind)
}

// kindOfText is the letter of a device, 0 for a whole number, a point for a real one, and empty for no operand.
func kindOfText(text string) string {
	if found := deviceForm.FindStringSubmatch(text); found != nil {
		if n, _ := strconv.Atoi(found[2]); n < deviceSizes[found[1]] {
			return found[1]
		}
	}
	if n, _ := strconv.Atoi(text); wholeForm.MatchString(text) && n >= -32768 && n <= 32767 {
		return "0"
	}
	digits, _ := strconv.Atoi(strings.TrimPrefix(strings.Replace(text, ".", "", 1), "-"))
	if text == "nan" || text == "inf" || text == "-inf" || decimalForm.MatchString(text) && digits <= 999999999 {
		return "."
	}
	return ""
}

// elemParts is the Op and the operands of a text, by the document's tables; Op 0, if it is no contact's or coil's.
func elemParts(text string) (int, []string) {
	name, behind, named := strings.Cut(text, ":")
	found, edge := testForm.FindStringSubmatch(text), edgeForm.FindStringSubmatch(text)
	for _, row := range elemRows() {
		parts := []string{}
		switch {
		case row.name != "" && named && name == row.name:
			parts = strings.Split(behind, ",")
		case row.op == 1:
			parts = []string{text}
		case row.op == 2 && strings.HasPrefix(text, "/"):
			parts = []string{text[1:]}
		case edge != nil && edge[1] == row.ahead:
			parts = edge[2:]
		case found != nil && row.name == "" && found[2] == row.sign:
			parts = []string{found[1], found[3]}
		}
		if row.take(parts) {
			return row.op, parts
		}
	}
	return 0, nil
}

// take says whether the operands with these texts are as one of the row's sorts.
func (row elemRow) take(texts []string) bool {
	for _, sort := range row.sorts {
		fits := len(sort) == len(texts)
		for i := range sort {
			fits = fits && mayStand(sort[i], texts[i])
		}
		if fits {
			return true
		}
	}
	return false
}

// sampleOperands are operands of every kind, at their edges and between.
func sampleOperands() []written {
	all := []written{}
	for _, row := range devRows() {
		for _, n := range []int{0, 1, row.size - 1} {
			if row.size > 0 {
				all = append(all, written{operand(row.kind, n, 0), row.letter + strconv.Itoa(n)})
			}
		}
	}
	for _, w := range edgeNumbers() {
		if slices.Contains([]string{"0", "1", "-1", "32767", "-32768", "0.0", "-0.1", "99999999.9", "0.000001", "nan", "inf", "-inf", "-0.0"}, w.text) {
			all = append(all, w)
		}
	}
	return all
}

// badOperands are not ok, each of them near to one that is; they have no text.
func badOperands() []written {
	all := []written{}
	for _, row := range devRows() {
		if row.size > 0 {
			all = append(all, written{operand(row.kind, row.size, 0), ""}, written{operand(row.kind, -1, 0), ""}, written{operand(row.kind, 0, 1), ""})
		}
	}
	for _, a := range []impl.DevArg{
		{}, operand(-1, 0, 0), operand(14, 0, 0), operand(11, 32768, 0), operand(11, -32769, 0), operand(11, 5, 1), operand(12, 5, 0), operand(12, 10, 2), operand(12, 1000000000, 1),
		operand(13, 4, 0), operand(13, -1, 0), operand(13, 0, 1),
	} {
		all = append(all, written{a, ""})
	}
	return all
}

func sameElem(a, b impl.Elem) bool {
	return a.Op == b.Op && slices.Equal(a.Args, b.Args)
}

// elemOf makes a contact or coil with its operands and their texts.
func elemOf(op int, operands []written) (impl.Elem, []string) {
	e, texts := impl.Elem{Op: op}, []string{}
	for _, w := range operands {
		e.Args = append(e.Args, w.a)
		texts = append(texts, w.text)
	}
	return e, texts
}

// checkElem holds a contact or coil against its row.
func checkElem(t *testing.T, row elemRow, operands []written) {
	t.Helper()
	e, texts := elemOf(row.op, operands)
	if !row.take(texts) {
		checkNoElem(t, e)
		return
	}
	contact, coil := impl.ElemIsContact(e), impl.ElemIsCoil(e)
	if contact != (row.op < 21) || coil == contact {
		t.Errorf("%v: a contact %v, a coil %v", e, contact, coil)
	}
	if len(e.Args) != impl.ElemArity(e.Op) {
		t.Errorf("%v: %d operands, not %d", e, len(e.Args), impl.ElemArity(e.Op))
	}
	text := row.ahead + strings.Join(texts, row.sign)
	if impl.ElemText(e) != text {
		t.Errorf("%v: written as %q, not %q", e, impl.ElemText(e), text)
	}
	if got, ok := impl.ElemRead(text); !ok || !sameElem(got, e) {
		t.Errorf("%q: read as %v %v, not %v", text, got, ok, e)
	}
}

// checkNoElem holds what is neither a contact nor a coil against all that is said of it.
func checkNoElem(t *testing.T, e impl.Elem) {
	t.Helper()
	if impl.ElemIsContact(e) || impl.ElemIsCoil(e) || impl.ElemText(e) != "" {
		t.Errorf("%v: a contact %v, a coil %v, %q", e, impl.ElemIsContact(e), impl.ElemIsCoil(e), impl.ElemText(e))
	}
}

// checkElemText holds what is read of a text against the tables.
func checkElemText(t *testing.T, text string) {
	t.Helper()
	op, parts := elemParts(text)
	e, ok := impl.ElemRead(text)
	if ok != (op != 0) || e.Op != op || len(e.Args) != len(parts) {
		t.Errorf("%q: read %v %v, not %d %q", text, e, ok, op, parts)
		return
	}
	for i, part := range parts {
		if !impl.DevOk(e.Args[i]) || impl.DevText(e.Args[i]) != part {
			t.Errorf("%q: operand %d is %v, not %q", text, i, e.Args[i], part)
		}
	}
	if ok && (impl.ElemIsContact(e) == impl.ElemIsCoil(e) || impl.ElemText(e) != text) {
		t.Errorf("%q: a contact %v, a coil %v, written as %q", text, impl.ElemIsContact(e), impl.ElemIsCoil(e), impl.ElemText(e))
	}
}

func wrongElemOps() []int {
	return []int{math.MinInt, -37, -21, -1, 0, 11, 12, 19, 20, 38, 39, 42, 255, 256, 257, 277, 1 << 16, 1<<32 + 1, 1<<32 + 21, math.MaxInt}
}

func TestElemConstants(t *testing.T) {
	for i, op := range []int{
		impl.ElemOpen, impl.ElemShut, impl.ElemUp, impl.ElemDown, impl.ElemLess, impl.ElemMost, impl.ElemSame, impl.ElemOther, impl.ElemLeast, impl.ElemMore,
	} {
		if op != i+1 {
			t.Errorf("the contact in place %d: %d", i, op)
		}
	}
	for i, op := range []int{
		impl.ElemOut, impl.ElemSet, impl.ElemReset, impl.ElemPulse, impl.ElemStep, impl.ElemTimer, impl.ElemHold, impl.ElemLate, impl.ElemCount, impl.ElemMove,
		impl.ElemAdd, impl.ElemSub, impl.ElemMul, impl.ElemDiv, impl.ElemRem, impl.ElemReal, impl.ElemWhole,
	} {
		if op != i+21 {
			t.Errorf("the coil in place %d: %d", i, op)
		}
	}
}

func TestElemArityAndName(t *testing.T) {
	for _, row := range elemRows() {
		if impl.ElemArity(row.op) != len(row.sorts[0]) || impl.ElemName(row.op) != row.name {
			t.Errorf("%d: %d %q", row.op, impl.ElemArity(row.op), impl.ElemName(row.op))
		}
	}
	for _, op := range wrongElemOps() {
		if impl.ElemArity(op) != 0 || impl.ElemName(op) != "" {
			t.Errorf("%d: %d %q", op, impl.ElemArity(op), impl.ElemName(op))
		}
	}
}

// P13 and P14, by texts that are written out here.
func TestElemsWrittenOut(t *testing.T) {
	x, y, m, s, e, g := operand(1, 0, 0), operand(2, 31, 0), operand(3, 63, 0), operand(4, 15, 0), operand(5, 1, 0), operand(6, 4, 0)
	tm, c, d, r := operand(7, 1, 0), operand(8, 15, 0), operand(9, 1, 0), operand(10, 2, 0)
	five, below, half, nan, inf, minus, zero := operand(11, 5, 0), operand(11, -32768, 0), operand(12, -5, 1), operand(13, 0, 0), operand(13, 1, 0), operand(13, 2, 0), operand(13, 3, 0)
	for _, c := range []struct {
		text string
		op   int
		args []impl.DevArg
	}{
		{"X0", 1, []impl.DevArg{x}}, {"T1", 1, []impl.DevArg{tm}}, {"/C15", 2, []impl.DevArg{c}}, {"/G4", 2, []impl.DevArg{g}},
		{"+X0:E1", 3, []impl.DevArg{x, e}}, {"-S15:E1", 4, []impl.DevArg{s, e}}, {"-T1:E1", 4, []impl.DevArg{tm, e}},
		{"D1<5", 5, []impl.DevArg{d, five}}, {"-32768<=-32768", 6, []impl.DevArg{below, below}}, {"T1=C15", 7, []impl.DevArg{tm, c}},
		{"R2<>nan", 8, []impl.DevArg{r, nan}}, {"-inf>=inf", 9, []impl.DevArg{minus, inf}}, {"-0.5>-0.0", 10, []impl.DevArg{half, zero}},
		{"out:Y31", 21, []impl.DevArg{y}}, {"set:S15", 22, []impl.DevArg{s}}, {"reset:C15", 23, []impl.DevArg{c}}, {"pulse:M63,E1", 24, []impl.DevArg{m, e}}, {"step:S15", 25, []impl.DevArg{s}},
		{"timer:T1,5", 26, []impl.DevArg{tm, five}}, {"hold:T1,0", 27, []impl.DevArg{tm, operand(11, 0, 0)}}, {"late:T1,32767", 28, []impl.DevArg{tm, operand(11, 32767, 0)}},
		{"count:C15,5", 29, []impl.DevArg{c, five}}, {"move:D1,T1", 30, []impl.DevArg{d, tm}}, {"move:R2,-0.5", 30, []impl.DevArg{r, half}},
		{"add:D1,D1,-32768", 31, []impl.DevArg{d, d, below}}, {"sub:R2,R2,nan", 32, []impl.DevArg{r, r, nan}}, {"mul:D1,C15,5", 33, []impl.DevArg{d, c, five}},
		{"div:R2,-inf,-0.0", 34, []impl.DevArg{r, minus, zero}}, {"rem:D1,T1,C15", 35, []impl.DevArg{d, tm, c}}, {"real:R2,T1", 36, []impl.DevArg{r, tm}}, {"whole:D1,inf", 37, []impl.DevArg{d, inf}},
	} {
		e := impl.Elem{Op: c.op, Args: c.args}
		if impl.ElemText(e) != c.text || impl.ElemIsContact(e) != (c.op <= 10) || impl.ElemIsCoil(e) != (c.op > 10) {
			t.Errorf("%v: written as %q, not %q; %v %v", e, impl.ElemText(e), c.text, impl.ElemIsContact(e), impl.ElemIsCoil(e))
		}
		if got, ok := impl.ElemRead(c.text); !ok || !sameElem(got, e) {
			t.Errorf("%q: read as %v %v, not %v", c.text, got, ok, e)
		}
	}
}

// P13 and P14, for every Op with each one and each two of many operands, ok or not, and with none.
func TestElemsOfUpToTwoOperands(t *testing.T) {
	all := append(sampleOperands(), badOperands()...)
	for _, row := range elemRows() {
		checkElem(t, row, nil)
		for _, a := range all {
			checkElem(t, row, []written{a})
			for _, b := range all {
				checkElem(t, row, []written{a, b})
			}
		}
	}
}

// P13 and P14, for every Op with each three of some operands.
func TestElemsOfThreeOperands(t *testing.T) {
	some := []written{}
	for _, w := range sampleOperands() {
		if w.a.N != 0 || w.a.Kind >= 12 {
			some = append(some, w)
		}
	}
	some = append(some, written{operand(9, 32, 0), ""}, written{operand(10, -1, 0), ""}, written{operand(11, 32768, 0), ""}, written{operand(12, 10, 2), ""}, written{})
	for _, row := range elemRows() {
		for _, a := range some {
			for _, b := range some {
				for _, c := range some {
					checkElem(t, row, []written{a, b, c})
				}
			}
		}
	}
}

// P13 and P14, for each device there is.
func TestElemsOfEveryDevice(t *testing.T) {
	e, whole, real := written{operand(5, 31, 0), "E31"}, written{operand(11, -7, 0), "-7"}, written{operand(12, 25, 1), "2.5"}
	for _, w := range devices() {
		for _, row := range elemRows() {
			checkElem(t, row, []written{w})
			checkElem(t, row, []written{w, w})
			for _, other := range []written{e, whole, real} {
				checkElem(t, row, []written{w, other})
				checkElem(t, row, []written{other, w})
				checkElem(t, row, []written{w, other, other})
				checkElem(t, row, []written{w, w, other})
			}
		}
	}
}

// P14, for each Op with one operand too few and with some too many.
func TestElemsWithTooFewAndTooMany(t *testing.T) {
	first := map[byte]impl.DevArg{
		'b': operand(1, 3, 0), 'E': operand(5, 3, 0), 'w': operand(11, 3, 0), 'r': operand(12, 3, 1), 'o': operand(2, 3, 0), 's': operand(4, 3, 0), 'z': operand(7, 3, 0),
		'S': operand(4, 3, 0), 'T': operand(7, 3, 0), 'C': operand(8, 3, 0), 'p': operand(11, 3, 0), 'D': operand(9, 3, 0), 'R': operand(10, 3, 0),
	}
	for _, row := range elemRows() {
		for _, sort := range row.sorts {
			e := impl.Elem{Op: row.op}
			for i := range sort {
				checkNoElem(t, e)
				e.Args = append(e.Args, first[sort[i]])
			}
			if impl.ElemIsContact(e) == impl.ElemIsCoil(e) {
				t.Errorf("%v: a contact %v, a coil %v", e, impl.ElemIsContact(e), impl.ElemIsCoil(e))
			}
			last := e.Args[len(e.Args)-1]
			for _, more := range []impl.DevArg{last, e.Args[0], {}, operand(5, 0, 0), operand(11, 0, 0)} {
				checkNoElem(t, impl.Elem{Op: row.op, Args: append(slices.Clone(e.Args), more)})
				checkNoElem(t, impl.Elem{Op: row.op, Args: append(slices.Clone(e.Args), more, more)})
			}
			checkNoElem(t, impl.Elem{Op: row.op, Args: append(slices.Clone(e.Args), slices.Repeat([]impl.DevArg{last}, 70000)...)})
		}
	}
}

// P14, with numbers that are no Op.
func TestNoSuchElem(t *testing.T) {
	all := append(sampleOperands(), badOperands()...)
	for _, op := range wrongElemOps() {
		checkNoElem(t, impl.Elem{Op: op})
		checkNoElem(t, impl.Elem{Op: op, Args: []impl.DevArg{}})
		for _, a := range all {
			checkNoElem(t, impl.Elem{Op: op, Args: []impl.DevArg{a.a}})
			for _, b := range all {
				checkNoElem(t, impl.Elem{Op: op, Args: []impl.DevArg{a.a, b.a}})
				checkNoElem(t, impl.Elem{Op: op, Args: []impl.DevArg{a.a, b.a, b.a}})
			}
		}
	}
}

// P13, with wrong texts.
func TestWrongTextsOfElems(t *testing.T) {
	for _, text := range []string{
		"", "X", "/", "+", "-", "E1", "/E1", "D1", "/D1", "R1", "5", "-5", "1.5", "nan", "/nan", "X32", "/X32", "X01", "x0", "+X0", "-X0", "+X0:", "-X0:", "+:E1", "+E1:E2", "+X0:X1", "+X0:E32", "+X0:E1:E2", "+X0::E1",
		"+X0,E1", "X0:E1", "/X0:E1", "+/X0:E1", "/+X0:E1", "++X0:E1", "--X0:E1", "+-X0:E1", "+X0:+E1", "+D1:E1", "//X0", "/-X0", "!X0", "X0/", "X0<", "<X0", "X0<X1", "X0=1", "E1=E1", "G0=1", "S1<1", "M0<>M1", "<", "<>", "=", "<=",
		"D1<D2<D3", "D1==D2", "D1=<D2", "D1=>D2", "D1><D2", "D1<<D2", "D1<=>D2", "D1<>=D2", "D1<= =D2", "D1!=D2", "D1 < D2", "D1 <D2", "D1< D2", "D1<D2 ", " D1<D2", "D1<R1", "R1<D1", "R1=1", "D1=1.0", "1=1.0", "nan=1", "T1=nan", "5>=0.5",
		"/D1<D2", "+D1<D2:E1", "D1<D2:E1", "D1<:D2", "D1<,D2", "D1,D2", "D1:D2", "D1<+5", "D1<--5", "D1<32768", "D32<D1", "D1<-0", "-0<D1", "R1<-0.00", "D1<", "<D1", "D1<D2<", "D1<D2,", ",D1<D2",
		"timer", "timer:", "timer:T1", "timer:T1,", "timer:,50", "timer:,", "timer:T1,-1", "timer:T1,-32768", "timer:T1,32768", "timer:T1,050", "timer:T1,50,", "timer:,T1,50", "timer:T1,,50", "timer:T1,50,50", "timer::T1,50", "timer:T1:50",
		"timer,T1,50", "timer T1,50", "timer:T1 50", "timer: T1,50", "timer:T1, 50", "timer :T1,50", "timer:T1,50 ", " timer:T1,50", "timer:T1,50\n", "\ttimer:T1,50", "Timer:T1,50", "TIMER:T1,50", "time:T1,50", "timers:T1,50", "/timer:T1,50",
		"timer:C1,50", "timer:T16,50", "timer:T1,D1", "timer:T1,T1", "timer:T1,5.0", "timer:T1,nan", "hold:T1,-1", "hold:C1,5", "late:T1,-1", "late:C1,5", "late:50,T1", "count:C1,-1", "count:T1,5", "count:C1,C2", "count:C1",
		"out", "out:", "out:X0", "out:S0", "out:T0", "out:E0", "out:G0", "out:D0", "out:Y0,", "out:,Y0", "out:Y0,Y1", "out:Y32", "out:/Y0", "out::Y0", "out:out:Y0", "set:X0", "set:T1", "set:C1", "set:E1", "reset:X0", "reset:E1", "reset:D1", "reset:G1", "reset:T1,5",
		"pulse:Y0", "pulse:Y0,Y1", "pulse:S0,E1", "pulse:T0,E1", "pulse:X0,E1", "pulse:Y0:E1", "pulse:E1,Y0", "step:M1", "step:Y1", "step:S16", "step:S1,S2", "step:T1",
		"move:D1", "move:D1,1.5", "move:D1,R1", "move:D1,nan", "move:D1,X0", "move:D1,E0", "move:R1,5", "move:R1,D1", "move:R1,T1", "move:T1,5", "move:C1,5", "move:5,D1", "move:D1,5,5",
		"add:D1,D2", "add:D1,D2,1.0", "add:D1,1.0,D2", "add:D1,R1,R2", "add:R1,D1,D2", "add:R1,R2,5", "add:R1,5,R2", "add:T1,D1,D2", "add:1,2,3", "add:D1,D2,D3,D4", "sub:D1,1,nan", "sub:R1,1.0,1", "mul:D1,inf,1", "mul:R1,1,1", "div:D1,1.5,1.5", "div:R1,0.5,D1",
		"rem:R1,1.0,2.0", "rem:R1,R2,R3", "rem:D1,R2,R3", "rem:D1,1,2.0", "rem:D1,D2", "rem:R1,1,2", "real:R0,1.0", "real:R0,R1", "real:D0,1", "real:R0", "real:R0,X0", "whole:D0,1", "whole:D0,D1", "whole:R0,R1", "whole:D0", "whole:D0,T1",
		"and:X0", "open:X0", "shut:X0", "up:X0,E1", "less:D1,D2", "name:X0", ":X0", ":", ",", "X0,", "X0 ", " X0", "X0\n", "\nX0", "X0\x00", "\x00", "X0X0", "X0 X1", "->", "and(", ")",
		"\xff", "X0\xff", "\xffX0", "/\xff", "/\xffX0", "+X0\xff:E1", "+X0:\xff", "D1\xff<D2", "D1<\xffD2", "D1<\xff", "D1\xff=D2", "\xff:T1,50", "timer:\xff", "timer:T1,\xff", "timer:T1\xff,50", "timer\xff:T1,50", "\xc3\x28", "X0\xe2\x82",
		"\ufffd", "D1\ufffdD2", "D1\u2264D2", "D1\uff1cD2", "D1\u2260D2", "timer\uff1aT1,50", "timer:T1\uff0c50", "\u2212X0:E1", "\uff0bX0:E1", "\u0422imer:T1,50",
		strings.Repeat("/", 100000) + "X0", strings.Repeat("<", 100000), "D1" + strings.Repeat("<D1", 100000), "add:" + strings.Repeat("D1,", 100000), strings.Repeat("timer:", 100000), strings.Repeat(",", 100000), "X" + strings.Repeat("0", 100000),
		"+X0" + strings.Repeat(":E1", 100000), strings.Repeat("\xff", 100000),
	} {
		if e, ok := impl.ElemRead(text); ok || e.Op != 0 || len(e.Args) != 0 {
			t.Errorf("%q: read as %v %v", text, e, ok)
		}
	}
}

// P13, from the text: words and signs one behind the other.
func TestElemReadOfShortTexts(t *testing.T) {
	texts := []string{"", "/", "+", "-", "out:", "reset:", "pulse:", "timer:", "count:", "move:", "add:", "rem:", "real:"}
	for range 4 {
		longer := []string{}
		for _, text := range texts {
			checkElemText(t, text)
			for _, word := range []string{"Y0", "E1", "T1", "D1", "R1", "5", "0.5", "-", ":", ",", "<", "=", ">"} {
				longer = append(longer, text+word)
			}
		}
		texts = longer
	}
}

// P13, from the text: two operands with every run of signs between, and behind every coil's name.
func TestElemReadOfRunsOfSigns(t *testing.T) {
	runs := []string{""}
	for size := 0; size <= 3; size++ {
		longer := []string{}
		for _, run := range runs {
			for _, pair := range [][2]string{{"D1", "-5"}, {"-5", "D1"}, {"R1", "-0.0"}, {"-inf", "nan"}, {"T0", "C0"}, {"D1", "nan"}, {"", "D1"}, {"D1", ""}, {"+X0", "E1"}, {"-X0", "E1"}, {"/X0", "E1"}} {
				checkElemText(t, pair[0]+run+pair[1])
			}
			for _, row := range elemRows() {
				for _, behind := range []string{"", "Y0", "S0", "T1,50", "C1,0", "T1,-1", "D1,D2", "R1,R2", "D1,D2,D3", "R1,R2,R3", "M1,E1"} {
					checkElemText(t, row.name+run+behind)
				}
			}
			for _, sign := range []string{"<", "=", ">", ":", ",", "-", "+", " "} {
				longer = append(longer, run+sign)
			}
		}
		runs = longer
	}
}

// P13, from the text: one byte of a contact's or coil's text is another, one is put in, or one is lost.
func TestElemReadOfSpoiltTexts(t *testing.T) {
	for _, whole := range []string{
		"X0", "/X3", "+X0:E1", "-M63:E31", "D1<D2", "-5<=T1", "C1=32767", "R1<>nan", "-0.0>=-inf", "0.5>R2", "out:Y0", "set:S1", "reset:T1", "pulse:M1,E2", "step:S15", "timer:T1,50", "hold:T1,0", "late:T1,9", "count:C1,2",
		"move:D1,5", "move:R1,0.5", "add:D1,D2,-3", "sub:R1,R2,R3", "mul:D1,1,1", "div:R1,inf,R2", "rem:D1,D2,D3", "real:R1,C2", "whole:D1,R2",
	} {
		checkElemText(t, whole)
		for i := range len(whole) {
			checkElemText(t, whole[:i]+whole[i+1:])
		}
		for i := range len(whole) + 1 {
			for sign := range 256 {
				mid := string([]byte{byte(sign)})
				checkElemText(t, whole[:i]+mid+whole[i:])
				checkElemText(t, whole[:i]+mid+whole[min(i+1, len(whole)):])
			}
		}
	}
}

// Each answer is new memory, its Args too.
func TestElemReadIsNewMemory(t *testing.T) {
	for _, text := range []string{"X0", "+X0:E1", "D1<D2", "out:Y0", "timer:T1,50", "add:D1,D2,D3"} {
		first, _ := impl.ElemRead(text)
		second, _ := impl.ElemRead(text)
		kept := slices.Clone(second.Args)
		room := first.Args[:cap(first.Args)]
		for i := range room {
			room[i] = operand(13, 3, 0)
		}
		third, _ := impl.ElemRead(text)
		if !slices.Equal(second.Args, kept) || !slices.Equal(third.Args, kept) || impl.ElemText(second) != text {
			t.Errorf("%q: %v and %v, not %v", text, second, third, kept)
		}
	}
}

// No argument is written into, nor behind its end.
func TestElemsAreNotWrittenInto(t *testing.T) {
	all := append(sampleOperands(), badOperands()...)
	for _, row := range elemRows() {
		for i := range all {
			room := make([]impl.DevArg, 6)
			for j := range room {
				room[j] = all[(i+j*7)%len(all)].a
			}
			kept := slices.Clone(room)
			for n := range 4 {
				e := impl.Elem{Op: row.op, Args: room[:n]}
				impl.ElemIsContact(e)
				impl.ElemIsCoil(e)
				impl.ElemText(e)
			}
			if !slices.Equal(room, kept) {
				t.Fatalf("%d: %v, not %v", row.op, room, kept)
			}
		}
	}
}
