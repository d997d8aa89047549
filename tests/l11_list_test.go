package tests

import (
	"fmt"
	"math"
	"math/rand"
	"regexp"
	"slices"
	"strings"
	"testing"

	"loop.example/stile/impl"
)

// listRow is a row of the table of chapter 11; one is c where One is a contact, o where it is a coil.
type listRow struct {
	code int
	word string
	one  string
}

func listRows() []listRow {
	return []listRow{
		{1, "ld", "c"}, {2, "and", "c"}, {3, "or", "c"}, {4, "anb", ""}, {5, "orb", ""}, {6, "inv", ""}, {7, "mps", ""}, {8, "mrd", ""}, {9, "mpp", ""}, {10, "coil", "o"}, {11, "end", ""},
	}
}

var instForm = regexp.MustCompile(`^ *([a-z]+)(?: +([^ ]+))? *$`)

// instOf is the instruction of a line, if there is one: its form is asked of a pattern, and its contact or coil of the second reading of chapter 4.
func instOf(line string) (impl.Inst, bool) {
	found := instForm.FindStringSubmatch(line)
	if found == nil {
		return impl.Inst{}, false
	}
	for _, row := range listRows() {
		if row.word != found[1] {
			continue
		}
		op, parts := elemParts(found[2])
		sort := ""
		switch {
		case op > 20:
			sort = "o"
		case op > 0:
			sort = "c"
		}
		i := impl.Inst{Code: row.code, One: impl.Elem{Op: op}}
		for _, part := range parts {
			a, _ := impl.DevRead(part)
			i.One.Args = append(i.One.Args, a)
		}
		return i, sort == row.one && (op > 0) == (found[2] != "")
	}
	return impl.Inst{}, false
}

// listOf is a second reading of the text of a list: the lines with words are counted out ahead, up to one more than there may be.
func listOf(text string) ([]impl.Inst, impl.ListFault) {
	if len(text) > 50000 {
		return nil, impl.ListFault{Code: 1}
	}
	lines, numbers := strings.Split(text, "\n"), []int{}
	for i, line := range lines {
		if strings.Count(line, " ") < len(line) {
			numbers = append(numbers, i+1)
		}
	}
	numbers = numbers[:min(len(numbers), 1001)]
	list := []impl.Inst{}
	for _, n := range numbers {
		i, ok := instOf(lines[n-1])
		if !ok {
			return nil, impl.ListFault{Line: n, Code: 2}
		}
		list = append(list, i)
	}
	if len(list) > 1000 {
		return nil, impl.ListFault{Line: numbers[1000], Code: 3}
	}
	return list, impl.ListFault{}
}

func sameInst(a, b impl.Inst) bool {
	return a.Code == b.Code && sameElem(a.One, b.One)
}

func sameInsts(a, b []impl.Inst) bool {
	return slices.EqualFunc(a, b, sameInst)
}

// instLine is the line of an instruction; the empty text, if it is not ok.
func instLine(i impl.Inst) string {
	for _, row := range listRows() {
		nothing := i.One.Op == 0 && len(i.One.Args) == 0
		switch {
		case row.code != i.Code:
		case row.one == "c" && impl.ElemIsContact(i.One), row.one == "o" && impl.ElemIsCoil(i.One):
			return row.word + " " + impl.ElemText(i.One)
		case row.one == "" && nothing:
			return row.word
		}
	}
	return ""
}

// instSure is an instruction with a contact or coil that has this text, or with nothing.
func instSure(code int, one string) impl.Inst {
	if one == "" {
		return impl.Inst{Code: code}
	}
	return impl.Inst{Code: code, One: elemSure(one)}
}

// goodInsts are instructions of each Code, with contacts and coils of every sort where they have one.
func goodInsts() []impl.Inst {
	list := []impl.Inst{}
	contacts, coils := contactsAndCoils()
	for _, row := range listRows() {
		for _, one := range map[string][]string{"c": contacts, "o": coils, "": {""}}[row.one] {
			list = append(list, instSure(row.code, one))
		}
	}
	return list
}

func noCodes() []int {
	return []int{math.MinInt, -1 << 32, -256, -12, -11, -10, -2, -1, 0, 12, 13, 14, 21, 22, 100, 255, 256, 257, 266, 267, 1 << 16, 1<<16 + 1, 1<<32 + 1, 1<<32 + 10, math.MaxInt}
}

// badInsts are not ok.
func badInsts() []impl.Inst {
	list := []impl.Inst{}
	contacts, coils := contactsAndCoils()
	for _, code := range noCodes() {
		list = append(list, instSure(code, ""), instSure(code, "X0"), instSure(code, "out:Y0"))
	}
	for _, row := range listRows() {
		wrong := []impl.Elem{}
		switch row.one {
		case "c":
			wrong = append(wrongContacts(), elemsSure(coils)...)
		case "o":
			wrong = append(wrongCoils(), elemsSure(contacts)...)
		default:
			wrong = append(elemsSure(append(contacts, coils...)), impl.Elem{Op: 1}, impl.Elem{Op: 21}, impl.Elem{Op: -1}, impl.Elem{Op: 256}, impl.Elem{Op: 1 << 32}, impl.Elem{Op: math.MinInt},
				impl.Elem{Args: []impl.DevArg{{}}}, impl.Elem{Args: []impl.DevArg{operand(1, 0, 0)}}, impl.Elem{Args: []impl.DevArg{{}, {}, {}}}, impl.Elem{Op: 1, Args: []impl.DevArg{}})
		}
		for _, one := range wrong {
			list = append(list, impl.Inst{Code: row.code, One: one})
		}
	}
	return list
}

func elemsSure(texts []string) []impl.Elem {
	list := []impl.Elem{}
	for _, text := range texts {
		list = append(list, elemSure(text))
	}
	return list
}

// checkInst holds what is said of an instruction against the table, alone and as a list.
func checkInst(t *testing.T, i impl.Inst) {
	t.Helper()
	line := instLine(i)
	if ok := impl.ListOk(i); ok != (line != "") {
		t.Errorf("%v: ok %v, but %q", i, ok, line)
	}
	if got := impl.ListLine(i); got != line {
		t.Errorf("%v: written as %q, not %q", i, got, line)
	}
	checkInsts(t, []impl.Inst{i})
}

// checkInsts asks for P36 of a list, ok or not.
func checkInsts(t *testing.T, list []impl.Inst) {
	t.Helper()
	want, ok := "", len(list) <= 1000
	for _, i := range list[:min(len(list), 1001)] {
		want, ok = want+instLine(i)+"\n", ok && instLine(i) != ""
	}
	text := impl.ListText(list)
	if !ok {
		if text != "" {
			t.Errorf("%d instructions: written as %s", len(list), brief(text))
		}
		return
	}
	if text != want {
		t.Errorf("%d instructions: written as %s, not %s", len(list), brief(text), brief(want))
	}
	read, f := impl.ListParse(text)
	if f != (impl.ListFault{}) || !sameInsts(read, list) || !impl.ListSame(read, list) || !impl.ListSame(list, read) {
		t.Errorf("%s: read as %d instructions and %v", brief(text), len(read), f)
	}
	if again := impl.ListText(read); again != text {
		t.Errorf("%s: written once more as %s", brief(text), brief(again))
	}
}

// checkListText holds what is read of a text against the second reading, and asks for P36 and P37.
func checkListText(t *testing.T, text string) {
	t.Helper()
	list, f := impl.ListParse(text)
	want, fault := listOf(text)
	if f != fault || !sameInsts(list, want) {
		t.Errorf("%s: %d instructions and %v, not %d and %v", brief(text), len(list), f, len(want), fault)
		return
	}
	if f == (impl.ListFault{}) {
		if again := impl.ListText(list); again != tidied(text) || len(list) > 1000 {
			t.Errorf("%s: %d instructions, written as %s", brief(text), len(list), brief(again))
		}
		for _, i := range list {
			if !impl.ListOk(i) {
				t.Errorf("%s: read, but %v is not ok", brief(text), i)
			}
		}
		return
	}
	lines := append([]string{""}, strings.Split(text, "\n")...)
	if f.Code < 1 || f.Code > 3 || (f.Line == 0) != (f.Code == 1) || f.Line < 0 || f.Line >= len(lines) || f.Line > 0 && len(wordsOf(lines[f.Line])) == 0 {
		t.Errorf("%s: %v, with %d lines", brief(text), f, len(lines)-1)
	}
}

// checkListFault asks for a fault and for no list beside it.
func checkListFault(t *testing.T, text string, line, code int) {
	t.Helper()
	if list, f := impl.ListParse(text); f != (impl.ListFault{Line: line, Code: code}) || len(list) != 0 {
		t.Errorf("%s: %v and %d instructions, not %d in line %d", brief(text), f, len(list), code, line)
	}
	checkListText(t, text)
}

// checkListRead asks for a list.
func checkListRead(t *testing.T, text string, list []impl.Inst) {
	t.Helper()
	if read, f := impl.ListParse(text); f != (impl.ListFault{}) || !sameInsts(read, list) {
		t.Errorf("%s: read as %d instructions and %v, not %d", brief(text), len(read), f, len(list))
	}
	checkListText(t, text)
}

func TestListConstants(t *testing.T) {
	for i, code := range []int{impl.ListLd, impl.ListAnd, impl.ListOr, impl.ListAnb, impl.ListOrb, impl.ListInv, impl.ListMps, impl.ListMrd, impl.ListMpp, impl.ListCoil, impl.ListEnd} {
		if code != i+1 {
			t.Errorf("the instruction in place %d: %d", i, code)
		}
	}
	if impl.ListLong != 1 || impl.ListBad != 2 || impl.ListMany != 3 || impl.ListMaxList != 1000 || impl.ListMaxText != 50000 {
		t.Error("codes and bounds of lists")
	}
}

func TestListWords(t *testing.T) {
	for _, row := range listRows() {
		if word := impl.ListWord(row.code); word != row.word {
			t.Errorf("%d: %q, not %q", row.code, word, row.word)
		}
	}
	for _, code := range noCodes() {
		if word := impl.ListWord(code); word != "" {
			t.Errorf("%d: %q", code, word)
		}
	}
	for code := 12; code < 3000; code++ {
		if impl.ListWord(code) != "" || impl.ListWord(-code) != "" {
			t.Errorf("%d: %q and %q", code, impl.ListWord(code), impl.ListWord(-code))
		}
	}
}

// writtenInst is an instruction and the line that it is written as.
type writtenInst struct {
	line string
	inst impl.Inst
}

func writtenInsts() []writtenInst {
	x, y, m, e, tm, c, d, r := operand(1, 31, 0), operand(2, 0, 0), operand(3, 63, 0), operand(5, 1, 0), operand(7, 1, 0), operand(8, 15, 0), operand(9, 1, 0), operand(10, 2, 0)
	with := func(code, op int, args ...impl.DevArg) impl.Inst {
		return impl.Inst{Code: code, One: impl.Elem{Op: op, Args: args}}
	}
	return []writtenInst{
		{"ld X31", with(1, 1, x)}, {"and X31", with(2, 1, x)}, {"or X31", with(3, 1, x)}, {"anb", with(4, 0)}, {"orb", with(5, 0)}, {"inv", with(6, 0)}, {"mps", with(7, 0)}, {"mrd", with(8, 0)}, {"mpp", with(9, 0)},
		{"coil out:Y0", with(10, 21, y)}, {"end", with(11, 0)}, {"ld /M63", with(1, 2, m)}, {"and +X31:E1", with(2, 3, x, e)}, {"or -T1:E1", with(3, 4, tm, e)},
		{"ld D1<5", with(1, 5, d, operand(11, 5, 0))}, {"and -32768<=C15", with(2, 6, operand(11, -32768, 0), c)}, {"or R2=nan", with(3, 7, r, operand(13, 0, 0))}, {"ld -0.0<>-0.5", with(1, 8, operand(13, 3, 0), operand(12, -5, 1))},
		{"and T1>=D1", with(2, 9, tm, d)}, {"or -inf>inf", with(3, 10, operand(13, 2, 0), operand(13, 1, 0))}, {"coil set:M63", with(10, 22, m)}, {"coil reset:C15", with(10, 23, c)}, {"coil pulse:Y0,E1", with(10, 24, y, e)}, {"coil step:S15", with(10, 25, operand(4, 15, 0))},
		{"coil timer:T1,50", with(10, 26, tm, operand(11, 50, 0))}, {"coil hold:T1,0", with(10, 27, tm, operand(11, 0, 0))}, {"coil late:T1,32767", with(10, 28, tm, operand(11, 32767, 0))}, {"coil count:C15,2", with(10, 29, c, operand(11, 2, 0))},
		{"coil move:D1,-7", with(10, 30, d, operand(11, -7, 0))}, {"coil move:R2,0.5", with(10, 30, r, operand(12, 5, 1))}, {"coil add:D1,T1,C15", with(10, 31, d, tm, c)}, {"coil sub:R2,R2,nan", with(10, 32, r, r, operand(13, 0, 0))},
		{"coil mul:D1,D1,D1", with(10, 33, d, d, d)}, {"coil div:R2,-99999999.9,0.000001", with(10, 34, r, operand(12, -999999999, 1), operand(12, 1, 6))}, {"coil rem:D1,D1,3", with(10, 35, d, d, operand(11, 3, 0))}, {"coil real:R2,T1", with(10, 36, r, tm)}, {"coil whole:D1,R2", with(10, 37, d, r)},
	}
}

// P36, by instructions that are written out here: alone, and all behind each other.
func TestListsWrittenOut(t *testing.T) {
	text, list := "", []impl.Inst{}
	for _, w := range writtenInsts() {
		if got := impl.ListLine(w.inst); got != w.line || !impl.ListOk(w.inst) {
			t.Errorf("%v: ok %v, written as %q, not %q", w.inst, impl.ListOk(w.inst), got, w.line)
		}
		checkInst(t, w.inst)
		checkListRead(t, w.line, []impl.Inst{w.inst})
		checkListRead(t, w.line+"\n", []impl.Inst{w.inst})
		text, list = text+w.line+"\n", append(list, w.inst)
		if got := impl.ListText(list); got != text {
			t.Errorf("written as %q, not %q", got, text)
		}
		checkListRead(t, text, list)
		checkListRead(t, strings.TrimSuffix(text, "\n"), list)
	}
}

// P36 of each Code with all that may stand in One, and with all that may not.
func TestEachInstruction(t *testing.T) {
	good, bad := goodInsts(), badInsts()
	if len(good) != 3*16+22+7 || len(bad) < 300 {
		t.Fatalf("%d and %d instructions", len(good), len(bad))
	}
	for _, i := range good {
		if !impl.ListOk(i) || impl.ListLine(i) == "" {
			t.Errorf("%v: ok %v, %q", i, impl.ListOk(i), impl.ListLine(i))
		}
		checkInst(t, i)
	}
	for _, i := range bad {
		if impl.ListOk(i) || impl.ListLine(i) != "" || impl.ListText([]impl.Inst{i}) != "" {
			t.Errorf("%v: ok %v, %q, %q", i, impl.ListOk(i), impl.ListLine(i), impl.ListText([]impl.Inst{i}))
		}
		checkInst(t, i)
	}
	// Nothing is nothing, with an empty list of operands too, and with room behind it.
	for _, row := range listRows() {
		for _, args := range [][]impl.DevArg{nil, {}, make([]impl.DevArg, 0, 3), []impl.DevArg{operand(1, 0, 0)}[:0]} {
			i := impl.Inst{Code: row.code, One: impl.Elem{Args: args}}
			if line := impl.ListLine(i); impl.ListOk(i) != (row.one == "") || line != "" && line != row.word {
				t.Errorf("%v: ok %v, %q", i, impl.ListOk(i), line)
			}
			checkInst(t, i)
		}
	}
}

// Each Code, known or not, with each One of many, fit or not.
func TestEachCodeWithEachOne(t *testing.T) {
	contacts, coils := contactsAndCoils()
	ones := slices.Concat([]impl.Elem{{}}, elemsSure(contacts), elemsSure(coils), wrongContacts(), wrongCoils())
	for _, one := range ones {
		for code := -3; code < 25; code++ {
			checkInst(t, impl.Inst{Code: code, One: one})
		}
		for _, code := range noCodes() {
			checkInst(t, impl.Inst{Code: code, One: one})
		}
	}
}

// anyInsts is a list by chance, of always the same chances.
func anyInsts(r *rand.Rand, count int) []impl.Inst {
	good, list := goodInsts(), []impl.Inst{}
	for range count {
		list = append(list, good[r.Intn(len(good))])
	}
	return list
}

// P36 of lists by chance, and of those in which one instruction is not ok.
func TestListsBothWays(t *testing.T) {
	r, bad := rand.New(rand.NewSource(36)), badInsts()
	for range 400 {
		list := anyInsts(r, r.Intn(30))
		checkInsts(t, list)
		checkListText(t, impl.ListText(list))
		if len(list) > 0 {
			list[r.Intn(len(list))] = bad[r.Intn(len(bad))]
			if text := impl.ListText(list); text != "" {
				t.Errorf("%v: written as %q", list, text)
			}
		}
	}
}

// A list is not written if one of it is not ok, wherever that stands; not even its good ones are.
func TestListsThatAreNotWritten(t *testing.T) {
	good := instSure(1, "X0")
	for _, i := range badInsts() {
		for _, list := range [][]impl.Inst{{i}, {good, i}, {i, good}, {good, i, good}, append(slices.Repeat([]impl.Inst{good}, 999), i)} {
			if text := impl.ListText(list); text != "" {
				t.Errorf("%v: written as %s", i, brief(text))
			}
		}
	}
}

// Without instructions there is no text, and without words no instruction and no fault.
func TestListsOfNothing(t *testing.T) {
	for _, list := range [][]impl.Inst{nil, {}, make([]impl.Inst, 0, 3), mixedInsts()[:0]} {
		if text := impl.ListText(list); text != "" {
			t.Errorf("written as %q", text)
		}
		if !impl.ListSame(list, nil) || !impl.ListSame(nil, list) || !impl.ListSame(list, []impl.Inst{}) || impl.ListSame(list, []impl.Inst{{}}) || impl.ListSame([]impl.Inst{{}}, list) {
			t.Error("the empty list")
		}
	}
	for _, text := range wordless(50000) {
		list, f := impl.ListParse(text)
		if len(list) != 0 || f != (impl.ListFault{}) {
			t.Errorf("%s: %v and %v", brief(text), list, f)
		}
		checkListText(t, text)
	}
}

// Spaces and lines without words count for nothing, wherever they stand.
func TestSpacesInLists(t *testing.T) {
	for i, w := range writtenInsts() {
		other := writtenInsts()[(i+1)%len(writtenInsts())]
		for _, text := range spaced(w.line) {
			checkListRead(t, text, []impl.Inst{w.inst})
		}
		for _, text := range spacedTwo(w.line, other.line) {
			checkListRead(t, text, []impl.Inst{w.inst, other.inst})
		}
	}
	for _, count := range []int{1, 2, 3, 7, 8, 255, 256, 257, 20000} {
		space := strings.Repeat(" ", count)
		checkListRead(t, "ld"+space+"X0", []impl.Inst{instSure(1, "X0")})
		checkListRead(t, space+"end", []impl.Inst{instSure(11, "")})
		checkListRead(t, "end"+space, []impl.Inst{instSure(11, "")})
		checkListFault(t, "end"+space+"X0", 1, 2)
		checkListFault(t, "ld X0"+space+"X0", 1, 2)
		checkListFault(t, "ld X0 "+space+"?"+space, 1, 2)
	}
}

// P36 and P37 at the bound of instructions.
func TestListMaxList(t *testing.T) {
	r := rand.New(rand.NewSource(1000))
	for _, count := range []int{1, 2, 999, 1000} {
		list := anyInsts(r, count)
		text := impl.ListText(list)
		if text == "" {
			t.Errorf("%d instructions: not written", count)
		}
		checkInsts(t, list)
		checkListRead(t, text, list)
		checkListRead(t, "\n \n"+strings.ReplaceAll(text, "\n", " \n\n"), list)
	}
	for _, count := range []int{1001, 1002, 1256, 2000, 66536, 1000000} {
		list := slices.Repeat([]impl.Inst{instSure(6, "")}, count)
		if text := impl.ListText(list); text != "" {
			t.Errorf("%d instructions: written as %s", count, brief(text))
		}
	}
	most := strings.Repeat("inv\n", 1000)
	checkListRead(t, most+"\n   \n\n", slices.Repeat([]impl.Inst{instSure(6, "")}, 1000))
	for _, w := range writtenInsts() {
		checkListFault(t, most+w.line, 1001, 3)
		checkListFault(t, w.line+"\n"+most, 1001, 3)
	}
	checkListFault(t, most+"\n \ninv\n", 1003, 3)
	checkListFault(t, "\n\n"+most+"inv", 1003, 3)
	checkListFault(t, most+most, 1001, 3)
	checkListFault(t, strings.Repeat("\n inv", 1001), 1002, 3)
	checkListFault(t, strings.Repeat("inv\n", 12500), 1001, 3)
}

// The longest of all lists that are ok has fewer bytes than a text may have, so that it is read.
func TestLongestList(t *testing.T) {
	list := slices.Repeat([]impl.Inst{instSure(10, "div:R15,-999.999999,-99999999.9")}, 1000)
	if text := impl.ListText(list); text != strings.Repeat("coil div:R15,-999.999999,-99999999.9\n", 1000) {
		t.Errorf("written as %s", brief(text))
	}
	checkInsts(t, list)
}

// P37 at the bound of bytes; with too many of them nothing else is told.
func TestListMaxText(t *testing.T) {
	for _, with := range []string{" ", "\n", "  \n", " \n\n"} {
		for _, text := range append(padded("ld X0", with, 50000), padded("ld X0\n", with, 49999)...) {
			checkListRead(t, text, []impl.Inst{instSure(1, "X0")})
		}
		for _, size := range []int{50001, 50002, 50000 + 256, 50000 + 65536, 1000000} {
			for _, line := range []string{"", "ld X0", "ld", "?", "end end", "\x00\xff"} {
				for _, text := range padded(line, with, size) {
					checkListFault(t, text, 0, 1)
				}
			}
		}
	}
	for _, text := range padded("ld X0 ?", " ", 50000) {
		checkListFault(t, text, 1, 2)
	}
	checkListFault(t, strings.Repeat("\n", 49999)+"?", 50000, 2)
	checkListFault(t, strings.Repeat("\n", 50000)+"?", 0, 1)
	checkListFault(t, "?"+strings.Repeat("\n", 50000), 0, 1)
	checkListFault(t, strings.Repeat("?", 50000), 1, 2)
	checkListFault(t, strings.Repeat("?", 50001), 0, 1)
	// Too long goes ahead of too many, and of wrong lines behind these.
	checkListFault(t, strings.Repeat("inv\n", 12501), 0, 1)
	checkListFault(t, strings.Repeat("ld X0\n?\n", 6251), 0, 1)
	// Bytes are counted, not runes.
	checkListFault(t, strings.Repeat("\u00e4", 25000), 1, 2)
	checkListFault(t, strings.Repeat("\u00e4", 25000)+" ", 0, 1)
}

// badLines are no instructions.
func badLines() []string {
	return []string{
		// Words that are none, or none here.
		"?", "x", "l", "ldd", "LD X0", "Ld X0", "lD X0", "ldX0", "ld/X0", "ld:X0", "ld,X0", "ldi X0", "ldn X0", "load X0", "an X0", "nd X0", "AND X0", "And X0", "OR X0", "orr X0", "xor X0", "not X0", "not", "and( X0 )", "or( X0 )", "ANB", "andb", "ORB", "INV", "inv.", "invert", "MPS", "MRD", "MPP", "mp", "pop", "COIL out:Y0", "coils out:Y0", "out Y0", "out:Y0", "set:M1", "END", "ends", "en", "nop", "ret", "X0", "/X0", "X0 ld", "out:Y0 coil", "-> out:Y0", "X0 -> out:Y0", "ld0 X0", "1 X0", "1", "11", "0", "#", "// ld X0", "; ld X0", "ld;", "end;", "end.", "e nd", "l d X0", "\"ld\" X0",
		// No contact or coil where one is asked.
		"ld", "and", "or", "coil",
		// Something behind a word that takes nothing.
		"anb X0", "orb X0", "inv X0", "mps X0", "mrd X0", "mpp X0", "end X0", "anb out:Y0", "orb out:Y0", "inv out:Y0", "mps out:Y0", "mrd out:Y0", "mpp out:Y0", "end out:Y0", "anb ?", "orb ?", "inv ?", "mps ?", "mrd ?", "mpp ?", "end ?", "end end", "inv inv", "mps mrd", "anb anb", "end 0", "end E0", "inv D1", "mpp nan", "end ,", "end :", "end /", "inv X32", "orb x0", "mps \x00", "end X0 X1", "inv ? ?",
		// One too many behind a word that takes one.
		"ld X0 X1", "ld X0 X0", "and X0 X1", "or X0 X1", "coil out:Y0 out:Y1", "ld X0 ?", "and X0 ?", "or X0 ?", "coil out:Y0 ?", "ld X0 end", "coil out:Y0 end", "ld ld X0", "ld ld", "coil coil out:Y0", "ld and X0", "ld X0 X1 X2", "ld X0 ? ? ?", "? ld X0", "? ? ld X0", "coil out:Y0 X0", "ld X0 out:Y0", "ld X0 #", "ld X0 ;",
		// A coil in the place of a contact, and the other way round.
		"ld out:Y0", "and set:M1", "or reset:T1", "ld timer:T1,50", "and add:D1,D2,D3", "coil X0", "coil /X0", "coil +X0:E1", "coil D1<5", "coil -0.0<>nan",
		// Contacts and coils that are not ok, and operands by themselves.
		"ld X32", "ld x0", "ld X01", "ld X", "ld E1", "ld D1", "ld 5", "ld 5.0", "ld nan", "ld //X0", "ld / X0", "ld +X0", "ld +X0:E32", "ld D1<R1", "ld D1 < D2", "ld D1< D2", "ld D1 <D2", "ld D1==D2", "and T16", "or S16", "coil out:X0", "coil out:Y32", "coil out", "coil out:", "coil :Y0", "coil Y0", "coil out Y0", "coil out: Y0", "coil out :Y0", "coil out:Y0,", "coil out:Y0,E1", "coil timer:T1,-1", "coil timer:T1, 50", "coil timer:T1 ,50", "coil timer:T1", "coil pulse:Y0", "coil rem:R1,R2,R3", "coil step:M1", "coil Out:Y0", "ld X0,", "ld X0;", "ld (X0)", "ld \"X0\"", "ld -> out:Y0", "ld ->", "ld [",
	}
}

// checkListLine asks for ListBad of a line as the first, a middle and the last of several.
func checkListLine(t *testing.T, line string) {
	t.Helper()
	checkListFault(t, line, 1, 2)
	checkListFault(t, "  "+line+" \n", 1, 2)
	checkListFault(t, "\n \n"+line, 3, 2)
	checkListFault(t, strings.ReplaceAll(line, " ", "   "), 1, 2)
	for text, at := range textsAt(line, "coil out:Y0") {
		checkListFault(t, text, at, 2)
		checkListFault(t, text+"\n", at, 2)
	}
}

// P37: what is no instruction is told at its line, counted over all lines; of several the first is.
func TestBadLines(t *testing.T) {
	lines := badLines()
	for i, line := range lines {
		checkListLine(t, line)
		checkListFault(t, "end\n\n"+line+"\n"+lines[(i+7)%len(lines)], 3, 2)
	}
}

// Each contact and coil behind each word, alone and with another one.
func TestEachWordWithEachOne(t *testing.T) {
	contacts, coils := contactsAndCoils()
	for _, row := range listRows() {
		for _, one := range append(contacts, coils...) {
			line := row.word + " " + one
			if row.one == "c" && slices.Contains(contacts, one) || row.one == "o" && slices.Contains(coils, one) {
				checkListRead(t, line, []impl.Inst{instSure(row.code, one)})
			} else {
				checkListFault(t, line, 1, 2)
			}
			for _, wrong := range []string{line + " " + one, line + " X0", line + " ?", one + " " + row.word, one, row.word + one, row.word + "\t" + one} {
				checkListFault(t, wrong, 1, 2)
			}
		}
		if row.one == "" {
			checkListRead(t, row.word, []impl.Inst{{Code: row.code}})
		} else {
			checkListFault(t, row.word, 1, 2)
		}
	}
}

// P37: beyond the last instruction that there may be, a line that is wrong is told as wrong, and one that is right as one too many.
func TestBeyondTheLastInstruction(t *testing.T) {
	most := strings.Repeat("inv\n", 1000)
	for _, line := range badLines() {
		checkListFault(t, most+line, 1001, 2)
	}
	for _, line := range badLines()[:20] {
		checkListFault(t, most+"\n  \n"+line+"\nend", 1003, 2)
		checkListFault(t, most+"end\n"+line, 1001, 3)
		checkListFault(t, most+"\nend\n\n"+line, 1002, 3)
		checkListFault(t, line+"\n"+most+"end", 1, 2)
		checkListFault(t, strings.Repeat("inv\n", 999)+line+"\n"+most, 1000, 2)
		checkListFault(t, strings.Repeat("inv\n\n", 500)+line+"\n"+most, 1001, 2)
	}
}

// Words alone are parted by spaces: no other byte does it, and none is passed over.
func TestOddBytesInLists(t *testing.T) {
	for _, odd := range oddBytes() {
		for _, text := range []string{
			odd, "ld" + odd + "X0", "ld" + odd + " X0", "ld " + odd + "X0", "ld " + odd + " X0", odd + "ld X0", odd + " ld X0", "ld X0" + odd, "ld X0 " + odd, "l" + odd + "d X0", "ld X" + odd + "0",
			"end" + odd, "end " + odd, odd + "end", odd + " end", "e" + odd + "nd", "coil out:" + odd + "Y0", "coil out" + odd + "Y0", "coil" + odd + "out:Y0",
		} {
			checkListText(t, text)
			checkListText(t, "end\n"+text+"\nend")
		}
	}
	for _, odd := range []string{"\t", "\r", "\x00", "\v", "\f", "\x7f", "\x80", "\xff", "\xa0", "\u00a0", "\u0085", "\u2003", "\u2028", "\u3000", "\ufeff", "\ufffd", "\xc0\xa0", "\xe2\x80", "\xc3"} {
		for _, line := range []string{odd, "ld" + odd + "X0", "ld" + odd + " X0", "ld " + odd + "X0", "ld " + odd + " X0", odd + "ld X0", odd + " ld X0", "ld X0" + odd, "ld X0 " + odd, "end" + odd, "end " + odd, odd + "end", odd + " end"} {
			checkListFault(t, line, 1, 2)
			checkListFault(t, "end\n\n"+line+"\nend", 3, 2)
		}
		checkListFault(t, "end"+odd+"\nend"+odd+"\n", 1, 2)
		checkListFault(t, "end\n"+odd+"\nend", 2, 2)
	}
}

// Each text of a few words and newlines, right or wrong.
func TestShortLists(t *testing.T) {
	words, texts, read := []string{"ld", "inv", "coil", "X0", "out:Y0", "\n", "?"}, []string{""}, 0
	for range 5 {
		longer := []string{}
		for _, text := range texts {
			for _, word := range words {
				longer = append(longer, text+" "+word)
			}
		}
		texts = longer
		for _, text := range texts {
			checkListText(t, text)
			if _, f := impl.ListParse(text); f.Code == 0 {
				read++
			}
		}
	}
	if read < 50 {
		t.Errorf("%d texts are read", read)
	}
}

// Each word of a few letters, alone and with something behind it; three letters and less have all words but one.
func TestShortWordsOfLists(t *testing.T) {
	last, read := []string{""}, 0
	for range 3 {
		longer := []string{}
		for _, word := range last {
			for _, letter := range strings.Split("a b d e i l m n o p r s v A X 0 /", " ") {
				longer = append(longer, word+letter)
			}
		}
		last = longer
		for _, word := range last {
			for _, behind := range []string{"", " X0", " out:Y0"} {
				want, f := listOf(word + behind)
				list, fault := impl.ListParse(word + behind)
				if f != fault || !sameInsts(list, want) {
					t.Errorf("%q: %v and %v, not %v and %v", word+behind, list, fault, want, f)
				}
				read += len(list)
			}
		}
	}
	if read != 10 {
		t.Errorf("%d lines are read", read)
	}
}

// P37 of texts that are cut, or have a byte changed, put in or taken out.
func TestSpoiltLists(t *testing.T) {
	for _, text := range []string{"ld /X1\nand D1<5\nmps\ncoil out:Y0\nmpp\ncoil timer:T1,50\nend\n", "  ld   +X1:E1 \n\n or  R1>=-0.5\nanb\n orb \ninv\nmrd"} {
		for _, other := range spoilt(text, "\u00a0", "0", "1", "X", "d", "n", ":", ",", "<", "/", "-") {
			checkListText(t, other)
		}
	}
}

// Texts by chance, of always the same chances.
func TestAnyListTexts(t *testing.T) {
	r, read, wrong := rand.New(rand.NewSource(37)), 0, 0
	lines := []string{"ld X0", "and /M1", "or D1<5", "anb", "orb", "inv", "mps", "mrd", "mpp", "coil out:Y0", "coil timer:T1,50", "end", "", " ", "  "}
	for range 3000 {
		text := ""
		for range r.Intn(20) {
			line := lines[r.Intn(len(lines))]
			if r.Intn(40) == 0 {
				line = badLines()[r.Intn(len(badLines()))]
			}
			ends := []string{"", "", " ", "   "}
			text += ends[r.Intn(4)] + strings.ReplaceAll(line, " ", " "+ends[r.Intn(4)]) + ends[r.Intn(4)] + "\n"
		}
		text = text[:max(len(text)-r.Intn(3), 0)]
		checkListText(t, text)
		if _, f := impl.ListParse(text); f.Code == 0 {
			read++
		} else {
			wrong++
		}
	}
	if read < 500 || wrong < 500 {
		t.Errorf("%d texts are read, %d are wrong", read, wrong)
	}
}

func cloneInsts(list []impl.Inst) []impl.Inst {
	other := slices.Clone(list)
	for i := range other {
		other[i].One.Args = slices.Clone(other[i].One.Args)
	}
	return other
}

// changedInsts are lists that part from this one in one part alone; a few are still the same.
func changedInsts(list []impl.Inst) [][]impl.Inst {
	all := [][]impl.Inst{cloneInsts(list), turned(cloneInsts(list)), list[:len(list)-1], list[1:], append(cloneInsts(list), list[0]), append(cloneInsts(list), impl.Inst{}), append([]impl.Inst{{}}, list...)}
	put := func(change func(other []impl.Inst)) {
		other := cloneInsts(list)
		change(other)
		all = append(all, other)
	}
	for i, inst := range list {
		for _, code := range []int{0, -1, inst.Code + 1, inst.Code - 1, inst.Code + 256, inst.Code + 1<<32, -inst.Code} {
			put(func(other []impl.Inst) { other[i].Code = code })
		}
		for _, change := range elemChanges() {
			put(func(other []impl.Inst) { change(&other[i].One) })
		}
		put(func(other []impl.Inst) { other[i].One.Op += 1 << 32 })
		put(func(other []impl.Inst) { other[i].One.Args = append(other[i].One.Args, operand(1, 0, 0)) })
		for j := range inst.One.Args {
			for _, change := range argChanges() {
				put(func(other []impl.Inst) { change(&other[i].One.Args[j]) })
			}
		}
	}
	return all
}

func mixedInsts() []impl.Inst {
	return []impl.Inst{instSure(1, "X0"), instSure(2, "+X1:E1"), instSure(6, ""), instSure(10, "add:D1,D2,5"), instSure(11, "")}
}

// ListSame of each two of many lists, ok or not, of which most part in one part alone.
func TestListSameOfEachTwo(t *testing.T) {
	lists, same, unlike := changedInsts(mixedInsts()), 0, 0
	lists = append(lists, nil, []impl.Inst{{}}, []impl.Inst{{}, {}}, slices.Repeat(mixedInsts(), 2))
	for _, a := range lists {
		if !impl.ListSame(a, cloneInsts(a)) || !impl.ListSame(a, a) {
			t.Errorf("%v: not itself", a)
		}
		for _, b := range lists {
			// What is printed of two lists is the same just if all their parts are.
			want := fmt.Sprint(a) == fmt.Sprint(b)
			if got := impl.ListSame(a, b); got != want {
				t.Errorf("%v and %v: %v", a, b, got)
			}
			if want {
				same++
			} else {
				unlike++
			}
		}
	}
	if same < 100 || unlike < 5000 {
		t.Errorf("%d the same, %d not", same, unlike)
	}
}

// ListSame looks at each part of lists of any length, and does not ask whether they are ok; the empty list of operands is the nil one.
func TestListSameOfLongLists(t *testing.T) {
	for _, count := range []int{1, 2, 1000, 1001, 5000} {
		list := slices.Repeat([]impl.Inst{instSure(1, "X0")}, count)
		for _, at := range []int{0, count / 2, count - 1} {
			other := cloneInsts(list)
			if !impl.ListSame(list, other) {
				t.Errorf("%d instructions: not the same", count)
			}
			other[at].One.Args[0].N++
			if impl.ListSame(list, other) || impl.ListSame(other, list) {
				t.Errorf("%d instructions: the same but for %d", count, at)
			}
		}
		if impl.ListSame(list, list[:count-1]) || impl.ListSame(list[1:], list) || !impl.ListSame(list[1:], list[:count-1]) {
			t.Errorf("%d instructions, and one less", count)
		}
	}
	for _, code := range []int{0, 1, 6, 10, 99} {
		for _, op := range []int{0, 1, 21, -5} {
			a, b := impl.Inst{Code: code, One: impl.Elem{Op: op}}, impl.Inst{Code: code, One: impl.Elem{Op: op, Args: []impl.DevArg{}}}
			c := impl.Inst{Code: code, One: impl.Elem{Op: op, Args: []impl.DevArg{operand(1, 0, 0)}[:0]}}
			if !impl.ListSame([]impl.Inst{a}, []impl.Inst{b}) || !impl.ListSame([]impl.Inst{b}, []impl.Inst{c}) || !impl.ListSame([]impl.Inst{c}, []impl.Inst{a}) {
				t.Errorf("%v: empty operands are not nil ones", a)
			}
		}
	}
}

// checkOwnMemory asks that no two of these lists, nor of those in them, share any memory, not even in their spare room; it writes into all of them.
func checkOwnMemory(t *testing.T, lists ...[]impl.Inst) {
	t.Helper()
	want := [][]impl.Inst{}
	for _, list := range lists {
		want = append(want, cloneInsts(list))
	}
	for _, list := range lists {
		for i := len(list); i < cap(list); i++ {
			list[:cap(list)][i] = instSure(10, "out:Y9")
		}
		for _, i := range list {
			for j := len(i.One.Args); j < cap(i.One.Args); j++ {
				i.One.Args[:cap(i.One.Args)][j] = operand(1, 9, 0)
			}
		}
	}
	if !slices.EqualFunc(lists, want, sameInsts) {
		t.Errorf("lists share their spare room: %v", lists)
	}
	number := 0
	for at, list := range lists {
		for i := range list {
			number++
			list[i].Code, want[at][i].Code = number, number
			for j := range list[i].One.Args {
				number++
				list[i].One.Args[j], want[at][i].One.Args[j] = operand(1, number, 0), operand(1, number, 0)
			}
		}
	}
	if !slices.EqualFunc(lists, want, sameInsts) {
		t.Errorf("lists share memory: %v", lists)
	}
}

// What is read is new memory, and no later answer sees what was written into it.
func TestListParseIsNewMemory(t *testing.T) {
	text := ""
	for _, w := range writtenInsts() {
		text += w.line + "\n" + w.line + "\n"
	}
	want, _ := listOf(text)
	list, _ := impl.ListParse(text)
	if !sameInsts(list, want) {
		t.Errorf("read as %v", list)
	}
	checkOwnMemory(t, list)
	checkListRead(t, text, want)
}

// withRoomBehind is the same list in other memory, with something behind the ends of all lists in it.
func withRoomBehind(list []impl.Inst) []impl.Inst {
	other := roomy(cloneInsts(list), instSure(10, "out:Y9"))
	for i := range other {
		other[i].One.Args = roomy(other[i].One.Args, operand(1, 9, 0))
	}
	return other
}

// roomsBehind is all that stands in a list and behind the ends of the lists in it.
func roomsBehind(list []impl.Inst) string {
	text := fmt.Sprint(list[:cap(list)])
	for _, i := range list {
		text += fmt.Sprint(i.One.Args[:cap(i.One.Args)])
	}
	return text
}

// No argument is written into, nor behind its end; what stands behind counts for nothing; nothing is kept from call to call.
func TestListsAreNotWrittenInto(t *testing.T) {
	lists := append(changedInsts(mixedInsts()), nil, goodInsts(), slices.Repeat(mixedInsts(), 200), slices.Repeat(mixedInsts(), 201))
	for _, list := range lists {
		room := withRoomBehind(list)
		ahead := roomsBehind(room)
		text := impl.ListText(room)
		if text != impl.ListText(list) || !impl.ListSame(room, list) || !impl.ListSame(list, room) {
			t.Errorf("%v: with room behind %s", list, brief(text))
		}
		for i := range room {
			if impl.ListOk(room[i]) != impl.ListOk(list[i]) || impl.ListLine(room[i]) != impl.ListLine(list[i]) {
				t.Errorf("%v: with room behind %q", list[i], impl.ListLine(room[i]))
			}
		}
		if roomsBehind(room) != ahead {
			t.Errorf("%v: written into: %s", list, roomsBehind(room))
		}
		impl.ListParse("?")
		impl.ListParse("ld X5\ncoil out:Y5")
		if again := impl.ListText(room); again != text {
			t.Errorf("%s: written again as %s", brief(text), brief(again))
		}
	}
}

// Very large instructions and lists are answered.
func TestVeryLargeLists(t *testing.T) {
	many := slices.Repeat([]impl.DevArg{operand(1, 0, 0)}, 1000000)
	for _, row := range listRows() {
		for _, op := range []int{0, 1, 21} {
			checkInst(t, impl.Inst{Code: row.code, One: impl.Elem{Op: op, Args: many}})
		}
	}
	list := slices.Repeat([]impl.Inst{{Code: 1, One: impl.Elem{Op: 1, Args: many}}}, 1000)
	if text := impl.ListText(list); text != "" {
		t.Errorf("written as %s", brief(text))
	}
	long := slices.Repeat([]impl.Inst{{Code: 6}}, 1000000)
	if !impl.ListSame(long, slices.Clone(long)) || impl.ListSame(long, long[1:]) {
		t.Error("a million instructions")
	}
	checkListFault(t, strings.Repeat("ld X0\n", 1000000), 0, 1)
}
