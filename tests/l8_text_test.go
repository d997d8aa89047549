package tests

import (
	"fmt"
	"math/rand"
	"regexp"
	"slices"
	"strings"
	"testing"

	"loop.example/stile/impl"
)

// textItem is a word of a line or what some words have been joined to, with a letter for what it is: c a net, o a coil, H an arm without kids, A one with kids;
// a, r and n begin nets, other words stand for themselves, and a question mark for what is none. Lines are read here by joining what belongs together, from within.
type textItem struct {
	letter string
	net    impl.Net
	coil   impl.Elem
	arm    impl.Arm
}

var (
	signLetters = map[string]string{"and(": "a", "or(": "r", "not(": "n", ")": ")", "->": ">", "[": "[", "|": "|", "]": "]"}
	netForm     = regexp.MustCompile(`[arn]c*\)`)
	headForm    = regexp.MustCompile(`c?>o*`)
	kidsForm    = regexp.MustCompile(`H\[[HA](\|[HA])*\]`)
)

func itemOf(word string) textItem {
	e, _ := impl.ElemRead(word)
	switch {
	case signLetters[word] != "":
		return textItem{letter: signLetters[word]}
	case impl.ElemIsContact(e):
		return textItem{letter: "c", net: impl.Net{Kind: 1, One: e}}
	case impl.ElemIsCoil(e):
		return textItem{letter: "o", coil: e}
	}
	return textItem{letter: "?"}
}

func joinNet(of []textItem) textItem {
	n := impl.Net{Kind: map[string]int{"a": 2, "r": 3, "n": 4}[of[0].letter]}
	for _, kid := range of[1 : len(of)-1] {
		n.Kids = append(n.Kids, kid.net)
	}
	return textItem{letter: "c", net: n}
}

func joinHead(of []textItem) textItem {
	a := impl.Arm{Net: of[0].net}
	for _, item := range of {
		if item.letter == "o" {
			a.Coils = append(a.Coils, item.coil)
		}
	}
	return textItem{letter: "H", arm: a}
}

func joinKids(of []textItem) textItem {
	a := of[0].arm
	for i := 2; i < len(of); i += 2 {
		a.Kids = append(a.Kids, of[i].arm)
	}
	return textItem{letter: "A", arm: a}
}

// joined has all that is of this form, and what comes to be of it, joined to one.
func joined(items []textItem, form *regexp.Regexp, join func(of []textItem) textItem) []textItem {
	for {
		letters := ""
		for _, item := range items {
			letters += item.letter
		}
		at := form.FindStringIndex(letters)
		if at == nil {
			return items
		}
		items = slices.Concat(items[:at[0]], []textItem{join(items[at[0]:at[1]])}, items[at[1]:])
	}
}

// rungOf is the rung with these words, if there is one.
func rungOf(words []string) (impl.Arm, bool) {
	items := []textItem{}
	for _, word := range words {
		items = append(items, itemOf(word))
	}
	items = joined(joined(joined(items, netForm, joinNet), headForm, joinHead), kidsForm, joinKids)
	if len(items) != 1 || items[0].letter != "H" && items[0].letter != "A" {
		return impl.Arm{}, false
	}
	return items[0].arm, true
}

func wordsOf(line string) []string {
	return slices.DeleteFunc(strings.Split(line, " "), func(word string) bool { return word == "" })
}

// ladderOf is a second reading of chapter 8.
func ladderOf(text string) ([]impl.Arm, impl.TextFault) {
	if len(text) > 16000 {
		return nil, impl.TextFault{Code: 11}
	}
	rungs, lines := []impl.Arm{}, []int{}
	for i, line := range strings.Split(text, "\n") {
		if words := wordsOf(line); len(words) > 0 {
			rung, ok := rungOf(words)
			if !ok {
				return nil, impl.TextFault{Line: i + 1, Code: 12}
			}
			rungs, lines = append(rungs, rung), append(lines, i+1)
		}
	}
	f := faultOf(rungs)
	if f.Code == 0 {
		return rungs, impl.TextFault{}
	}
	if f.Code == 1 {
		return nil, impl.TextFault{Code: 1}
	}
	return nil, impl.TextFault{Line: lines[f.Rung], Code: f.Code}
}

// tidied is a text with one space between words, no lines without words, and a newline behind each.
func tidied(text string) string {
	tidy := ""
	for _, line := range strings.Split(text, "\n") {
		if words := wordsOf(line); len(words) > 0 {
			tidy += strings.Join(words, " ") + "\n"
		}
	}
	return tidy
}

func speltNet(n impl.Net) string {
	if n.Kind == 1 {
		return impl.ElemText(n.One) + " "
	}
	text := map[int]string{2: "and( ", 3: "or( ", 4: "not( "}[n.Kind]
	for _, kid := range n.Kids {
		text += speltNet(kid)
	}
	return text + ") "
}

func speltArm(a impl.Arm) string {
	text := "-> "
	if !isNone(a.Net) {
		text = speltNet(a.Net) + text
	}
	for _, coil := range a.Coils {
		text += impl.ElemText(coil) + " "
	}
	kids := []string{}
	for _, kid := range a.Kids {
		kids = append(kids, speltArm(kid))
	}
	if len(kids) > 0 {
		text += "[ " + strings.Join(kids, "| ") + "] "
	}
	return text
}

// spelt writes a ladder, accepted or not, as long as it can be written.
func spelt(rungs []impl.Arm) string {
	text := ""
	for _, rung := range rungs {
		text += strings.TrimSuffix(speltArm(rung), " ") + "\n"
	}
	return text
}

// brief is a text as far as it is worth telling.
func brief(text string) string {
	return fmt.Sprintf("%.300q (%d bytes)", text, len(text))
}

// checkText holds what is read of a text against the second reading, and asks for P27 and P28.
func checkText(t *testing.T, text string) {
	t.Helper()
	rungs, f := impl.TextRead(text)
	want, fault := ladderOf(text)
	if f != fault || len(rungs) != len(want) || !impl.TreeSame(rungs, want) {
		t.Errorf("%s: %d rungs and %v, not %d and %v", brief(text), len(rungs), f, len(want), fault)
		return
	}
	if f.Code == 0 {
		checkLadder(t, rungs)
		if f := impl.TreeCheck(rungs); f.Code != 0 {
			t.Errorf("%s: read, but %v", brief(text), f)
		}
		if again := impl.TextPrint(rungs); again != tidied(text) {
			t.Errorf("%s: written as %s", brief(text), brief(again))
		}
		return
	}
	lines := append([]string{""}, strings.Split(text, "\n")...)
	if none := f.Code == 11 || f.Code == 1; none != (f.Line == 0) || f.Line < 0 || f.Line >= len(lines) || !none && len(wordsOf(lines[f.Line])) == 0 {
		t.Errorf("%s: told at line %d of %d", brief(text), f.Line, len(lines)-1)
	}
}

// checkLadder asks for P27 of a ladder, accepted or not.
func checkLadder(t *testing.T, rungs []impl.Arm) {
	t.Helper()
	ahead := fmt.Sprint(rungs)
	text := impl.TextPrint(rungs)
	if fmt.Sprint(rungs) != ahead {
		t.Errorf("%s: written into: %v", ahead, rungs)
	}
	if faultOf(rungs).Code != 0 {
		if text != "" {
			t.Errorf("%s: %v, but written as %s", ahead, faultOf(rungs), brief(text))
		}
		return
	}
	if text != spelt(rungs) {
		t.Errorf("%s: written as %s, not %s", ahead, brief(text), brief(spelt(rungs)))
	}
	read, f := impl.TextRead(text)
	if f != (impl.TextFault{}) || !impl.TreeSame(read, rungs) || !impl.TreeSame(rungs, read) {
		t.Errorf("%s: read as %v and %v", brief(text), read, f)
	}
	if again := impl.TextPrint(read); again != text {
		t.Errorf("%s: written once more as %s", brief(text), brief(again))
	}
}

// checkTextFault asks for a fault and for no ladder beside it.
func checkTextFault(t *testing.T, text string, line, code int) {
	t.Helper()
	if rungs, f := impl.TextRead(text); f != (impl.TextFault{Line: line, Code: code}) || len(rungs) != 0 {
		t.Errorf("%s: %v and %d rungs, not %d in line %d", brief(text), f, len(rungs), code, line)
	}
	checkText(t, text)
}

// checkTextRead asks for a ladder.
func checkTextRead(t *testing.T, text string, rungs []impl.Arm) {
	t.Helper()
	if read, f := impl.TextRead(text); f != (impl.TextFault{}) || !impl.TreeSame(read, rungs) {
		t.Errorf("%s: read as %v and %v", brief(text), read, f)
	}
	checkText(t, text)
}

func TestTextConstants(t *testing.T) {
	if impl.TextLong != 11 || impl.TextWord != 12 || impl.TextMaxText != 16000 {
		t.Error("codes and bounds of texts")
	}
}

// writtenRung is a rung and the line that it is written as.
type writtenRung struct {
	line string
	rung impl.Arm
}

func writtenRungs() []writtenRung {
	none, x, y, m := impl.Net{}, contactOf("X0"), contactOf("X1"), contactOf("/M2")
	return []writtenRung{
		{"X0 -> out:Y0", armOf(x, "out:Y0")},
		{"/M2 -> set:M1", armOf(m, "set:M1")},
		{"+X3:E1 -> pulse:M63,E31", armOf(contactOf("+X3:E1"), "pulse:M63,E31")},
		{"-G4:E0 -> step:S15", armOf(contactOf("-G4:E0"), "step:S15")},
		{"D1<=-32768 -> add:D1,T1,C1 sub:R1,nan,-0.0 count:C15,32767", armOf(contactOf("D1<=-32768"), "add:D1,T1,C1 sub:R1,nan,-0.0 count:C15,32767")},
		{"-0.0<>-inf -> whole:D0,-0.5", armOf(contactOf("-0.0<>-inf"), "whole:D0,-0.5")},
		{"X0 -> out:Y0 out:Y0 reset:T1 late:T1,0", armOf(x, "out:Y0 out:Y0 reset:T1 late:T1,0")},
		{"and( X0 ) -> out:Y0", armOf(andOf(x), "out:Y0")},
		{"or( X0 X1 ) -> out:Y0", armOf(orOf(x, y), "out:Y0")},
		{"not( /M2 ) -> out:Y0", armOf(notOf(m), "out:Y0")},
		{"not( not( X1 ) ) -> out:Y0", armOf(notOf(notOf(y)), "out:Y0")},
		{"and( X0 or( X1 /M2 ) ) -> out:Y0", armOf(andOf(x, orOf(y, m)), "out:Y0")},
		{"and( or( X1 /M2 ) X0 ) -> out:Y0", armOf(andOf(orOf(y, m), x), "out:Y0")},
		{"or( and( X0 X1 ) and( X1 not( or( X0 and( /M2 ) X0 ) ) X0 ) X1 ) -> out:Y0", armOf(orOf(andOf(x, y), andOf(y, notOf(orOf(x, andOf(m), x)), x), y), "out:Y0")},
		{"X0 -> [ -> out:Y0 ]", armOf(x, "", armOf(none, "out:Y0"))},
		{"X0 -> [ X1 -> out:Y0 ]", armOf(x, "", armOf(y, "out:Y0"))},
		{"X0 -> out:Y0 [ X1 -> out:Y1 | -> set:M2 ]", armOf(x, "out:Y0", armOf(y, "out:Y1"), armOf(none, "set:M2"))},
		{"X0 -> set:M1 set:M2 [ -> out:Y1 | not( X1 ) -> out:Y2 out:Y3 | -> set:M2 ]", armOf(x, "set:M1 set:M2", armOf(none, "out:Y1"), armOf(notOf(y), "out:Y2 out:Y3"), armOf(none, "set:M2"))},
		{"X0 -> [ X1 -> [ -> [ /M2 -> out:Y0 ] ] ]", armOf(x, "", armOf(y, "", armOf(none, "", armOf(m, "out:Y0"))))},
		{"X0 -> [ X1 -> [ -> out:Y0 | -> out:Y1 ] | /M2 -> out:Y2 [ -> out:Y3 ] | -> out:Y4 ]", armOf(x, "", armOf(y, "", armOf(none, "out:Y0"), armOf(none, "out:Y1")), armOf(m, "out:Y2", armOf(none, "out:Y3")), armOf(none, "out:Y4"))},
		{"and( X0 or( X1 /M2 ) ) -> out:Y0 [ +X3:E1 -> timer:T1,50 | -> move:D0,5 ]", armOf(andOf(x, orOf(y, m)), "out:Y0", armOf(contactOf("+X3:E1"), "timer:T1,50"), armOf(none, "move:D0,5"))},
	}
}

// P27, by rungs that are written out here: alone, and all behind each other.
func TestTextsWrittenOut(t *testing.T) {
	text, rungs := "", []impl.Arm{}
	for _, w := range writtenRungs() {
		if got := impl.TextPrint([]impl.Arm{w.rung}); got != w.line+"\n" {
			t.Errorf("written as %q, not %q", got, w.line+"\n")
		}
		checkTextRead(t, w.line, []impl.Arm{w.rung})
		checkTextRead(t, w.line+"\n", []impl.Arm{w.rung})
		text, rungs = text+w.line+"\n", append(rungs, w.rung)
		if got := impl.TextPrint(rungs); got != text {
			t.Errorf("written as %q, not %q", got, text)
		}
		checkTextRead(t, text, rungs)
	}
}

// The chapter's own example, read and written.
func TestTextExample(t *testing.T) {
	text := "and( X0 or( X1 /M2 ) ) -> out:Y0 [ +X3:E1 -> timer:T1,50 | -> move:D0,5 ]\nT1 -> set:Y1\n"
	x, y, m := contactOf("X0"), contactOf("X1"), contactOf("/M2")
	rungs := []impl.Arm{
		armOf(andOf(x, orOf(y, m)), "out:Y0", armOf(contactOf("+X3:E1"), "timer:T1,50"), armOf(impl.Net{}, "move:D0,5")), armOf(contactOf("T1"), "set:Y1"),
	}
	checkTextRead(t, text, rungs)
	checkTextRead(t, strings.TrimSuffix(text, "\n"), rungs)
	if got := impl.TextPrint(rungs); got != text {
		t.Errorf("written as %q", got)
	}
	read, _ := impl.TextRead(text)
	if len(read) != 2 || impl.TreeSize(read[:1]) != 12 || impl.TreeSize(read[1:]) != 3 {
		t.Errorf("read as %v", read)
	}
}

// spaced are texts of a line with spaces at its ends and between its words, and lines without words ahead and behind.
func spaced(line string) []string {
	wide := strings.ReplaceAll(line, " ", "   ")
	return []string{" " + line, line + " ", "   " + wide + "     ", wide, "\n" + line, "\n\n   \n" + wide + "\n \n\n", line + "\n\n", line + "\n ", " \n" + line + " \n ", line + "\n\n\n\n"}
}

// spacedTwo are such texts of two lines.
func spacedTwo(line, other string) []string {
	wide := strings.ReplaceAll(line, " ", "   ")
	return []string{line + "\n" + other, wide + " \n  " + other + "\n", "\n" + line + "\n\n\n" + other + "\n\n", "  \n" + wide + "\n    \n" + other + "  "}
}

// wordless are texts without words, of at most so many bytes.
func wordless(size int) []string {
	return []string{"", " ", "\n", "    ", "\n\n\n", " \n", "\n ", " \n  \n\n   \n", strings.Repeat(" ", size), strings.Repeat("\n", size), strings.Repeat(" \n", size/2)}
}

// padded are texts of so many bytes, filled up with this ahead of a text, and behind it.
func padded(text, with string, size int) []string {
	count := (size - len(text)) / len(with)
	rest := strings.Repeat(" ", size-len(text)-count*len(with))
	return []string{rest + strings.Repeat(with, count) + text, text + strings.Repeat(with, count) + rest}
}

// Spaces and lines without words count for nothing, wherever they stand.
func TestSpacesAndEmptyLines(t *testing.T) {
	for i, w := range writtenRungs() {
		other := writtenRungs()[(i+1)%len(writtenRungs())]
		for _, text := range spaced(w.line) {
			checkTextRead(t, text, []impl.Arm{w.rung})
		}
		for _, text := range spacedTwo(w.line, other.line) {
			checkTextRead(t, text, []impl.Arm{w.rung, other.rung})
		}
	}
}

// Without words there is no rung, and no fault.
func TestTextsWithoutWords(t *testing.T) {
	for _, text := range wordless(16000) {
		rungs, f := impl.TextRead(text)
		if len(rungs) != 0 || f != (impl.TextFault{}) {
			t.Errorf("%s: %v and %v", brief(text), rungs, f)
		}
		checkText(t, text)
	}
	for _, rungs := range [][]impl.Arm{nil, {}, make([]impl.Arm, 0, 3)} {
		if text := impl.TextPrint(rungs); text != "" {
			t.Errorf("no rungs: written as %q", text)
		}
	}
}

// P28 at the bound of bytes; with too many of them nothing else is told.
func TestTextMaxText(t *testing.T) {
	good := []impl.Arm{armOf(contactOf("X0"), "out:Y0")}
	for _, with := range []string{" ", "\n", "  \n", " \n\n"} {
		for _, text := range append(padded("X0 -> out:Y0", with, 16000), padded("X0 -> out:Y0\n", with, 15999)...) {
			checkTextRead(t, text, good)
		}
		for _, size := range []int{16001, 16002, 32000, 16000 + 256, 16000 + 65536, 1000000} {
			for _, line := range []string{"", "X0 -> out:Y0", "X0 ->", "X0", "?", "-> out:Y0", "\x00\xff"} {
				for _, text := range padded(line, with, size) {
					checkTextFault(t, text, 0, 11)
				}
			}
		}
	}
	for _, text := range padded("X0 -> out:Y0 ?", " ", 16000) {
		checkTextFault(t, text, 1, 12)
	}
	checkTextFault(t, strings.Repeat("\n", 15999)+"?", 16000, 12)
	checkTextFault(t, strings.Repeat("\n", 16000)+"?", 0, 11)
	checkTextFault(t, strings.Repeat("\n", 15995)+"X0 ->", 15996, 5)
	checkTextFault(t, strings.Repeat("?", 16000), 1, 12)
	checkTextFault(t, strings.Repeat("?", 16001), 0, 11)
	// Bytes are counted, not runes.
	checkTextFault(t, strings.Repeat("\u00e4", 8000), 1, 12)
	checkTextFault(t, strings.Repeat("\u00e4", 8000)+" ", 0, 11)
}

// P28 at the bound of rungs.
func TestTextMaxRungs(t *testing.T) {
	good := armOf(contactOf("X0"), "out:Y0")
	for _, line := range []string{"X0 -> out:Y0\n", " X0   -> out:Y0  \n\n \n"} {
		for _, count := range []int{1, 39, 40} {
			checkTextRead(t, strings.Repeat(line, count), slices.Repeat([]impl.Arm{good}, count))
		}
		for _, count := range []int{41, 42, 80, 276, 500} {
			checkTextFault(t, strings.Repeat(line, count), 0, 1)
		}
	}
	most := strings.Repeat("X0 -> out:Y0\n", 40)
	for _, wrong := range []string{"X0 ->", "-> out:Y0", "and( ) -> out:Y0"} {
		checkTextFault(t, most+wrong, 0, 1)
		checkTextFault(t, wrong+"\n"+most, 0, 1)
	}
	checkTextFault(t, most+"X0", 41, 12)
	checkTextFault(t, "X0\n"+most, 1, 12)
	checkTextFault(t, most+most+"\n\nX0", 83, 12)
	checkTextRead(t, "\n\n"+most+"\n\n", slices.Repeat([]impl.Arm{good}, 40))
}

// P27 and P28 at the bound of parts.
func TestTextMaxNodes(t *testing.T) {
	for i, rungs := range grown(400) {
		text := impl.TextPrint(rungs)
		if text == "" || text != spelt(rungs) {
			t.Errorf("ladder %d: written as %s", i, brief(text))
		}
		checkTextRead(t, text, rungs)
		checkTextRead(t, strings.TrimSuffix(text, "\n"), rungs)
		checkTextFault(t, text+"X0 -> out:Y0", 0, 1)
		checkTextFault(t, text+"->", 0, 1)
		checkTextFault(t, text+"X0", len(rungs)+1, 12)
	}
	for i, rungs := range grown(401) {
		if text := impl.TextPrint(rungs); text != "" {
			t.Errorf("ladder %d: written as %s", i, brief(text))
		}
		checkTextFault(t, spelt(rungs), 0, 1)
	}
	for _, rungs := range grown(399) {
		checkTextRead(t, spelt(rungs), rungs)
		checkTextFault(t, spelt(rungs)+"->", len(rungs)+1, 4)
		checkTextFault(t, "\n->\n"+spelt(rungs), 2, 4)
	}
}

// The longest of all ladders that are accepted is read, with all its digits.
func TestLongestLadder(t *testing.T) {
	coil := " div:R15,-999.999999,-99999999.9"
	rungs := []impl.Arm{armOf(contactOf("-999.999999<=-999.999999"), strings.Repeat(coil, 398))}
	if impl.TreeSize(rungs) != 400 {
		t.Fatal(impl.TreeSize(rungs))
	}
	if text := impl.TextPrint(rungs); text != "-999.999999<=-999.999999 ->"+strings.Repeat(coil, 398)+"\n" {
		t.Errorf("written as %s", brief(text))
	}
	checkLadder(t, rungs)
}

// contactsAndCoils are texts of both, of each Op and each sort of operands.
func contactsAndCoils() (contacts, coils []string) {
	samples := map[byte]string{'b': "M63", 'E': "E31", 'w': "-32768", 'r': "-0.000001", 'o': "Y31", 's': "S15", 'z': "C15", 'S': "S0", 'T': "T15", 'C': "C0", 'p': "0", 'D': "D31", 'R': "R15"}
	for _, row := range elemRows() {
		for _, sort := range row.sorts {
			operands := []string{}
			for i := range sort {
				operands = append(operands, samples[sort[i]])
			}
			text := row.ahead + strings.Join(operands, row.sign)
			if row.name == "" {
				contacts = append(contacts, text)
			} else {
				coils = append(coils, text)
			}
		}
	}
	return contacts, coils
}

// Each sort of contacts and coils is a word; a coil is no net, and a contact no coil.
func TestContactsAndCoilsAsWords(t *testing.T) {
	contacts, coils := contactsAndCoils()
	if len(contacts) != 16 || len(coils) != 22 {
		t.Fatalf("%d contacts, %d coils", len(contacts), len(coils))
	}
	for _, contact := range contacts {
		for _, coil := range coils {
			c := contactOf(contact)
			checkTextRead(t, contact+" -> "+coil, []impl.Arm{armOf(c, coil)})
			checkTextRead(t, "or( "+contact+" X0 ) -> "+coil+" "+coil+" [ not( "+contact+" ) -> "+coil+" ]", []impl.Arm{armOf(orOf(c, contactOf("X0")), coil+" "+coil, armOf(notOf(c), coil))})
		}
	}
	for _, contact := range contacts {
		for _, form := range []string{"X0 -> %s", "X0 -> out:Y0 %s", "X0 -> %s out:Y0", "X0 -> out:Y0 [ -> %s ]", "X0 -> out:Y0 [ -> out:Y0 ] %s", "%s X0 -> out:Y0", "X0 %s -> out:Y0", "%s", "%s %s"} {
			checkTextFault(t, strings.ReplaceAll(form, "%s", contact), 1, 12)
		}
	}
	for _, coil := range coils {
		for _, form := range []string{"%s -> out:Y0", "and( %s ) -> out:Y0", "or( X0 %s ) -> out:Y0", "not( %s ) -> out:Y0", "X0 -> [ %s -> out:Y0 ]", "X0 %s -> out:Y0", "X0 -> out:Y0 [ -> out:Y0 ] %s", "%s", "X0 %s"} {
			checkTextFault(t, strings.ReplaceAll(form, "%s", coil), 1, 12)
		}
	}
}

// anyNet and anyArm are ladders by chance, of always the same chances.
func anyNet(r *rand.Rand, deep int) impl.Net {
	contacts, _ := contactsAndCoils()
	if deep == 0 || r.Intn(3) == 0 {
		return contactOf(contacts[r.Intn(len(contacts))])
	}
	n := impl.Net{Kind: 2 + r.Intn(3)}
	for range 1 + r.Intn(3) {
		n.Kids = append(n.Kids, anyNet(r, deep-1))
	}
	if n.Kind == 4 && r.Intn(20) > 0 {
		n.Kids = n.Kids[:1]
	}
	return n
}

func anyArm(r *rand.Rand, deep int, rung bool) impl.Arm {
	_, coils := contactsAndCoils()
	a := impl.Arm{}
	if rung || r.Intn(2) == 0 {
		a.Net = anyNet(r, r.Intn(4))
	}
	for range r.Intn(4) {
		a.Coils = append(a.Coils, elemSure(coils[r.Intn(len(coils))]))
	}
	for range r.Intn(4) {
		if deep > 0 {
			a.Kids = append(a.Kids, anyArm(r, deep-1, false))
		}
	}
	if len(a.Coils)+len(a.Kids) == 0 && r.Intn(20) > 0 {
		a.Coils = []impl.Elem{elemSure("out:Y0")}
	}
	return a
}

// P27 of many ladders, accepted and not.
func TestLaddersBothWays(t *testing.T) {
	list := changedOnce(branched())
	for _, c := range goodRungs() {
		list = append(list, c.rungs)
		list = append(list, changedOnce(c.rungs)...)
	}
	for _, c := range wrongArms() {
		list = append(list, []impl.Arm{c.arm}, []impl.Arm{branched()[0], c.arm}, []impl.Arm{armOf(contactOf("X0"), "", c.arm)})
	}
	r := rand.New(rand.NewSource(8))
	for range 1500 {
		rungs := []impl.Arm{}
		for range 1 + r.Intn(4) {
			rungs = append(rungs, anyArm(r, 3, true))
		}
		list = append(list, rungs)
	}
	accepted, refused := 0, 0
	for _, rungs := range list {
		checkLadder(t, rungs)
		checkLadder(t, withEmpties(rungs))
		if impl.TreeCheck(rungs).Code == 0 {
			accepted++
			checkText(t, spelt(rungs))
		} else {
			refused++
		}
	}
	if accepted < 1000 || refused < 1000 {
		t.Errorf("%d ladders are accepted, %d are not", accepted, refused)
	}
}

// Unlike ladders have unlike texts, as each is read as it.
func TestUnlikeLaddersHaveUnlikeTexts(t *testing.T) {
	texts := map[string][]impl.Arm{}
	for _, rungs := range append(changedOnce(branched()), branched()) {
		if text := impl.TextPrint(rungs); text != "" {
			if other, ok := texts[text]; ok && !impl.TreeSame(other, rungs) {
				t.Errorf("%q: %v and %v", text, rungs, other)
			}
			texts[text] = rungs
		}
	}
	if len(texts) < 50 {
		t.Errorf("%d texts", len(texts))
	}
}

// A ladder that is not accepted is not written, not even in its good rungs.
func TestLaddersThatAreNotWritten(t *testing.T) {
	good := armOf(contactOf("X0"), "out:Y0")
	for _, c := range wrongArms() {
		for _, rungs := range [][]impl.Arm{{c.arm}, {good, c.arm}, {c.arm, good}, {good, c.arm, good}, {armOf(contactOf("X0"), "out:Y0", good, c.arm)}} {
			if text := impl.TextPrint(rungs); text != "" {
				t.Errorf("%v: written as %q", rungs, text)
			}
		}
	}
	endless, round := andOf(impl.Net{}), armOf(contactOf("X0"), "", impl.Arm{})
	endless.Kids[0], round.Kids[0] = endless, round
	for _, rungs := range [][]impl.Arm{{{}}, {armOf(impl.Net{}, "out:Y0")}, {good, armOf(contactOf("X0"), "")}, slices.Repeat([]impl.Arm{good}, 41), {armOf(endless, "out:Y0")}, {round}} {
		if text := impl.TextPrint(rungs); text != "" {
			t.Errorf("%d rungs: written as %s", len(rungs), brief(text))
		}
	}
}

// wrongLines are no rungs by the grammar.
func wrongLines() []string {
	return []string{
		// No arrow, two of them, or one that is not alone.
		"X0 out:Y0", "X0", "out:Y0", "X0 X1", "and( X0 X1 )", "X0 -> -> out:Y0", "X0 -> out:Y0 ->", "-> ->", "-> -> out:Y0", "X0 -> out:Y0 -> out:Y1", "X0 -> out:Y0 X1 -> out:Y1",
		"X0-> out:Y0", "X0 ->out:Y0", "X0->out:Y0", "X0 - > out:Y0", "X0 >", "X0 -", "X0 => out:Y0", "X0 --> out:Y0", "X0 <- out:Y0", "and( X0 -> ) out:Y0", "and( -> ) out:Y0", "and( X0 -> out:Y0 )",
		// Two nets, or none in words.
		"X0 X1 -> out:Y0", "and( X0 ) X1 -> out:Y0", "X0 and( X1 ) -> out:Y0", "not( X0 ) not( X1 ) -> out:Y0", "X0 -> [ X1 X2 -> out:Y0 ]",
		// Brackets.
		"[", "|", "]", "[ ]", "X0 -> [ ]", "X0 -> out:Y0 [ ]", "X0 -> [", "X0 -> ]", "X0 -> |", "X0 -> out:Y0 [", "X0 -> out:Y0 ]", "X0 -> out:Y0 |", "[ X0 -> out:Y0 ]", "[ X0 -> out:Y0", "X0 [ -> out:Y0 ]",
		"X0 -> [ X1 -> out:Y0", "X0 -> X1 -> out:Y0 ]", "X0 -> [ [ X1 -> out:Y0 ]", "X0 -> [ X1 -> out:Y0 ] ]", "X0 -> [ [ X1 -> out:Y0 ] ]", "X0 -> [ X1 -> [ -> out:Y0 ]", "X0 [ X1 -> out:Y0 ] -> out:Y0",
		"X0 -> [ -> out:Y0 ] [ -> out:Y1 ]", "X0 -> [ [ ] ]", "X0 -> [ X1 -> [ ] ]", "X0 -> ] [", "X0 -> ( X1 -> out:Y0 )", "X0 -> [ X1 -> out:Y0 )", "X0 -> { X1 -> out:Y0 }", "X0 -> [X1 -> out:Y0]", "X0 -> [ X1 -> out:Y0]", "X0 -> []", "X0 -> [ X1 ]", "X0 -> [ out:Y0 ]",
		// Bars.
		"X0 -> out:Y0 | X1 -> out:Y1", "| X0 -> out:Y0", "X0 -> out:Y0 | -> out:Y1", "X0 -> [ | ]", "X0 -> [ | X1 -> out:Y0 ]", "X0 -> [ X1 -> out:Y0 | ]", "X0 -> [ X1 -> out:Y0 | | -> out:Y1 ]", "X0 -> [ X1 -> out:Y0 || -> out:Y1 ]",
		"X0 -> [ X1 -> out:Y0 -> out:Y1 ]", "X0 -> [ X1 -> out:Y0 X2 -> out:Y1 ]", "X0 -> [ X1 -> out:Y0 |-> out:Y1 ]", "or( X0 | X1 ) -> out:Y0", "and( [ X0 ] ) -> out:Y0", "X0 | X1 -> out:Y0",
		// What stands behind a bracket.
		"X0 -> [ -> out:Y0 ] out:Y1", "X0 -> [ -> out:Y0 ] X1", "X0 -> [ -> out:Y0 ] -> out:Y1", "X0 -> [ -> out:Y0 ] )", "X0 -> [ -> out:Y0 ] |", "X0 -> [ -> out:Y0 ] and( X0 )", "X0 -> [ -> [ -> out:Y0 ] out:Y1 ]", "X0 -> [ -> [ -> out:Y0 ] X1 -> out:Y1 ]", "X0 -> [ -> out:Y0 ] ?",
		// Nets that are not closed, or closed too often.
		"and( X0 -> out:Y0", "or( X0 X1 -> out:Y0", "not( X0 -> out:Y0", "and(", "not( not( not(", "and( -> out:Y0", "and( X0 or( X1 ) -> out:Y0", "and( X0", "and( X0 or( X1 ) ) ) -> out:Y0", "X0 ) -> out:Y0", ") -> out:Y0", ")", "X0 -> )", "X0 -> out:Y0 )",
		"and( X0 ] -> out:Y0", "and X0 ) -> out:Y0", "( X0 ) -> out:Y0", "and ( X0 ) -> out:Y0", "and(X0 ) -> out:Y0", "and( X0) -> out:Y0", "and(X0) -> out:Y0", "and() -> out:Y0", "AND( X0 ) -> out:Y0", "And( X0 ) -> out:Y0", "nand( X0 ) -> out:Y0", "xor( X0 ) -> out:Y0", "and( ) ) -> out:Y0", "and( ( ) ) -> out:Y0", "X0 -> and( X1 )", "X0 -> out:Y0 not( X1 )", "X0 -> [ -> out:Y0 ) ]", "X0 -> not( out:Y0 )",
		// Words that are no contacts and no coils, and those that stand in each other's place.
		"out:Y0 -> X0", "X0 -> X1", "out:Y0 -> out:Y0", "and( out:Y0 ) -> out:Y0", "X0 -> out:X0", "X0 -> out:Y32", "X0 -> out:Y00", "X32 -> out:Y0", "x0 -> out:Y0", "X0 -> Out:Y0", "X0 -> out:", "X0 -> out", "X0 -> out:Y0,E0", "X0 -> out: Y0", "X0 -> timer:T1, 50", "X0 -> timer:T1,-1", "D1 < D2 -> out:Y0", "D1< D2 -> out:Y0", "D1<R1 -> out:Y0", "/ X0 -> out:Y0", "//X0 -> out:Y0", "+X0 -> out:Y0", "+X0:E32 -> out:Y0", "E0 -> out:Y0", "D1 -> out:Y0", "5 -> out:Y0", "5.0 -> out:Y0", "nan -> out:Y0",
		"? -> out:Y0", "X0 -> ?", "? X0 -> out:Y0", "X0 -> out:Y0 ?", "X0 -> out:Y0, out:Y1", "X0 -> out:Y0;", "X0 -> out:Y0 #", "# X0 -> out:Y0", "rung X0 -> out:Y0", "X0 -> [ ? -> out:Y0 ]", "X0 -> [ -> ? ]", "and( ? ) -> out:Y0", "ld X0", "\"X0\" -> out:Y0", "\\",
		// Lines that end in the middle.
		"X0 -> [ X1", "X0 -> [ X1 ->", "X0 -> [ X1 -> out:Y0 |", "X0 -> [ X1 -> out:Y0 | X1", "X0 -> [ X1 -> out:Y0 | ->", "X0 -> [ X1 -> out:Y0 | -> out:Y1", "X0 -> [ and( X1", "X0 -> [ X1 -> [ X1 -> out:Y0 ] |",
	}
}

// textAt is a text of so many lines with this one in this place (from 1), some without words between, and the number that it has then among all.
func textAt(line string, place, count int, good string) (string, int) {
	lines, at := []string{}, 0
	for i := 1; i <= count; i++ {
		for range (i*i + count) % 3 {
			lines = append(lines, strings.Repeat(" ", i%4))
		}
		if i == place {
			lines, at = append(lines, line), len(lines)+1
		} else {
			lines = append(lines, good)
		}
	}
	return strings.Join(lines, "\n"), at
}

// textsAt are texts with this line as the first, a middle and the last of several, and its number in each.
func textsAt(line, good string) map[string]int {
	texts := map[string]int{}
	for _, count := range []int{2, 3, 7} {
		for _, place := range []int{1, count/2 + 1, count} {
			text, at := textAt(line, place, count, good)
			texts[text] = at
		}
	}
	return texts
}

// checkLine asks for a code of a line as the first, a middle and the last of several.
func checkLine(t *testing.T, line string, code int) {
	t.Helper()
	checkTextFault(t, line, 1, code)
	checkTextFault(t, "  "+line+" \n", 1, code)
	checkTextFault(t, "\n \n"+line, 3, code)
	for text, at := range textsAt(line, "X0 -> out:Y0 [ -> set:M1 ]") {
		checkTextFault(t, text, at, code)
		checkTextFault(t, text+"\n", at, code)
	}
}

// P28: what is no rung by the grammar is told at its line.
func TestWrongLines(t *testing.T) {
	for _, line := range wrongLines() {
		checkLine(t, line, 12)
	}
}

// lineCode is a line that is a rung by the grammar and not by the check, and the code of it.
type lineCode struct {
	line string
	code int
}

func refusedLines() []lineCode {
	return []lineCode{
		{"->", 4}, {"-> out:Y0", 4}, {"-> out:Y0 [ X0 -> out:Y1 ]", 4}, {"-> [ X0 -> out:Y1 ]", 4}, {"-> [ -> ]", 4}, {"-> [ and( ) -> ]", 4},
		{"and( ) -> out:Y0", 2}, {"or( ) -> out:Y0", 2}, {"not( ) -> out:Y0", 2}, {"and( ) ->", 2}, {"not( X0 X1 ) -> out:Y0", 2}, {"not( X0 X1 X0 ) ->", 2}, {"not( and( X0 ) or( X1 ) ) -> out:Y0", 2},
		{"and( X0 or( ) ) -> out:Y0", 2}, {"and( or( ) X0 ) -> out:Y0", 2}, {"not( not( ) ) -> out:Y0", 2}, {"or( X0 not( X0 X0 ) X1 ) -> out:Y0", 2}, {"X0 -> [ and( ) -> out:Y0 ]", 2}, {"X0 -> out:Y0 [ -> out:Y0 | not( X0 X1 ) -> ]", 2}, {"and( ) -> [ X0 -> ]", 2},
		{"X0 ->", 5}, {"and( X0 X1 ) ->", 5}, {"X0 -> [ -> ]", 5}, {"X0 -> [ X1 -> ]", 5}, {"X0 -> [ X1 -> | -> out:Y0 ]", 5}, {"X0 -> [ X1 -> out:Y0 | -> ]", 5}, {"X0 -> out:Y0 [ -> ]", 5}, {"X0 -> out:Y0 [ -> [ -> ] ]", 5}, {"X0 -> [ X1 -> | and( ) -> out:Y0 ]", 5}, {"X0 -> [ -> [ not( X0 ) -> ] | and( ) -> ]", 5},
	}
}

// P28: what the check refuses is told at the line of its rung.
func TestRefusedLines(t *testing.T) {
	for _, c := range refusedLines() {
		checkLine(t, c.line, c.code)
	}
	for _, first := range refusedLines() {
		for _, second := range refusedLines() {
			checkTextFault(t, "\nX0 -> out:Y0\n \n"+first.line+"\n\n"+second.line+"\n", 4, first.code)
		}
	}
}

// All lines are held against the grammar ahead of the check.
func TestGrammarGoesAheadOfTheCheck(t *testing.T) {
	for _, wrong := range wrongLines() {
		for _, refused := range refusedLines()[:20] {
			checkTextFault(t, refused.line+"\n\n"+wrong, 3, 12)
			checkTextFault(t, "\n"+wrong+"\n"+refused.line, 2, 12)
		}
	}
	for _, refused := range refusedLines() {
		checkTextFault(t, strings.Repeat(refused.line+"\n", 60)+"\nX0", 62, 12)
		checkTextFault(t, "X0\n"+strings.Repeat(refused.line+"\n", 60), 1, 12)
		checkTextFault(t, strings.Repeat(refused.line+"\n", 41), 0, 1)
		checkTextFault(t, strings.Repeat(refused.line+"\n", 40), 1, refused.code)
	}
	checkTextFault(t, "X0 -> out:Y0\nX0\nX1\n?", 2, 12)
	checkTextFault(t, "?\nX1\n?", 1, 12)
}

// oddBytes part no words: white space of all other sorts, bytes that are no runes, and runes that are held for spaces elsewhere.
func oddBytes() []string {
	list := []string{"\u00a0", "\u0085", "\u1680", "\u2003", "\u2028", "\u2029", "\u202f", "\u3000", "\ufeff", "\u200b", "\ufffd", "\u2192", "\u00e4", "\xc0\xa0", "\xe0\x80\xa0", "\xed\xa0\x80", "\xf4\x90\x80\x80", "\r\n\r", "\xff\xfe"}
	for b := range 256 {
		if b != ' ' && b != '\n' {
			list = append(list, string([]byte{byte(b)}))
		}
	}
	return list
}

// Words alone are parted by spaces: no other byte does it, and none is passed over.
func TestOddBytes(t *testing.T) {
	good := "X0 -> out:Y0"
	for _, odd := range oddBytes() {
		for _, text := range []string{
			odd, "X0" + odd + "-> out:Y0", "X0 ->" + odd + "out:Y0", odd + good, good + odd, "X0 " + odd + " -> out:Y0", "X0 -> " + odd + " out:Y0", odd + " " + good, good + " " + odd, "X0 -> out:" + odd + "Y0", "X0 -" + odd + "> out:Y0",
			"X" + odd + "0 -> out:Y0", "and(" + odd + "X0 ) -> out:Y0", "and( X0" + odd + ") -> out:Y0", "an" + odd + "d( X0 ) -> out:Y0", "X0 -> [" + odd + "-> out:Y0 ]", "X0 -> [ -> out:Y0" + odd + "]", "X0 -> [ -> out:Y0 " + odd + " -> out:Y1 ]",
		} {
			checkText(t, text)
			checkText(t, good+"\n"+text+"\n"+good)
		}
	}
	for _, odd := range []string{"\t", "\r", "\x00", "\v", "\f", "\x7f", "\x80", "\xff", "\xa0", "\u00a0", "\u2028", "\u3000", "\xc0\xa0"} {
		for _, line := range []string{odd, "X0" + odd + "-> out:Y0", "X0" + odd + " -> out:Y0", "X0 " + odd + " -> out:Y0", odd + good, good + odd, good + " " + odd, "X0 -> out:Y" + odd + "0", "X0 -" + odd + "> out:Y0"} {
			checkTextFault(t, line, 1, 12)
			checkTextFault(t, good+"\n\n"+line+"\n"+good, 3, 12)
		}
		checkTextFault(t, good+odd+"\n"+good+odd+"\n", 1, 12)
		checkTextFault(t, good+"\n"+odd+"\n"+good, 2, 12)
	}
}

// Each line of a few words, right or wrong.
func TestShortLines(t *testing.T) {
	words := []string{"X0", "set:M1", "->", "[", "|", "]", "and(", "not(", ")", "?"}
	lines := []string{""}
	rungs := 0
	for range 5 {
		longer := []string{}
		for _, line := range lines {
			for _, word := range words {
				longer = append(longer, line+" "+word)
			}
		}
		lines = longer
		for _, line := range lines {
			checkText(t, line)
			if _, f := impl.TextRead(line); f.Code != 12 {
				rungs++
			}
		}
	}
	if rungs < 20 {
		t.Errorf("%d rungs", rungs)
	}
}

// Each word of a few signs in each place, and those that look like others.
func TestShortWords(t *testing.T) {
	words, last := []string{"AND(", "And(", "OR(", "Or(", "oR(", "NOT(", "Not(", "nOT(", "and[", "not)", "and)", "an(", "no(", "nor(", "nand(", "or((", "and()", "not(("}, []string{""}
	for range 3 {
		longer := []string{}
		for _, word := range last {
			for _, sign := range []string{"-", ">", "<", "=", "[", "]", "|", "(", ")", "o", "r", "O", "R", "X", "0", ",", "/"} {
				longer = append(longer, word+sign)
			}
		}
		words, last = append(words, longer...), longer
	}
	for _, word := range words {
		for _, form := range []string{"%s", "X0 %s out:Y0", "X0 -> %s", "%s X0 ) -> out:Y0", "or( X0 %s -> out:Y0", "X0 -> %s X0 -> out:Y0 ]", "X0 -> [ -> out:Y0 %s -> out:Y0 ]", "X0 -> [ -> out:Y0 %s"} {
			checkText(t, strings.ReplaceAll(form, "%s", word))
		}
	}
}

// changedLines have one word of a line gone, doubled, changed with the next, or another one in its place or ahead of it; or end there.
func changedLines(line string) []string {
	words, list := strings.Fields(line), []string{}
	put := func(words ...[]string) { list = append(list, strings.Join(slices.Concat(words...), " ")) }
	for i := range words {
		put(words[:i], words[i+1:])
		put(words[:i], words[i:i+1], words[i:])
		put(words[:i])
		put(words[:i], turned(slices.Clone(words[i:])))
		for _, word := range []string{"X0", "set:M1", "->", "[", "|", "]", "and(", "or(", "not(", ")", "?"} {
			put(words[:i], []string{word}, words[i+1:])
			put(words[:i], []string{word}, words[i:])
			put(words[:i+1], []string{word}, words[i+1:])
		}
	}
	return list
}

// P28 of lines that are right but for one word, or two.
func TestChangedLines(t *testing.T) {
	for i, w := range writtenRungs() {
		for j, once := range changedLines(w.line) {
			checkText(t, once)
			checkText(t, "\nX0 -> out:Y0\n"+once+"\n")
			if i == 16 && j%7 == 0 {
				for _, twice := range changedLines(once) {
					checkText(t, twice)
				}
			}
		}
	}
}

// spoilt are texts that are cut, or have a byte taken out, changed or put in: one of these, a space, a newline or an odd one.
func spoilt(text string, with ...string) []string {
	list := []string{}
	for i := range len(text) {
		list = append(list, text[:i], text[i:], text[:i]+text[i+1:])
		for _, odd := range append([]string{" ", "\n", "\t", "\x00", "\xff"}, with...) {
			list = append(list, text[:i]+odd+text[i:], text[:i]+odd+text[i+1:])
		}
	}
	return list
}

// P28 of texts that are cut, or have a byte changed, put in or taken out.
func TestSpoiltTexts(t *testing.T) {
	text := "and( X0 or( X1 /M2 ) ) -> out:Y0 [ +X3:E1 -> timer:T1,50 | -> move:D0,5 ]\nT1 -> set:Y1\n"
	for _, other := range spoilt(text, "0", "X", "(", ")", "[", "]", "|", "-", ">", ":", ",") {
		checkText(t, other)
	}
}

// Texts by chance, of always the same chances.
func TestAnyTexts(t *testing.T) {
	r := rand.New(rand.NewSource(27))
	words := []string{"X0", "set:M1", "->", "->", "[", "|", "]", "and(", "or(", "not(", ")", ")", "\n", "\n", "out:Y0", "/X1", "D1<5", "?", "", "\t"}
	for range 4000 {
		text := ""
		for range r.Intn(40) {
			text += words[r.Intn(len(words))] + []string{" ", " ", "  ", ""}[r.Intn(4)]
		}
		checkText(t, text)
	}
}

// What is nested as deep as a text is long is refused, or no rung.
func TestDeepTexts(t *testing.T) {
	for _, c := range []struct {
		open, within, shut string
		behind             string
	}{
		{"not( ", "X0 ", ") ", "-> out:Y0"}, {"or( ", "X0 ", ") ", "-> out:Y0"}, {"X0 -> [ ", "X0 -> out:Y0 ", "] ", ""}, {"X0 -> [ -> out:Y0 | ", "-> out:Y0 ", "] ", ""},
	} {
		for _, deep := range []int{1000, 15900 / len(c.open+c.shut)} {
			if deep*len(c.open+c.shut) < 15950 {
				checkDeep(t, strings.Repeat(c.open, deep)+c.within+strings.Repeat(c.shut, deep)+c.behind, 0, 1)
			}
		}
		checkDeep(t, strings.Repeat(c.open, 15900/len(c.open)), 1, 12)
		checkDeep(t, strings.Repeat(c.shut, 15900/len(c.shut)), 1, 12)
		checkDeep(t, strings.Repeat(c.open, 100)+c.within+strings.Repeat(c.shut, 99)+c.behind, 1, 12)
		checkDeep(t, strings.Repeat(c.open, 100)+c.within+strings.Repeat(c.shut, 101)+c.behind, 1, 12)
	}
}

// checkDeep asks for a fault without the second reading, which takes long with texts that are nested so deep.
func checkDeep(t *testing.T, text string, line, code int) {
	t.Helper()
	if rungs, f := impl.TextRead(text); f != (impl.TextFault{Line: line, Code: code}) || len(rungs) != 0 {
		t.Errorf("%s: %v and %d rungs, not %d in line %d", brief(text), f, len(rungs), code, line)
	}
}

// What is read is new memory: no two of its lists share any, not even in their spare room, and no later answer sees what was written into it.
func TestTextReadIsNewMemory(t *testing.T) {
	text := ""
	for _, w := range writtenRungs() {
		text += w.line + "\n"
	}
	want, _ := ladderOf(text)
	rungs, _ := impl.TextRead(text)
	fillRooms(rungs)
	if !impl.TreeSame(rungs, want) {
		t.Errorf("lists share their spare room: %v", rungs)
	}
	args := argPlaces(rungs)
	for i, a := range args {
		*a = operand(1, i, 0)
	}
	for i, a := range args {
		if *a != operand(1, i, 0) {
			t.Errorf("operand %d is shared", i)
		}
	}
	for _, a := range armPlaces(rungs) {
		*a = impl.Arm{}
	}
	checkTextRead(t, text, want)
}

// fillRooms writes behind the end of each list of a ladder.
func fillRooms(rungs []impl.Arm) {
	for i := len(rungs); i < cap(rungs); i++ {
		rungs[:cap(rungs)][i] = armOf(contactOf("X9"), "out:Y9")
	}
	for _, a := range armPlaces(rungs) {
		for i := len(a.Coils); i < cap(a.Coils); i++ {
			a.Coils[:cap(a.Coils)][i] = elemSure("out:Y9")
		}
		for i := len(a.Kids); i < cap(a.Kids); i++ {
			a.Kids[:cap(a.Kids)][i] = armOf(contactOf("X9"), "out:Y9")
		}
	}
	for _, n := range netPlaces(rungs) {
		for i := len(n.Kids); i < cap(n.Kids); i++ {
			n.Kids[:cap(n.Kids)][i] = contactOf("X9")
		}
	}
	for _, e := range elemPlaces(rungs) {
		for i := len(e.Args); i < cap(e.Args); i++ {
			e.Args[:cap(e.Args)][i] = operand(1, 9, 0)
		}
	}
}

// What is written is not written into, nor behind its end; what stands behind counts for nothing.
func TestTextPrintWritesIntoNothing(t *testing.T) {
	list := append(changedOnce(branched()), nil)
	for _, w := range writtenRungs() {
		list = append(list, []impl.Arm{w.rung})
	}
	for _, rungs := range list {
		room := withRoom(rungs)
		ahead := rooms(room)
		text := impl.TextPrint(room)
		if text != impl.TextPrint(rungs) || rooms(room) != ahead {
			t.Errorf("%v: with room behind %q; %s, not %s", rungs, text, rooms(room), ahead)
		}
		impl.TextRead("?")
		if again := impl.TextPrint(room); again != text {
			t.Errorf("%q: written again as %q", text, again)
		}
	}
}
