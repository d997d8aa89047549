package tests

import (
	"fmt"
	"math/rand"
	"regexp"
	"slices"
	"strconv"
	"strings"
	"sync"
	"testing"

	"loop.example/stile/impl"
)

// The second readings go by texts alone: of contacts, and of lists with each instruction as a line.
var (
	peepBitForm   = regexp.MustCompile(`^/?([XYMSGTC]\d+)$`)
	peepTestForm  = regexp.MustCompile(`^(-?\d+|[TCD]\d+)([<=>]+)(-?\d+|[TCD]\d+)$`)
	peepTwiceForm = regexp.MustCompile(`^(out|set|reset|step|move|real|whole):`)
	peepPastForm  = regexp.MustCompile(`^([+-].*:E|(pulse|timer|hold|late|count|add|sub|mul|div|rem):)`)
)

// sureOf is a second reading of PeepSure, for the text of a contact.
func sureOf(contact string) int {
	if always := map[string]int{"G0": 1, "/G1": 1, "/G0": -1, "G1": -1}[contact]; always != 0 {
		return always
	}
	found := peepTestForm.FindStringSubmatch(contact)
	if found == nil {
		return 0
	}
	a, errA := strconv.Atoi(found[1])
	b, errB := strconv.Atoi(found[3])
	same, whole := found[1] == found[3], errA == nil && errB == nil
	switch {
	case !same && !whole:
		return 0
	case same && signHolds(found[2], 0) || !same && signHolds(found[2], sideOf(a, b)):
		return 1
	}
	return -1
}

// turnOf is a second reading of PeepTurn, for the text of a contact; the empty text, if there is none.
func turnOf(contact string) string {
	if found := peepTestForm.FindStringSubmatch(contact); found != nil {
		return found[1] + map[string]string{"<": ">=", "<=": ">", "=": "<>", "<>": "=", ">=": "<", ">": "<="}[found[2]] + found[3]
	}
	found := peepBitForm.FindStringSubmatch(contact)
	switch {
	case found == nil:
		return ""
	case found[1] == contact:
		return "/" + contact
	}
	return found[1]
}

// peepLaw is one of the nine rules: the form of what it takes, and what stands there then, if it fits.
type peepLaw struct {
	form    *regexp.Regexp
	instead func(found []string) (string, bool)
}

// idleSure is what PeepSure says of a contact that goes where it is taken in by this word.
func idleSure(word string) int {
	return map[string]int{"and": 1, "or": -1}[word]
}

// peepLaws are a second reading of the rules, from the first to the ninth; the forms are made ready once.
var peepLaws = sync.OnceValue(func() []peepLaw {
	law := func(form string, instead func(found []string) (string, bool)) peepLaw {
		return peepLaw{regexp.MustCompile("^" + form), instead}
	}
	return []peepLaw{
		law(`(and|or) (\S+)\n`, func(f []string) (string, bool) { return "", sureOf(f[2]) == idleSure(f[1]) }),
		law(`mps\n((coil \S+\n)+)mrd\n`, func(f []string) (string, bool) { return f[1] + "mps\n", true }),
		law(`mps\n((coil \S+\n)+)mpp\n`, func(f []string) (string, bool) { return f[1], true }),
		law(`inv\ninv\n`, func(f []string) (string, bool) { return "", true }),
		law(`ld (\S+)\n(anb|orb)\n`, func(f []string) (string, bool) {
			return map[string]string{"anb": "and ", "orb": "or "}[f[2]] + f[1] + "\n", true
		}),
		law(`ld (\S+)\ninv\n`, func(f []string) (string, bool) { return "ld " + turnOf(f[1]) + "\n", turnOf(f[1]) != "" }),
		law(`ld (\S+)\n(and|or) (\S+)\n`, func(f []string) (string, bool) { return "ld " + f[3] + "\n", sureOf(f[1]) == idleSure(f[2]) }),
		law(`((ld|and|or) (\S+)\n)(and|or) (\S+)\n`, func(f []string) (string, bool) {
			return f[1], f[3] == f[5] && !strings.Contains(f[3], ":") && (f[2] == "ld" || f[2] == f[4])
		}),
		law(`(coil (\S+)\n)coil (\S+)\n`, func(f []string) (string, bool) { return f[1], f[2] == f[3] && peepTwiceForm.MatchString(f[2]) }),
	}
})

// shortened is a second reading of PeepOnce for the text of a list that is verified: the text behind, the first rule that fits (from 1 on), and its place; rule 0, if none fits.
func shortened(text string) (behind string, rule, place int) {
	ahead := ""
	for at, line := range strings.SplitAfter(text, "\n") {
		for i, law := range peepLaws() {
			found := law.form.FindStringSubmatch(text[len(ahead):])
			if found == nil {
				continue
			}
			if instead, fits := law.instead(found); fits {
				return ahead + instead + text[len(ahead)+len(found[0]):], i + 1, at
			}
		}
		ahead += line
	}
	return text, 0, 0
}

// pastsOf are the contacts and coils of a list that P55 names, in their order.
func pastsOf(list []impl.Inst) string {
	texts := []string{}
	for _, i := range list {
		if text := impl.ElemText(i.One); peepPastForm.MatchString(text) {
			texts = append(texts, text)
		}
	}
	return strings.Join(texts, " ")
}

// checkShorter asks for what P52, P53 and P55 say of a list that is verified and one that was made of it, but for what they do.
func checkShorter(t *testing.T, list, shorter []impl.Inst) {
	t.Helper()
	if f := impl.SureCheck(shorter); f != (impl.SureFault{}) {
		t.Errorf("%s: %v of %s", backBrief(list), f, backBrief(shorter))
	}
	if is, was := impl.SurePeak(shorter), impl.SurePeak(list); len(shorter) > len(list) || is.Bits > was.Bits || is.Forks > was.Forks {
		t.Errorf("%s: %d instructions and %v, not %d and %v", backBrief(list), len(shorter), is, len(list), was)
	}
	if is, was := pastsOf(shorter), pastsOf(list); is != was {
		t.Errorf("%s: %s, not %s", backBrief(list), brief(is), brief(was))
	}
}

// checkPeep holds each PeepOnce of a list that is verified, until none is true, and PeepAll against the second reading; it asks for P53 and P55, and for P52 but for what the lists do. It gives each list on the way, and counts the rules that fit.
func checkPeep(t *testing.T, list []impl.Inst, met map[int]int) [][]impl.Inst {
	t.Helper()
	text, lists, ahead := wayText(list), [][]impl.Inst{list}, fmt.Sprint(list)
	if f := impl.SureCheck(list); f.Code != 0 {
		t.Fatalf("%s: %v", backBrief(list), f)
	}
	for now := list; ; now = lists[len(lists)-1] {
		shorter, fits := impl.PeepOnce(now)
		want, rule, place := shortened(text)
		if got := wayText(shorter); fits != (rule > 0) || got != want {
			t.Errorf("%s: %v and %s, not %s by rule %d at %d", backBrief(now), fits, backBrief(shorter), brief(want), rule, place)
			return lists
		}
		met[rule]++
		if !fits {
			break
		}
		if len(shorter) >= len(now) {
			t.Errorf("%s: not shorter: %s", backBrief(now), backBrief(shorter))
		}
		checkShorter(t, now, shorter)
		lists, text = append(lists, shorter), want
	}
	all, last := impl.PeepAll(list), lists[len(lists)-1]
	if !sameInsts(all, last) {
		t.Errorf("%s: %s, not %s", backBrief(list), backBrief(all), backBrief(last))
	}
	checkShorter(t, list, all)
	again := impl.PeepAll(all)
	if once, fits := impl.PeepOnce(all); fits || !sameInsts(once, all) || !sameInsts(again, all) {
		t.Errorf("%s: is made to %s, and that, %v, to %s and %s", backBrief(list), backBrief(all), fits, backBrief(once), backBrief(again))
	}
	if fmt.Sprint(list) != ahead {
		t.Errorf("%s: written into: %v", brief(ahead), list)
	}
	return lists
}

// checkSameDeeds asks for P52 and P53: lists leave the same memory behind each scan.
func checkSameDeeds(t *testing.T, lists [][]impl.Inst, m impl.Mem, samples []impl.ActSample) {
	t.Helper()
	for at, s := range samples {
		want := impl.MachScan(lists[0], m, s)
		for _, list := range lists[1:] {
			if got := impl.MachScan(list, m, s); !sameMem(got, want) {
				t.Errorf("%s: by %s behind scan %d %q, not %q", backBrief(lists[0]), backBrief(list), at, impl.MemText(got), impl.MemText(want))
				return
			}
		}
		m = want
	}
}

// peepSamples are samples by chance in which all of the first inputs turn often.
func peepSamples(r *rand.Rand, count int) []impl.ActSample {
	samples := anySamples(r, count)
	for at := range samples {
		samples[at].X ^= r.Uint32() & 0x3fc
	}
	return samples
}

// checkPeepDeeds asks for all of P52, P53 and P55 of a list that is verified.
func checkPeepDeeds(t *testing.T, r *rand.Rand, list []impl.Inst, met map[int]int, mems ...impl.Mem) {
	t.Helper()
	lists := checkPeep(t, list, met)
	if len(lists) > 8 {
		lists = append(lists[:7:7], lists[len(lists)-1])
	}
	for _, m := range mems {
		checkSameDeeds(t, lists, m, peepSamples(r, 4))
	}
}

// checkNoPeep asks for nothing, of a list that is not verified.
func checkNoPeep(t *testing.T, list []impl.Inst) {
	t.Helper()
	once, fits := impl.PeepOnce(list)
	if all := impl.PeepAll(list); fits || len(once) != 0 || len(all) != 0 {
		t.Errorf("%d instructions, %v: %v with %s, and %s", len(list), impl.SureCheck(list), fits, backBrief(once), backBrief(all))
	}
}

// peepContacts are contacts of each Op with each operand, or each two operands, of many.
func peepContacts() []impl.Elem {
	list := []impl.Elem{}
	operands := append(sampleOperands(), written{operand(6, 2, 0), "G2"}, written{operand(6, 3, 0), "G3"}, written{operand(7, 2, 0), "T2"}, written{operand(9, 2, 0), "D2"}, written{operand(11, 7, 0), "7"}, written{operand(12, 15, 1), "1.5"})
	for _, row := range elemRows() {
		if row.op > 10 {
			continue
		}
		for _, a := range operands {
			if e, texts := elemOf(row.op, []written{a}); row.take(texts) {
				list = append(list, e)
			}
			for _, b := range operands {
				if e, texts := elemOf(row.op, []written{a, b}); row.take(texts) {
					list = append(list, e)
				}
			}
		}
	}
	return list
}

// noContacts are coils, contacts that are not ok, and what is neither.
func noContacts() []impl.Elem {
	_, coils := contactsAndCoils()
	list := slices.Concat(elemsSure(coils), elemsSure(closeCoils()), wrongContacts(), slices.DeleteFunc(wrongCoils(), impl.ElemIsContact), []impl.Elem{{}, {Args: []impl.DevArg{operand(6, 0, 0)}}})
	operands := append(sampleOperands(), badOperands()...)
	for _, row := range elemRows() {
		for _, a := range operands {
			if e, texts := elemOf(row.op, []written{a}); !row.take(texts) {
				list = append(list, e)
			}
			for _, b := range []written{a, {operand(6, 0, 0), "G0"}, {operand(9, 1, 0), "D1"}, {operand(11, 3, 0), "3"}, {operand(10, 1, 0), "R1"}} {
				if e, texts := elemOf(row.op, []written{a, b}); !row.take(texts) {
					list = append(list, e)
				}
				if e, texts := elemOf(row.op, []written{a, b, b}); !row.take(texts) {
					list = append(list, e)
				}
			}
		}
	}
	for _, op := range wrongElemOps() {
		for _, args := range [][]impl.DevArg{nil, {operand(6, 0, 0)}, {operand(6, 1, 0)}, {operand(9, 1, 0), operand(9, 1, 0)}, {operand(11, 1, 0), operand(11, 2, 0)}} {
			list = append(list, impl.Elem{Op: op, Args: args})
		}
	}
	return list
}

// PeepSure by contacts that are written out here.
func TestPeepSureWrittenOut(t *testing.T) {
	for want, contacts := range map[int]string{
		1: "G0 /G1 0=0 3=3 -32768=-32768 32767<=32767 0>=0 1<2 -1<0 -32768<32767 2>1 0>-1 32767>-32768 1<=2 2>=1 1<>2 -1<>1 9<10 10>9 -10<-9 " +
			"D1=D1 D1<=D1 D1>=D1 D31=D31 T1=T1 T15<=T15 T0>=T0 C0=C0 C1<=C1 C15>=C15",
		-1: "G1 /G0 0<0 3>3 5<>5 1=2 2<1 1>2 2<=1 1>=2 -1>1 32767<-32768 -32768>32767 -32768=32767 10<9 " +
			"D1<D1 D1>D1 D1<>D1 T1<T1 T1>T1 T2<>T2 C0<C0 C15>C15 C1<>C1",
		0: "G2 /G2 G3 /G3 G4 /G4 X0 /X0 X1 Y0 /Y1 M0 M1 /M0 S0 S1 /S1 T0 T1 /T0 C0 C1 /C1 +X0:E0 -X0:E0 +G0:E0 -G0:E0 +G1:E1 -G1:E1 +G1:E0 " +
			"D1=D2 D1<D2 D1<=D2 D1<>D2 D1>=D2 D1>D2 T1=C1 C1=T1 T1<=D1 D1=T1 C1>=D1 T0=T1 C0<C1 D0=0 0=D0 D1<5 5<D1 T1>=0 0<=T1 C1>=0 T1<0 C1<=32767 D1<=32767 D1>=-32768 D1>32767 -32768<=D1 T1>32767 " +
			"R1=R1 R1<>R1 R1<R1 R1<=R1 R1>=R1 R1>R1 R0=R1 R1<R2 1.5=1.5 1.5<2.5 2.5<1.5 1.5<>1.5 0.0=0.0 0.0=-0.0 -0.0=-0.0 0.0<=0.1 nan=nan nan<>nan nan<inf inf=inf inf>-inf -inf<inf inf>=1.0 R1=nan R1<>nan nan<>R1 R1<=inf R1>=-inf",
	} {
		for _, text := range strings.Fields(contacts) {
			if got := impl.PeepSure(elemSure(text)); got != want || sureOf(text) != want {
				t.Errorf("%s: %d, not %d, by the second reading %d", text, got, want, sureOf(text))
			}
		}
	}
}

// PeepTurn by contacts that are written out here, with the contact that says the opposite behind, where there is one.
func TestPeepTurnWrittenOut(t *testing.T) {
	for _, pair := range strings.Fields("X0|/X0 X31|/X31 Y0|/Y0 Y31|/Y31 M0|/M0 M63|/M63 S0|/S0 S15|/S15 G0|/G0 G1|/G1 G2|/G2 G3|/G3 G4|/G4 T0|/T0 T15|/T15 C0|/C0 C15|/C15 " +
		"D1<D2|D1>=D2 D1<=D2|D1>D2 D1=D2|D1<>D2 D2<D1|D2>=D1 T1<C1|T1>=C1 C1<=T1|C1>T1 T0=5|T0<>5 5<C0|5>=C0 -3<=D0|-3>D0 D31=-32768|D31<>-32768 D1=D1|D1<>D1 D1<D1|D1>=D1 1<2|1>=2 2<=2|2>2 3=3|3<>3 0=0|0<>0") {
		one, other, _ := strings.Cut(pair, "|")
		for range 2 {
			e, ok := impl.PeepTurn(elemSure(one))
			if !ok || impl.ElemText(e) != other || !sameElem(e, elemSure(other)) || turnOf(one) != other {
				t.Errorf("%s: %v and %v, not %s, by the second reading %s", one, e, ok, other, turnOf(one))
			}
			one, other = other, one
		}
	}
	for _, text := range strings.Fields("+X0:E0 -X0:E0 +G0:E1 -G1:E1 +T0:E31 -C15:E0 +M63:E31 -S0:E2 R1<R2 R1<=R2 R1=R2 R1<>R2 R1>=R2 R1>R2 R1=R1 R1<>R1 R1<R1 R0<1.5 1.5>=R0 R0=nan nan<>R0 nan=nan inf<-inf 1.5<2.5 1.5=1.5 0.0<>-0.0 -0.0>=0.0") {
		if e, ok := impl.PeepTurn(elemSure(text)); ok || !sameElem(e, impl.Elem{}) || turnOf(text) != "" {
			t.Errorf("%s: %v and %v, by the second reading %s", text, e, ok, turnOf(text))
		}
	}
}

// P54, and both calls against the second readings, of each contact with each of many operands, on many memories.
func TestPeepOfEachContact(t *testing.T) {
	mems, met, turns := append(someMems(), actMems()...), map[int]int{}, map[bool]int{}
	for _, e := range peepContacts() {
		text, ahead := impl.ElemText(e), fmt.Sprint(e)
		sure := impl.PeepSure(e)
		other, ok := impl.PeepTurn(e)
		if sure != sureOf(text) || impl.ElemText(other) != turnOf(text) || ok != (turnOf(text) != "") || !ok && !sameElem(other, impl.Elem{}) {
			t.Errorf("%s: %d, and %v %v, not %d and %q", text, sure, other, ok, sureOf(text), turnOf(text))
		}
		met[sure]++
		turns[ok]++
		if ok {
			if back, ok := impl.PeepTurn(other); !ok || !sameElem(back, e) || !slices.Equal(other.Args, e.Args) || impl.PeepSure(other) != -sure {
				t.Errorf("%s: turned to %v, and that to %v; %d", text, other, back, impl.PeepSure(other))
			}
		}
		for _, m := range mems {
			left, says := impl.ActTest(m, e)
			behind, opposite := impl.ActTest(m, other)
			if ok && (says == opposite || !sameMem(left, behind)) || sure != 0 && says != (sure > 0) {
				t.Errorf("%s on %q: %v, turned %v, always %d", text, brief(impl.MemText(m)), says, opposite, sure)
			}
		}
		if fmt.Sprint(e) != ahead {
			t.Errorf("%s: written into: %v", ahead, e)
		}
	}
	if met[1] < 30 || met[-1] < 30 || met[0] < 1000 || turns[true] < 1000 || turns[false] < 500 {
		t.Errorf("%v, %v", met, turns)
	}
}

// Of two whole numbers, at the edges and between, the test is as it is reckoned.
func TestPeepSureOfWholeNumbers(t *testing.T) {
	for _, a := range wholeEdges() {
		for _, b := range wholeEdges() {
			for op, sign := range cmpSigns() {
				e := impl.Elem{Op: 5 + op, Args: []impl.DevArg{operand(11, int(a), 0), operand(11, int(b), 0)}}
				want := -1
				if signHolds(sign, sideOf(int(a), int(b))) {
					want = 1
				}
				if got := impl.PeepSure(e); got != want {
					t.Errorf("%s: %d", impl.ElemText(e), got)
				}
			}
		}
	}
}

// What is no contact, and contacts that are not ok: nothing is always so, and nothing says the opposite. Places are not counted round here.
func TestPeepOfWhatIsNoContact(t *testing.T) {
	wrong := noContacts()
	for _, op := range []int{1, 2} {
		for _, a := range []impl.DevArg{operand(6, 5, 0), operand(6, 8, 0), operand(6, 9, 0), operand(6, -8, 0), operand(6, -1, 0), operand(6, 0, 1), operand(6, 1, -1), operand(1, 32, 0), operand(5, 0, 0), operand(9, 0, 0), operand(11, 0, 0), {}} {
			wrong = append(wrong, impl.Elem{Op: op, Args: []impl.DevArg{a}})
		}
		wrong = append(wrong, impl.Elem{Op: op}, impl.Elem{Op: op, Args: []impl.DevArg{operand(6, 0, 0), operand(6, 0, 0)}}, impl.Elem{Op: op + 1<<32, Args: []impl.DevArg{operand(6, 0, 0)}}, impl.Elem{Op: -op, Args: []impl.DevArg{operand(6, 0, 0)}})
	}
	for op := 5; op <= 10; op++ {
		for _, a := range []impl.DevArg{operand(9, 32, 0), operand(9, -1, 0), operand(9, 1, 1), operand(7, 16, 0), operand(8, 16, 0), operand(11, 32768, 0), operand(11, -32769, 0), operand(11, 3, 1), operand(1, 0, 0), operand(5, 0, 0), operand(6, 0, 0), operand(12, 10, 2), operand(13, 4, 0), {}} {
			wrong = append(wrong, impl.Elem{Op: op, Args: []impl.DevArg{a, a}}, impl.Elem{Op: op, Args: []impl.DevArg{a, operand(11, 1, 0)}}, impl.Elem{Op: op, Args: []impl.DevArg{operand(11, 1, 0), a}})
		}
		d, r := operand(9, 1, 0), operand(10, 1, 0)
		for _, args := range [][]impl.DevArg{nil, {d}, {d, d, d}, {d, r}, {r, d}, {d, operand(12, 15, 1)}, {operand(13, 0, 0), d}} {
			wrong = append(wrong, impl.Elem{Op: op, Args: args})
		}
	}
	for _, e := range wrong {
		if impl.ElemIsContact(e) {
			t.Fatalf("%v: a contact", e)
		}
		turned, ok := impl.PeepTurn(e)
		if sure := impl.PeepSure(e); sure != 0 || ok || !sameElem(turned, impl.Elem{}) {
			t.Errorf("%v: %d, and %v %v", e, sure, turned, ok)
		}
	}
	if len(wrong) < 5000 {
		t.Errorf("%d", len(wrong))
	}
}

// What PeepTurn gives is new memory, and what stands behind the operands counts for nothing.
func TestPeepTurnIsNewMemory(t *testing.T) {
	for _, e := range append(peepContacts(), noContacts()...) {
		given := impl.Elem{Op: e.Op, Args: roomy(e.Args, operand(1, 9, 0))}
		want, ok := impl.PeepTurn(e)
		ahead := fmt.Sprint(given, given.Args[:cap(given.Args)])
		got, is := impl.PeepTurn(given)
		sure := impl.PeepSure(given)
		if is != ok || !sameElem(got, want) || sure != impl.PeepSure(e) {
			t.Errorf("%v: with room behind %v and %v, %d", e, got, is, sure)
		}
		for i := range got.Args[:cap(got.Args)] {
			got.Args[:cap(got.Args)][i] = operand(2, 7, 7)
		}
		if fmt.Sprint(given, given.Args[:cap(given.Args)]) != ahead {
			t.Errorf("%v: the answer shares its operands, or they are written into", e)
		}
		if again, _ := impl.PeepTurn(given); !sameElem(again, want) {
			t.Errorf("%v: a later answer sees what is written into one: %v", e, again)
		}
	}
}

// peepRow is a list, what PeepOnce makes of it, and the rule that does and its place; rule 0, if none fits.
type peepRow struct {
	list, shorter string
	rule, place   int
}

// peepNetRows are of the rules that turn nets alone; behind what stands here is a coil and the end.
func peepNetRows() []peepRow {
	rows := []peepRow{
		// Within, taken into another one, and several of them.
		{"ld X0;and X1;and G0;or X2", "ld X0;and X1;or X2", 1, 2}, {"ld X0;or X1;or G1;inv", "ld X0;or X1;inv", 1, 2}, {"ld X0;ld X1;or G1;and X2;orb", "ld X0;ld X1;and X2;orb", 1, 2}, {"ld X0;ld X1;and X2;orb;and G0", "ld X0;ld X1;and X2;orb", 1, 4}, {"ld X0;inv;ld X1;or X2;anb;and G0", "ld /X0;ld X1;or X2;anb;and G0", 6, 0}, {"ld X0;and G0;and G0", "ld X0;and G0", 1, 1}, {"ld X0;or G1;and G0", "ld X0;and G0", 1, 1}, {"ld X0;and G1;and G0", "ld X0;and G1", 1, 2}, {"ld X0;and G0;and X0", "ld X0;and X0", 1, 1}, {"ld +X0:E0;and G0;and +X0:E0", "ld +X0:E0;and +X0:E0", 1, 1}, {"ld X0;and G0;inv", "ld X0;inv", 1, 1},
		// inv, inv.
		{"ld X0;and X1;inv;inv", "ld X0;and X1", 4, 2}, {"ld X0;or X1;inv;inv;and X2", "ld X0;or X1;and X2", 4, 2}, {"ld +X0:E0;inv;inv", "ld +X0:E0", 4, 1}, {"ld R0<R1;inv;inv", "ld R0<R1", 4, 1}, {"ld -X0:E0;inv;inv;inv", "ld -X0:E0;inv", 4, 1}, {"ld X0;or X1;inv;inv;inv", "ld X0;or X1;inv", 4, 2}, {"ld X0;and X1;inv;inv;inv;inv", "ld X0;and X1;inv;inv", 4, 2}, {"ld X0;ld X1;and X2;inv;inv;orb", "ld X0;ld X1;and X2;orb", 4, 3}, {"ld X0;ld X1;or X2;anb;inv;inv", "ld X0;ld X1;or X2;anb", 4, 4},
		// ld, anb and ld, orb.
		{"ld X0;ld X1;anb", "ld X0;and X1", 5, 1}, {"ld X0;ld X1;orb", "ld X0;or X1", 5, 1}, {"ld X0;ld X0;anb", "ld X0;and X0", 5, 1}, {"ld X0;ld G0;anb", "ld X0;and G0", 5, 1}, {"ld X0;ld G0;orb", "ld X0;or G0", 5, 1}, {"ld X0;ld +X1:E1;anb;inv", "ld X0;and +X1:E1;inv", 5, 1}, {"ld R0<R1;ld -X1:E1;orb", "ld R0<R1;or -X1:E1", 5, 1}, {"ld X0;ld nan<>R1;orb", "ld X0;or nan<>R1", 5, 1}, {"ld X0;ld D1<=-5;anb", "ld X0;and D1<=-5", 5, 1}, {"ld X0;or X1;ld X2;anb;and X3", "ld X0;or X1;and X2;and X3", 5, 2}, {"ld X0;ld X1;ld X2;orb;anb", "ld X0;ld X1;or X2;anb", 5, 2}, {"ld X0;ld X1;ld X2;anb;orb", "ld X0;ld X1;and X2;orb", 5, 2}, {"ld X0;ld X1;ld X2;ld X3;orb;anb;orb", "ld X0;ld X1;ld X2;or X3;anb;orb", 5, 3}, {"ld X0;ld X1;anb;ld X2;orb", "ld X0;and X1;ld X2;orb", 5, 1},
		// ld, inv.
		{"ld X0;inv", "ld /X0", 6, 0}, {"ld /X0;inv", "ld X0", 6, 0}, {"ld G0;inv", "ld /G0", 6, 0}, {"ld G4;inv;and X1", "ld /G4;and X1", 6, 0}, {"ld X0;inv;inv", "ld /X0;inv", 6, 0}, {"ld X0;inv;inv;inv", "ld /X0;inv;inv", 6, 0}, {"ld T1<C1;inv", "ld T1>=C1", 6, 0}, {"ld 3=3;inv", "ld 3<>3", 6, 0}, {"ld D1<>5;inv;or X1", "ld D1=5;or X1", 6, 0}, {"ld X0;or X1;ld X2;inv;anb", "ld X0;or X1;ld /X2;anb", 6, 2}, {"ld X0;ld X1;inv;orb", "ld X0;ld /X1;orb", 6, 1}, {"ld X0;ld X1;and X2;ld D0>=D1;inv;orb;anb", "ld X0;ld X1;and X2;ld D0<D1;orb;anb", 6, 3},
		// ld of a contact that always says the same.
		{"ld G0;and X0", "ld X0", 7, 0}, {"ld /G1;and +X0:E0", "ld +X0:E0", 7, 0}, {"ld G1;or X0", "ld X0", 7, 0}, {"ld /G0;or -X0:E0", "ld -X0:E0", 7, 0}, {"ld 2=2;and R1<R2", "ld R1<R2", 7, 0}, {"ld D1<D1;or /T1", "ld /T1", 7, 0}, {"ld G0;and G1", "ld G1", 7, 0}, {"ld G1;or G0", "ld G0", 7, 0}, {"ld G0;and G0", "ld G0", 7, 0}, {"ld G1;or G1", "ld G1", 7, 0}, {"ld G0;and /G1;or X0", "ld /G1;or X0", 7, 0}, {"ld G0;and X0;and X1;inv", "ld X0;and X1;inv", 7, 0}, {"ld X0;ld G0;and X1;orb", "ld X0;ld X1;orb", 7, 1}, {"ld X0;ld X1;and X2;ld 5<5;or X3;anb;orb", "ld X0;ld X1;and X2;ld X3;anb;orb", 7, 3},
		// The same contact once more.
		{"ld X0;and X1;and X1", "ld X0;and X1", 8, 1}, {"ld X0;or X1;or X1", "ld X0;or X1", 8, 1}, {"ld X0;and X1;and X1;and X1", "ld X0;and X1;and X1", 8, 1}, {"ld X0;and X0;and X0", "ld X0;and X0", 8, 0}, {"ld X0;and X0;or X0", "ld X0;or X0", 8, 0}, {"ld X0;or X0;and X0", "ld X0;and X0", 8, 0}, {"ld G1;and G1", "ld G1", 8, 0}, {"ld G0;or G0", "ld G0", 8, 0}, {"ld X0;and G1;and G1", "ld X0;and G1", 8, 1}, {"ld X0;or 1<2;or 1<2", "ld X0;or 1<2", 8, 1}, {"ld X0;and R1=R1;and R1=R1", "ld X0;and R1=R1", 8, 1}, {"ld X0;or nan<>nan;or nan<>nan", "ld X0;or nan<>nan", 8, 1}, {"ld X0;ld X1;or X1;anb", "ld X0;ld X1;anb", 8, 1}, {"ld X0;or X1;ld X2;and X3;and X3;orb;inv", "ld X0;or X1;ld X2;and X3;orb;inv", 8, 3},
		// One that fits ahead of another goes ahead of it, whichever comes first.
		{"ld X0;and X0;and G0", "ld X0;and G0", 8, 0}, {"ld X0;and G0;or X1;or X1", "ld X0;or X1;or X1", 1, 1}, {"ld X0;inv;and G0", "ld /X0;and G0", 6, 0}, {"ld G0;and X1;inv;inv", "ld X1;inv;inv", 7, 0}, {"ld X0;ld X1;inv;inv;anb", "ld X0;ld /X1;inv;anb", 6, 1}, {"ld X0;and X1;and X1;inv;inv", "ld X0;and X1;inv;inv", 8, 1}, {"ld X0;and X1;inv;inv;and X1;and X1", "ld X0;and X1;and X1;and X1", 4, 2}, {"ld X0;ld X1;anb;and G0", "ld X0;and X1;and G0", 5, 1},
	}
	for _, always := range strings.Fields("G0 /G1 0=0 3>2 -1<0 1<>2 5<=5 5>=5 D1=D1 D31<=D31 T1>=T1 C0=C0") {
		rows = append(rows, peepRow{"ld X0;and " + always, "ld X0", 1, 1}, peepRow{"ld " + always + ";and X0", "ld X0", 7, 0}, peepRow{"ld X0;or " + always, "ld X0;or " + always, 0, 0}, peepRow{"ld " + always + ";or X0", "ld " + always + ";or X0", 0, 0})
	}
	for _, never := range strings.Fields("G1 /G0 0<>0 3<2 -1>0 1=2 D1<D1 D31<>D31 T1>T1 C0<C0") {
		rows = append(rows, peepRow{"ld X0;or " + never, "ld X0", 1, 1}, peepRow{"ld " + never + ";or X0", "ld X0", 7, 0}, peepRow{"ld X0;and " + never, "ld X0;and " + never, 0, 0}, peepRow{"ld " + never + ";and X0", "ld " + never + ";and X0", 0, 0})
	}
	return append(rows, peepEdgeRows()...)
}

// peepEdgeRows have each sort of contact twice, alike and not, and turned.
func peepEdgeRows() []peepRow {
	rows := []peepRow{}
	for _, c := range strings.Fields("X31 /Y1 M63 /S15 G2 /G3 T0 /T15 C0 D1<D2 T1<=C1 D1=5 5<>D1 C1>=T1 -32768>D0 R1<R2 R0<=R0 R1=R1 nan<>nan R1>=-0.0 1.5>R2") {
		rows = append(rows, peepRow{"ld " + c + ";and " + c, "ld " + c, 8, 0}, peepRow{"ld " + c + ";or " + c, "ld " + c, 8, 0}, peepRow{"ld X0;and " + c + ";and " + c, "ld X0;and " + c, 8, 1}, peepRow{"ld X0;or " + c + ";or " + c, "ld X0;or " + c, 8, 1})
		// Of two that are the same, but not the same instruction, none goes.
		rows = append(rows, peepRow{"ld X0;and " + c + ";or " + c, "", 0, 0}, peepRow{"ld X0;or " + c + ";and " + c, "", 0, 0}, peepRow{"ld X0;and " + c + ";inv;and " + c, "", 0, 0})
	}
	// What has a history is asked as often as it stands there, and not turned.
	for _, c := range strings.Fields("+X0:E1 -X0:E1 +T0:E31 -C15:E0 +G0:E0 -G1:E2 +G1:E0") {
		for _, list := range []string{"ld %;and %", "ld %;or %", "ld X1;and %;and %", "ld X1;or %;or %", "ld %;inv", "ld X1;ld %;inv;anb", "ld %;inv;and %", "ld %;and X1", "ld %;or X1", "ld X1;and %", "ld X1;or %"} {
			rows = append(rows, peepRow{strings.ReplaceAll(list, "%", c), "", 0, 0})
		}
	}
	for _, list := range []string{"ld R1<R2;inv", "ld R1=R1;inv", "ld 1.5<2.5;inv", "ld nan<>nan;inv;and X0", "ld X0;and R1=R1", "ld X0;or R1<>R1", "ld R0>=R0;and X0", "ld X0;and 1.5<2.5", "ld X0;or nan<nan", "ld X0;and D1=D2", "ld X0;and G2", "ld X0;or G3", "ld G2;and X0", "ld G4;or X0", "ld X0;and X1;inv;and X2;inv", "ld X0;and X1;inv", "ld X0;ld X1;and X2;inv;orb", "ld X0;ld X1;or X2;anb", "ld X0;ld X1;and X2;orb", "ld X0;and X1", "ld X0;and X1;and X0", "ld X0;and X1;or X0;and X1", "ld X0;and /X0", "ld X0;or /X0", "ld D1<D2;and D2>D1", "ld D1<D2;and D1<=D2", "ld +X0:E0;and +X0:E1"} {
		rows = append(rows, peepRow{list, "", 0, 0})
	}
	return rows
}

// peepCoilRows are whole rungs, in which rules fit behind coils and forks.
func peepCoilRows() []peepRow {
	rows := []peepRow{
		{"ld X0;coil out:Y0;and G0;coil out:Y1;end", "ld X0;coil out:Y0;coil out:Y1;end", 1, 2}, {"ld X0;coil out:Y0;and X1;and 1<2;coil out:Y1;end", "ld X0;coil out:Y0;and X1;coil out:Y1;end", 1, 3}, {"ld X0;mps;and G0;coil out:Y0;mpp;and X1;coil out:Y1;end", "ld X0;mps;coil out:Y0;mpp;and X1;coil out:Y1;end", 1, 2}, {"ld X0;mps;and X1;coil out:Y0;mrd;and G0;coil out:Y1;mpp;and G0;coil out:Y2;end", "ld X0;mps;and X1;coil out:Y0;mrd;coil out:Y1;mpp;and G0;coil out:Y2;end", 1, 5}, {"ld X0;mps;and X1;coil out:Y0;mpp;and /G1;coil out:Y1;end", "ld X0;mps;and X1;coil out:Y0;mpp;coil out:Y1;end", 1, 5},
		// An mps with coils behind it, and then an mrd.
		{"ld X0;mps;coil out:Y0;mrd;and X1;coil out:Y1;mpp;coil out:Y2;end", "ld X0;coil out:Y0;mps;and X1;coil out:Y1;mpp;coil out:Y2;end", 2, 1}, {"ld X0;mps;coil out:Y0;coil out:Y0;coil add:D1,D1,1;mrd;and X1;coil out:Y1;mpp;coil out:Y2;end", "ld X0;coil out:Y0;coil out:Y0;coil add:D1,D1,1;mps;and X1;coil out:Y1;mpp;coil out:Y2;end", 2, 1}, {"ld X0;mps;coil out:Y0;mrd;coil out:Y1;mpp;and X1;coil out:Y2;end", "ld X0;coil out:Y0;mps;coil out:Y1;mpp;and X1;coil out:Y2;end", 2, 1}, {"ld X0;mps;coil out:Y0;mrd;ld X1;or X2;anb;coil out:Y1;mpp;coil out:Y2;end", "ld X0;coil out:Y0;mps;ld X1;or X2;anb;coil out:Y1;mpp;coil out:Y2;end", 2, 1},
		{"ld X0;mps;coil out:Y0;mrd;mps;and X1;coil out:Y1;mpp;coil out:Y2;mpp;coil out:Y3;end", "ld X0;coil out:Y0;mps;mps;and X1;coil out:Y1;mpp;coil out:Y2;mpp;coil out:Y3;end", 2, 1}, {"ld X0;mps;and X1;mps;coil out:Y0;mrd;and X2;coil out:Y1;mpp;coil out:Y2;mpp;coil out:Y3;end", "ld X0;mps;and X1;coil out:Y0;mps;and X2;coil out:Y1;mpp;coil out:Y2;mpp;coil out:Y3;end", 2, 3}, {"ld X0;mps;mps;coil out:Y0;mrd;and X1;coil out:Y1;mpp;coil out:Y2;mpp;coil out:Y3;end", "ld X0;mps;coil out:Y0;mps;and X1;coil out:Y1;mpp;coil out:Y2;mpp;coil out:Y3;end", 2, 2}, {"ld X0;or X1;coil out:Y0;mps;coil out:Y1;mrd;and X2;coil out:Y2;mpp;and X3;coil out:Y3;end", "ld X0;or X1;coil out:Y0;coil out:Y1;mps;and X2;coil out:Y2;mpp;and X3;coil out:Y3;end", 2, 3}, {"ld X0;mps;coil pulse:M0,E1;mrd;and X1;coil out:Y1;mrd;coil out:Y2;mpp;coil out:Y3;end", "ld X0;coil pulse:M0,E1;mps;and X1;coil out:Y1;mrd;coil out:Y2;mpp;coil out:Y3;end", 2, 1},
		// An mps with coils behind it, and then an mpp.
		{"ld X0;mps;coil out:Y0;mpp;coil out:Y1;end", "ld X0;coil out:Y0;coil out:Y1;end", 3, 1}, {"ld X0;mps;coil out:Y0;mpp;coil out:Y0;end", "ld X0;coil out:Y0;coil out:Y0;end", 3, 1}, {"ld X0;mps;coil out:Y0;coil set:M1;coil timer:T1,5;mpp;and X1;coil out:Y1;end", "ld X0;coil out:Y0;coil set:M1;coil timer:T1,5;and X1;coil out:Y1;end", 3, 1}, {"ld X0;coil out:Y0;mps;coil out:Y1;mpp;and X1;coil out:Y2;end", "ld X0;coil out:Y0;coil out:Y1;and X1;coil out:Y2;end", 3, 2}, {"ld X0;mps;coil out:Y0;mpp;ld X1;or X2;anb;coil out:Y1;end", "ld X0;coil out:Y0;ld X1;or X2;anb;coil out:Y1;end", 3, 1},
		{"ld X0;mps;coil out:Y0;mpp;mps;and X1;coil out:Y1;mpp;coil out:Y2;end", "ld X0;coil out:Y0;mps;and X1;coil out:Y1;mpp;coil out:Y2;end", 3, 1}, {"ld X0;mps;and X1;coil out:Y0;mpp;and X2;mps;coil out:Y1;mpp;and X3;coil out:Y2;end", "ld X0;mps;and X1;coil out:Y0;mpp;and X2;coil out:Y1;and X3;coil out:Y2;end", 3, 6}, {"ld X0;mps;mps;coil out:Y0;mpp;coil out:Y1;mpp;coil out:Y2;end", "ld X0;mps;coil out:Y0;coil out:Y1;mpp;coil out:Y2;end", 3, 2}, {"ld X0;mps;and X1;mps;coil out:Y0;mpp;coil out:Y1;mrd;coil out:Y2;mpp;coil out:Y3;end", "ld X0;mps;and X1;coil out:Y0;coil out:Y1;mrd;coil out:Y2;mpp;coil out:Y3;end", 3, 3},
		// Any other instruction behind the coils, or no coil; and an mrd without an mps just ahead.
		{"ld X0;mps;coil out:Y0;and X1;coil out:Y1;mpp;coil out:Y2;end", "", 0, 0}, {"ld X0;mps;coil out:Y0;coil out:Y1;and X1;coil out:Y1;mrd;coil out:Y2;mpp;coil out:Y2;end", "", 0, 0}, {"ld X0;mps;coil out:Y0;ld X1;or X2;anb;coil out:Y1;mpp;coil out:Y2;end", "", 0, 0}, {"ld X0;mps;coil out:Y0;mps;and X1;coil out:Y1;mpp;coil out:Y2;mpp;coil out:Y3;end", "", 0, 0}, {"ld X0;mps;and X1;coil out:Y0;mrd;coil out:Y1;mrd;coil out:Y2;mpp;coil out:Y3;end", "", 0, 0}, {"ld X0;mps;and X1;coil out:Y0;mpp;coil out:Y1;end", "", 0, 0}, {"ld X0;mps;ld X1;or X2;anb;coil out:Y0;mrd;and X3;coil out:Y1;mpp;and X4;coil out:Y2;end", "", 0, 0}, {"ld X0;mps;mps;and X1;coil out:Y0;mpp;coil out:Y1;mpp;coil out:Y2;end", "", 0, 0},
		// Nets that begin behind a coil, a fork, or within a kid.
		{"ld X0;coil out:Y0;ld X1;anb;coil out:Y1;end", "ld X0;coil out:Y0;and X1;coil out:Y1;end", 5, 2}, {"ld X0;coil out:Y0;ld X1;ld X2;orb;anb;coil out:Y1;end", "ld X0;coil out:Y0;ld X1;or X2;anb;coil out:Y1;end", 5, 3}, {"ld X0;mps;ld X1;anb;coil out:Y0;mpp;ld X2;anb;coil out:Y1;end", "ld X0;mps;and X1;coil out:Y0;mpp;ld X2;anb;coil out:Y1;end", 5, 2}, {"ld X0;mps;and X1;coil out:Y0;mrd;coil out:Y1;mpp;ld +X2:E2;anb;coil out:Y1;end", "ld X0;mps;and X1;coil out:Y0;mrd;coil out:Y1;mpp;and +X2:E2;coil out:Y1;end", 5, 7}, {"ld X0;coil out:Y0;ld T1>=5;inv;anb;coil out:Y1;end", "ld X0;coil out:Y0;ld T1<5;anb;coil out:Y1;end", 6, 2}, {"ld X0;coil out:Y0;ld X1;or X2;inv;inv;anb;coil out:Y1;end", "ld X0;coil out:Y0;ld X1;or X2;anb;coil out:Y1;end", 4, 4}, {"ld X0;coil out:Y0;ld G1;or X1;anb;coil out:Y1;end", "ld X0;coil out:Y0;ld X1;anb;coil out:Y1;end", 7, 2}, {"ld X0;coil out:Y0;and X1;and X1;coil out:Y1;end", "ld X0;coil out:Y0;and X1;coil out:Y1;end", 8, 2}, {"ld X0;mps;and X1;coil out:Y0;mpp;and X2;and X2;coil out:Y1;end", "ld X0;mps;and X1;coil out:Y0;mpp;and X2;coil out:Y1;end", 8, 5},
		{"ld X0;coil out:Y0;and X0;coil out:Y1;and X0;coil out:Y2;end", "", 0, 0}, {"ld X0;mps;and X0;coil out:Y0;mpp;and X0;coil out:Y1;end", "", 0, 0}, {"ld X0;and X1;ld X2;ld X3;or X4;inv;anb;orb;coil out:Y0;mps;and X5;coil out:Y1;mrd;ld X6;or X7;anb;coil out:Y2;and X8;coil set:M1;mpp;coil reset:M1;end", "", 0, 0},
	}
	for _, c := range strings.Fields("out:Y0 out:M63 set:Y1 set:M0 set:S15 reset:Y0 reset:M1 reset:S0 reset:T1 reset:C15 step:S8 move:D1,5 move:D1,D1 move:D0,T1 move:R1,R2 move:R1,nan move:R1,R1 real:R1,D1 real:R0,-5 whole:D1,R1 whole:D2,inf") {
		put := strings.NewReplacer("%", c).Replace
		for _, row := range []peepRow{{"ld X0;coil %;coil %;end", "ld X0;coil %;end", 9, 1}, {"ld X0;coil %;coil %;coil %;end", "ld X0;coil %;coil %;end", 9, 1}, {"ld X0;coil out:Y9;coil %;coil %;coil out:Y9;end", "ld X0;coil out:Y9;coil %;coil out:Y9;end", 9, 2}, {"ld X0;mps;and X1;coil %;coil %;mrd;coil out:Y9;mpp;coil %;coil %;end", "ld X0;mps;and X1;coil %;mrd;coil out:Y9;mpp;coil %;coil %;end", 9, 3}, {"ld X0;mps;coil %;coil %;mpp;and X1;coil %;coil %;end", "ld X0;coil %;coil %;and X1;coil %;coil %;end", 3, 1}, {"ld X0;coil %;coil out:Y9;coil %;end", "", 0, 0}, {"ld X0;coil %;and X1;coil %;end", "", 0, 0}, {"ld X0;coil %;end;ld X0;coil %;end", "", 0, 0}} {
			rows = append(rows, peepRow{put(row.list), put(row.shorter), row.rule, row.place})
		}
	}
	for _, c := range strings.Fields("pulse:Y0,E1 pulse:M0,E0 timer:T1,5 timer:T0,0 hold:T1,5 hold:T2,0 late:T1,5 count:C1,2 count:C0,0 add:D1,D1,1 add:D1,2,3 sub:D1,D2,D3 mul:D1,D1,0 div:D1,D2,1 div:D1,D1,0 rem:D1,D1,5 rem:D1,1,0 add:R1,R1,1.5 sub:R1,R2,R2 mul:R1,R1,nan div:R1,R2,0.0") {
		rows = append(rows, peepRow{"ld X0;coil " + c + ";coil " + c + ";end", "", 0, 0}, peepRow{"ld X0;coil out:Y0;coil " + c + ";coil " + c + ";coil " + c + ";coil out:Y0;end", "", 0, 0})
	}
	for _, two := range []string{"out:Y0;coil out:Y1", "out:Y0;coil out:M0", "out:Y0;coil set:Y0", "set:M0;coil reset:M0", "move:D1,1;coil move:D1,2", "move:D1,D2;coil move:D2,D1", "real:R1,D1;coil real:R2,D1", "whole:D1,R1;coil whole:D1,R2", "step:S0;coil step:S1", "step:S0;coil set:S0", "pulse:M0,E0;coil out:M0"} {
		rows = append(rows, peepRow{"ld X0;coil " + two + ";end", "", 0, 0})
	}
	return rows
}

// peepRows are whole lists.
func peepRows() []peepRow {
	rows := peepCoilRows()
	for _, row := range peepNetRows() {
		row.list += ";coil out:Y0;end"
		if row.rule > 0 {
			row.shorter += ";coil out:Y0;end"
		}
		rows = append(rows, row)
	}
	for i, row := range rows {
		if row.rule == 0 {
			rows[i].shorter = row.list
		}
	}
	return rows
}

// checkOnce asks for what PeepOnce makes of a list, and which rule does it by the second reading.
func checkOnce(t *testing.T, row peepRow) {
	t.Helper()
	list := listSure(row.list)
	shorter, fits := impl.PeepOnce(list)
	if want := listSure(row.shorter); fits != (row.rule > 0) || !sameInsts(shorter, want) {
		t.Errorf("%s: %v and %s, not %s", backBrief(list), fits, backBrief(shorter), backBrief(want))
	}
	if _, rule, place := shortened(wayText(list)); rule != row.rule || place != row.place {
		t.Errorf("%s: rule %d at %d, not %d at %d", backBrief(list), rule, place, row.rule, row.place)
	}
}

// Each rule alone, by lists that are written out here: alone, and with rungs ahead and behind. Of the same rung twice the first one is made shorter.
func TestPeepWrittenOut(t *testing.T) {
	other, met := "ld X9;coil out:Y9;end;", map[int]int{}
	for _, row := range peepRows() {
		met[row.rule]++
		checkOnce(t, row)
		checkOnce(t, peepRow{other + row.list, other + row.shorter, row.rule, row.place + 3*min(row.rule, 1)})
		checkOnce(t, peepRow{row.list + ";" + other, row.shorter + ";" + other, row.rule, row.place})
		checkOnce(t, peepRow{other + row.list + ";" + other, other + row.shorter + ";" + other, row.rule, row.place + 3*min(row.rule, 1)})
		checkOnce(t, peepRow{row.list + ";" + row.list, row.shorter + ";" + row.list, row.rule, row.place})
		if row.rule == 0 && !sameInsts(impl.PeepAll(listSure(row.list)), listSure(row.list)) {
			t.Errorf("%s: not as it was: %s", row.list, backBrief(impl.PeepAll(listSure(row.list))))
		}
	}
	for rule := range 10 {
		if met[rule] < 9 {
			t.Errorf("rule %d: %d lists", rule, met[rule])
		}
	}
}

// P52, P53 and P55 of all that is written out, and what the lists do from many memories.
func TestPeepRowsDoTheSame(t *testing.T) {
	r, mems, met := rand.New(rand.NewSource(52)), append(anyMems(4), actMems()...), map[int]int{}
	for i, row := range peepRows() {
		checkPeepDeeds(t, r, listSure(row.list), met, mems[i%len(mems)], mems[(i+3)%len(mems)])
	}
	for i, row := range peepAllRows() {
		checkPeepDeeds(t, r, listSure(row.list), met, mems[i%len(mems)], mems[(i+5)%len(mems)])
	}
}

// peepAllRows are lists, and what PeepAll makes of them, by several rules one behind the other.
func peepAllRows() []peepRow {
	return []peepRow{
		{list: "ld X0;ld G0;anb;coil out:Y0;end", shorter: "ld X0;coil out:Y0;end"},
		{list: "ld X0;ld G1;orb;coil out:Y0;end", shorter: "ld X0;coil out:Y0;end"},
		{list: "ld X0;ld G1;anb;coil out:Y0;end", shorter: "ld X0;and G1;coil out:Y0;end"},
		{list: "ld X0;ld X1;inv;anb;coil out:Y0;end", shorter: "ld X0;and /X1;coil out:Y0;end"},
		{list: "ld X0;ld X0;inv;inv;orb;coil out:Y0;end", shorter: "ld X0;coil out:Y0;end"},
		{list: "ld X0;inv;inv;inv;coil out:Y0;end", shorter: "ld /X0;coil out:Y0;end"},
		{list: "ld X0;or X1;inv;inv;inv;coil out:Y0;end", shorter: "ld X0;or X1;inv;coil out:Y0;end"},
		{list: "ld X0;or X1;inv;and G0;inv;coil out:Y0;end", shorter: "ld X0;or X1;coil out:Y0;end"},
		{list: "ld G0;inv;or X0;inv;coil out:Y0;end", shorter: "ld /X0;coil out:Y0;end"},
		{list: "ld 1<2;and D1=D1;and X0;and X0;coil out:Y0;end", shorter: "ld X0;coil out:Y0;end"},
		{list: "ld X0;and X1;or G1;and X1;coil out:Y0;end", shorter: "ld X0;and X1;coil out:Y0;end"},
		{list: "ld X0;and X0;or X0;and X0;inv;or /X0;coil out:Y0;end", shorter: "ld /X0;coil out:Y0;end"},
		{list: "ld X0;inv;and X0;coil out:Y0;end", shorter: "ld /X0;and X0;coil out:Y0;end"},
		{list: "ld +X0:E0;inv;inv;ld +X0:E0;anb;ld +X0:E0;orb;coil out:Y0;end", shorter: "ld +X0:E0;and +X0:E0;or +X0:E0;coil out:Y0;end"},
		{list: "ld R0<R1;inv;ld R0<R1;inv;inv;inv;orb;coil out:Y0;end", shorter: "ld R0<R1;inv;ld R0<R1;inv;orb;coil out:Y0;end"},
		{list: "ld X0;ld X1;ld X2;ld X3;orb;orb;orb;coil out:Y0;end", shorter: "ld X0;ld X1;ld X2;or X3;orb;orb;coil out:Y0;end"},
		{list: "ld X0;ld X1;anb;ld X2;anb;ld X2;anb;coil out:Y0;end", shorter: "ld X0;and X1;and X2;coil out:Y0;end"},
		{list: "ld X0;ld G0;and X1;anb;ld G1;or X2;orb;coil out:Y0;end", shorter: "ld X0;and X1;or X2;coil out:Y0;end"},
		{list: "ld X0;mps;coil out:Y0;mrd;coil out:Y1;mrd;coil out:Y2;mpp;coil out:Y3;end", shorter: "ld X0;coil out:Y0;coil out:Y1;coil out:Y2;coil out:Y3;end"},
		{list: "ld X0;mps;coil out:Y0;mrd;coil out:Y0;mpp;coil out:Y0;end", shorter: "ld X0;coil out:Y0;end"},
		{list: "ld X0;mps;coil count:C0,5;mrd;coil count:C0,5;mpp;coil count:C0,5;end", shorter: "ld X0;coil count:C0,5;coil count:C0,5;coil count:C0,5;end"},
		{list: "ld X0;mps;mps;coil out:Y0;mpp;coil out:Y1;mpp;coil out:Y2;end", shorter: "ld X0;coil out:Y0;coil out:Y1;coil out:Y2;end"},
		{list: "ld X0;mps;mps;mps;and X1;coil out:Y0;mpp;coil out:Y1;mpp;coil out:Y2;mpp;coil out:Y3;end", shorter: "ld X0;mps;mps;mps;and X1;coil out:Y0;mpp;coil out:Y1;mpp;coil out:Y2;mpp;coil out:Y3;end"},
		{list: "ld X0;mps;and 1<2;coil out:Y0;mrd;and D1=D1;coil out:Y1;mpp;and G0;coil out:Y2;end", shorter: "ld X0;coil out:Y0;coil out:Y1;coil out:Y2;end"},
		{list: "ld X0;mps;ld G0;anb;coil out:Y0;mrd;ld X1;inv;anb;coil out:Y1;mpp;ld X2;ld X3;orb;anb;coil out:Y2;end", shorter: "ld X0;coil out:Y0;mps;and /X1;coil out:Y1;mpp;ld X2;or X3;anb;coil out:Y2;end"},
		{list: "ld X0;mps;coil out:Y0;mrd;mps;coil out:Y1;mpp;coil out:Y1;mpp;and X1;coil out:Y2;end", shorter: "ld X0;coil out:Y0;coil out:Y1;and X1;coil out:Y2;end"},
		{list: "ld X0;coil out:Y0;and G0;coil out:Y0;end", shorter: "ld X0;coil out:Y0;end"},
		{list: "ld X0;inv;coil out:Y0;end;ld G0;and X1;coil set:M0;coil set:M0;end;ld X2;mps;coil out:Y1;mpp;coil out:Y2;end", shorter: "ld /X0;coil out:Y0;end;ld X1;coil set:M0;end;ld X2;coil out:Y1;coil out:Y2;end"},
	}
}

// Several rules one behind the other, by lists that are written out here; and rung by rung.
func TestPeepAllWrittenOut(t *testing.T) {
	lists, shorter := []impl.Inst{}, []impl.Inst{}
	for _, row := range peepAllRows() {
		lists, shorter = append(lists, listSure(row.list)...), append(shorter, listSure(row.shorter)...)
		if got := impl.PeepAll(listSure(row.list)); !sameInsts(got, listSure(row.shorter)) {
			t.Errorf("%s: %s, not %s", row.list, backBrief(got), row.shorter)
		}
		if got := impl.PeepAll(lists); !sameInsts(got, shorter) {
			t.Errorf("with all ahead of it, %s: %s", row.list, backBrief(got))
		}
	}
}

// P55 by lists in which a contact stands eight times and a coil five times, where many rules fit: those that it names stay as often, and others do not.
func TestPeepLosesNoHistory(t *testing.T) {
	contacts, coils := contactsAndCoils()
	for _, contact := range slices.Concat(contacts, closeContacts()) {
		for _, coil := range slices.Concat(coils, closeCoils()) {
			list := listSure(strings.NewReplacer("?", contact, "!", coil).Replace("ld ?;and ?;ld ?;ld ?;orb;inv;inv;or ?;or ?;anb;mps;coil !;coil !;mrd;and ?;ld ?;anb;coil !;mpp;coil !;coil !;end"))
			all := impl.PeepAll(list)
			checkShorter(t, list, all)
			times := map[string]int{}
			for _, one := range strings.Fields(onesOf(all)) {
				times[one]++
			}
			if asked, done := times[contact], times[coil]; (asked == 8) != strings.Contains(contact, ":") || (done == 5) == peepTwiceForm.MatchString(coil) {
				t.Errorf("%s: %d and %d of them in %s", backBrief(list), asked, done, backBrief(all))
			}
		}
	}
}

// The empty list and the nil list are verified, and no rule fits.
func TestPeepOfNothing(t *testing.T) {
	for _, list := range [][]impl.Inst{nil, {}, make([]impl.Inst, 0, 3), mixedInsts()[:0]} {
		once, fits := impl.PeepOnce(list)
		if all := impl.PeepAll(list); fits || len(once) != 0 || len(all) != 0 {
			t.Errorf("no instructions: %v with %v, and %v", fits, once, all)
		}
		checkPeep(t, list, map[int]int{})
	}
}

// P52, P53 and P55 of each rung of up to eight instructions that is verified, with one contact and coil alone, and with another one in each place; no other beginning of one is made shorter.
func TestPeepOfEachShortRung(t *testing.T) {
	lists, met := [][]impl.Inst{{}}, map[int]int{}
	for count := 1; count <= 8; count++ {
		longer, words := [][]impl.Inst{}, "ld and or anb orb inv mps mrd mpp coil end"
		if count == 8 {
			words = "end"
		}
		for _, list := range lists {
			for _, i := range instsOf(words) {
				next := append(slices.Clone(list), i)
				switch f := impl.SureCheck(next); f.Code {
				case 0:
					checkPeep(t, next, met)
					checkPeep(t, numberedInsts(next), met)
				case 9:
					longer = append(longer, next)
					checkNoPeep(t, next)
				default:
					checkNoPeep(t, next)
				}
			}
		}
		lists = longer
	}
	for _, rule := range []int{0, 2, 3, 4, 5, 6, 8, 9} {
		if met[rule] == 0 {
			t.Errorf("rule %d fits nowhere: %v", rule, met)
		}
	}
}

// P52, P53 and P55 of each net of up to three instructions with each of a few contacts, of each sort that a rule knows.
func TestPeepOfEachShortNet(t *testing.T) {
	r, lists, met := rand.New(rand.NewSource(53)), [][]impl.Inst{{}}, map[int]int{}
	next := instsOf("anb orb inv")
	for _, contact := range strings.Fields("X0 /X0 G0 G1 +X0:E0 R0<R0 D0<D0 1<2 D0>=T0") {
		for _, code := range []int{1, 2, 3} {
			next = append(next, instSure(code, contact))
		}
	}
	mems := actMems()
	for range 4 {
		longer := [][]impl.Inst{}
		for _, list := range lists {
			for _, i := range next {
				one := append(slices.Clone(list), i)
				switch whole := append(slices.Clone(one), listSure("coil out:Y0;coil count:C0,2")...); impl.SureCheck(append(whole, instsOf("end")...)).Code {
				case 0:
					whole = append(whole, instsOf("end")...)
					checkPeepDeeds(t, r, whole, met, mems[len(longer)%len(mems)])
					fallthrough
				case 5:
					longer = append(longer, one)
				}
			}
		}
		// Of the longest ones some are enough.
		lists = longer
		if len(lists) > 2000 {
			r.Shuffle(len(lists), func(i, j int) { lists[i], lists[j] = lists[j], lists[i] })
			lists = lists[:300]
		}
	}
	for _, rule := range []int{0, 1, 4, 5, 6, 7, 8} {
		if met[rule] < 20 {
			t.Errorf("rule %d fits %d times: %v", rule, met[rule], met)
		}
	}
}

// peepLists are lists that are verified, by chance, of so few contacts and coils that each rule fits often.
func peepLists(seed int64, count int) [][]impl.Inst {
	r, lists := rand.New(rand.NewSource(seed)), [][]impl.Inst{}
	contacts := elemsSure(strings.Fields("X0 X0 X1 /X0 M0 +X0:E0 -X1:E1 +M0:E0 G0 G1 /G0 /G1 3>2 1=2 D0=D0 T0<T0 D0<=T0 D0<=T0 C0>=2 R0<R12 R12=R12 nan<>R0"))
	coils := elemsSure(strings.Fields("out:Y0 out:Y0 out:M0 set:M0 reset:M0 reset:C0 step:S1 pulse:M0,E2 timer:T0,5 hold:T0,5 late:T0,3 count:C0,2 move:D0,C0 add:D0,D0,1 div:D0,7,D0 move:R0,R12 mul:R0,R0,R13 real:R0,T0 whole:D0,R12"))
	for len(lists) < count {
		words := ""
		for range 1 + r.Intn(4) {
			words += wordsOfRung(r)
		}
		list := instsOf(words)
		last := impl.Elem{}
		for at, i := range list {
			pick := contacts
			if i.Code == 10 {
				pick = coils
			}
			if i.Code > 3 && i.Code != 10 {
				continue
			}
			// What came last comes often once more.
			if one := pick[r.Intn(len(pick))]; r.Intn(3) > 0 || (last.Op > 20) != (i.Code == 10) || last.Op == 0 {
				last = one
			}
			list[at].One = last
		}
		if len(list) <= 200 {
			lists = append(lists, list)
		}
	}
	return lists
}

// P52, P53 and P55 of lists by chance, behind each scan of any samples, from any memory.
func TestPeepOfAnyVerifiedLists(t *testing.T) {
	r, mems, met, turned := rand.New(rand.NewSource(55)), append(anyMems(20), actMems()...), map[int]int{}, 0
	for at, list := range slices.Concat(peepLists(54, 250), sureLists(540, 60)) {
		checkPeepDeeds(t, r, list, met, mems[at%len(mems)], mems[r.Intn(len(mems))])
		if all := impl.PeepAll(list); len(all) < len(list) {
			turned++
		}
	}
	for rule := range 10 {
		if met[rule] < 50 {
			t.Errorf("rule %d fits %d times: %v", rule, met[rule], met)
		}
	}
	if turned < 250 {
		t.Errorf("%d lists are made shorter", turned)
	}
}

// P52 over many scans at once, and of lists to which ladders go down: what is made shorter does what the ladder means.
func TestPeepOfListsOfLadders(t *testing.T) {
	r, mems, shorter := rand.New(rand.NewSource(56)), append(anyMems(10), actMems()...), 0
	for at, rungs := range slices.Concat(closeLadders(56, 300), evalLadders()) {
		list, code := impl.WayDown(rungs)
		if code != 0 {
			continue
		}
		all := impl.PeepAll(list)
		checkShorter(t, list, all)
		if len(all) < len(list) {
			shorter++
		}
		m, samples := mems[at%len(mems)], peepSamples(r, 20)
		want := impl.EvalRun(rungs, m, samples)
		if got := impl.MachRun(all, m, samples); !sameMem(got, want) {
			t.Errorf("%s: by %s %q, not %q", brief(spelt(rungs)), backBrief(all), impl.MemText(got), impl.MemText(want))
		}
	}
	if shorter < 100 {
		t.Errorf("%d lists are made shorter", shorter)
	}
}

// No rule goes beyond an end: lists one behind the other are made shorter each by itself.
func TestPeepListByList(t *testing.T) {
	lists := append(peepLists(57, 40), listSure("ld X0;coil out:Y0;end"), listSure("ld X0;inv;coil out:Y0;coil out:Y0;end"), nil)
	for _, a := range lists {
		for _, b := range lists {
			both := slices.Concat(a, b)
			if got, want := impl.PeepAll(both), slices.Concat(impl.PeepAll(a), impl.PeepAll(b)); !sameInsts(got, want) {
				t.Errorf("%s: %s, not %s", backBrief(both), backBrief(got), backBrief(want))
			}
			first, fits := impl.PeepOnce(a)
			want := slices.Concat(first, b)
			if !fits {
				first, fits = impl.PeepOnce(b)
				want = slices.Concat(a, first)
			}
			if got, ok := impl.PeepOnce(both); ok != fits || !sameInsts(got, want) {
				t.Errorf("%s: %v and %s, not %s", backBrief(both), ok, backBrief(got), backBrief(want))
			}
		}
	}
}

// peepLongRows are lists of ListMaxList instructions, and what PeepAll makes of them.
func peepLongRows() []peepRow {
	times := func(words string, count int) string { return strings.Repeat(words+";", count) }
	nets, stays := "ld X0;"+times("and X1;or X2", 498), "ld X0;"+times("coil out:Y0;coil out:Y1", 499)+"end"
	forks := "ld X0;" + times("mps", 8) + times("coil out:Y0;mpp", 8) + "coil out:Y1;end"
	return []peepRow{
		{list: stays, shorter: stays},
		{list: nets + "and G0;coil out:Y0;end", shorter: nets + "coil out:Y0;end"},
		{list: nets + "coil out:Y0;coil out:Y0;end", shorter: nets + "coil out:Y0;end"},
		{list: "ld X0;" + times("inv", 997) + "coil out:Y0;end", shorter: "ld /X0;coil out:Y0;end"},
		{list: "ld +X0:E0;" + times("inv", 997) + "coil out:Y0;end", shorter: "ld +X0:E0;inv;coil out:Y0;end"},
		{list: "ld X0;" + times("and G0", 997) + "coil out:Y0;end", shorter: "ld X0;coil out:Y0;end"},
		{list: "ld X0;" + times("and X1;or X2", 249) + times("or G1", 499) + "coil out:Y0;end", shorter: "ld X0;" + times("and X1;or X2", 249) + "coil out:Y0;end"},
		{list: "ld X0;" + times("ld X1;anb", 498) + "and X2;coil out:Y0;end", shorter: "ld X0;and X1;and X2;coil out:Y0;end"},
		{list: times("ld G0;and X0;coil out:Y0;end", 250), shorter: times("ld X0;coil out:Y0;end", 250)},
		{list: "ld X0;" + times("coil out:Y0", 998) + "end", shorter: "ld X0;coil out:Y0;end"},
		{list: "ld X0;mps;" + times("coil out:Y0;coil out:Y1;coil count:C0,5;mrd", 248) + "coil out:Y0;coil out:Y1;coil out:Y0;mpp;coil out:Y2;end", shorter: "ld X0;" + times("coil out:Y0;coil out:Y1;coil count:C0,5", 248) + "coil out:Y0;coil out:Y1;coil out:Y0;coil out:Y2;end"},
		{list: "ld X0;" + times("mps;coil add:D0,D0,1;mpp", 332) + "coil out:Y0;coil out:Y1;end", shorter: "ld X0;" + times("coil add:D0,D0,1", 332) + "coil out:Y0;coil out:Y1;end"},
		{list: times(forks, 36) + "ld X0;" + times("coil add:D0,D0,1", 26) + "end", shorter: times("ld X0;coil out:Y0;coil out:Y1;end", 36) + "ld X0;" + times("coil add:D0,D0,1", 26) + "end"},
	}
}

// At the bound of instructions, and above it.
func TestPeepMaxList(t *testing.T) {
	for _, row := range peepLongRows() {
		list := listSure(row.list)
		if f := impl.SureCheck(list); len(list) != 1000 || f.Code != 0 {
			t.Fatalf("%s: %d instructions, %v", backBrief(list), len(list), f)
		}
		all := impl.PeepAll(list)
		if !sameInsts(all, listSure(row.shorter)) {
			t.Errorf("%s: %s", backBrief(list), backBrief(all))
		}
		checkShorter(t, list, all)
		checkSameDeeds(t, [][]impl.Inst{list, all}, fullMem(), ticksOf(3, 1, 6, 7, 0))
		once, fits := impl.PeepOnce(list)
		if want, rule, _ := shortened(wayText(list)); fits != (rule > 0) || wayText(once) != want {
			t.Errorf("%s: %v and %s, not by rule %d", backBrief(list), fits, backBrief(once), rule)
		}
		checkPeep(t, all, map[int]int{})
		checkNoPeep(t, slices.Insert(list, 999, instsOf("coil")...))
		checkNoPeep(t, slices.Concat(list, instsOf("ld coil end")))
	}
}

// Each code of chapter 12: nothing is made shorter, wherever the list is wrong, though rules fit ahead of it and behind.
func TestPeepOfListsThatAreNotVerified(t *testing.T) {
	met := map[int]bool{}
	check := func(list []impl.Inst) {
		t.Helper()
		met[impl.SureCheck(list).Code] = true
		checkNoPeep(t, list)
	}
	good := listSure("ld X0;inv;or G1;and X1;and X1;mps;coil out:Y0;coil out:Y0;mrd;ld X1;anb;coil out:Y0;mpp;coil out:Y0;end;ld X0;inv;coil out:Y0;end")
	for _, w := range wrongLists() {
		check(instsOf(w.words))
		check(slices.Concat(good, instsOf(w.words)))
		if w.code != 9 {
			check(slices.Concat(instsOf(w.words), good))
		}
	}
	for _, i := range badInsts() {
		check([]impl.Inst{i})
		check(slices.Concat(instsOf("ld inv"), []impl.Inst{i}, instsOf("coil end")))
		check(slices.Concat(good, []impl.Inst{i}))
		check(slices.Concat([]impl.Inst{i}, good))
	}
	for at := range len(good) - 2 {
		check(good[at+1 : len(good)-1])
		check(slices.Concat(good[:at], instsOf("?"), good[at:]))
	}
	check(instsOf(repeated("ld", 17) + repeated("anb", 16) + "coil end"))
	check(instsOf("ld " + repeated("mps", 9) + "coil" + repeated("mpp coil", 9) + "end"))
	check(slices.Repeat(instsOf("ld coil end"), 334))
	for code := 1; code <= 9; code++ {
		if !met[code] {
			t.Errorf("no list is wrong by code %d", code)
		}
	}
}

// Lists of which the form of a rule stands at the very end, with nothing behind it.
func TestPeepOfListsThatStopWithinARule(t *testing.T) {
	for _, row := range peepRows() {
		list := listSure(row.list)
		for at := 1; at < len(list); at++ {
			if list[at-1].Code != 11 {
				checkNoPeep(t, list[:at])
				checkNoPeep(t, list[at:])
			}
		}
	}
}

// peepMemoryLists are lists of all sorts, also such that are not verified.
func peepMemoryLists() [][]impl.Inst {
	lists := append(peepLists(58, 40), nil, badInsts(), goodInsts(), slices.Repeat(mixedInsts(), 200), slices.Repeat(mixedInsts(), 201), listSure(peepLongRows()[0].list), listSure(peepLongRows()[8].list))
	for _, row := range slices.Concat(peepAllRows(), peepRows()) {
		lists = append(lists, listSure(row.list))
	}
	for _, w := range wrongLists() {
		lists = append(lists, instsOf(w.words))
	}
	return lists
}

// checkInstsApart asks that no cell of these answers is met twice, nor in the list that was given.
func checkInstsApart(t *testing.T, given []impl.Inst, answers [][]impl.Inst) {
	t.Helper()
	met := map[any]int{}
	for _, cell := range instCells(given) {
		met[cell] = -1
	}
	for at, answer := range answers {
		for _, cell := range instCells(answer) {
			if met[cell] != 0 {
				t.Errorf("%s: a %T of answer %d is one of %d", backBrief(given), cell, at+1, met[cell])
			}
			met[cell] = at + 1
		}
	}
}

// Each answer is new memory, its spare room included; no argument is written into, nor behind its end; what stands behind counts for nothing; nothing is kept from call to call.
func TestPeepIsNewMemory(t *testing.T) {
	for _, list := range peepMemoryLists() {
		want, fits := impl.PeepOnce(cloneInsts(list))
		whole := impl.PeepAll(cloneInsts(list))
		wantText, wholeText := fmt.Sprint(want), fmt.Sprint(whole)
		given := withRoomBehind(list)
		ahead, lists := roomsBehind(given), [][]impl.Inst{want, whole}
		for range 2 {
			once, ok := impl.PeepOnce(given)
			all := impl.PeepAll(given)
			if ok != fits || fmt.Sprint(once) != wantText || fmt.Sprint(all) != wholeText {
				t.Errorf("%s: with room behind %v and %s, %s", backBrief(list), ok, backBrief(once), backBrief(all))
			}
			lists = append(lists, once, all)
			impl.PeepAll(listSure("ld X5;inv;and G0;mps;coil out:Y5;mpp;coil out:Y5;end"))
		}
		if got := roomsBehind(given); got != ahead {
			t.Errorf("%s: written into: %s", backBrief(list), brief(got))
		}
		checkInstsApart(t, given, lists)
	}
}

// What is written into an answer, or into what was given, is seen nowhere else.
func TestPeepSharesNothing(t *testing.T) {
	for _, list := range peepMemoryLists() {
		given := withRoomBehind(list)
		ahead := roomsBehind(given)
		once, _ := impl.PeepOnce(given)
		all := impl.PeepAll(given)
		onceText, allText := fmt.Sprint(once), fmt.Sprint(all)
		kept, _ := impl.PeepOnce(given)
		checkOwnMemory(t, once, all)
		if roomsBehind(given) != ahead {
			t.Errorf("%s: what was given sees what is written into the answer", backBrief(list))
		}
		if again := impl.PeepAll(given); fmt.Sprint(again) != allText {
			t.Errorf("%s: a later answer sees what is written into one", backBrief(list))
		}
		for at := range given[:cap(given)] {
			for j := range given[:cap(given)][at].One.Args {
				given[:cap(given)][at].One.Args[j] = operand(2, 7, 7)
			}
			given[:cap(given)][at] = impl.Inst{}
		}
		if fmt.Sprint(kept) != onceText {
			t.Errorf("%s: the answer sees what is written into what was given", backBrief(list))
		}
	}
}

// Very large contacts, instructions and lists are answered, and at once.
func TestPeepOfVeryLargeLists(t *testing.T) {
	many := slices.Repeat([]impl.DevArg{operand(6, 0, 0)}, 1000000)
	for _, op := range knownOps() {
		e := impl.Elem{Op: op, Args: many}
		turned, ok := impl.PeepTurn(e)
		if sure := impl.PeepSure(e); sure != 0 || ok || !sameElem(turned, impl.Elem{}) {
			t.Errorf("%d with a million operands: %d and %v", op, sure, ok)
		}
	}
	for _, row := range listRows() {
		one := []impl.Inst{{Code: row.code, One: impl.Elem{Op: 1, Args: many}}}
		checkNoPeep(t, one)
		checkNoPeep(t, slices.Concat(instsOf("ld inv"), one, instsOf("coil end")))
	}
	for _, i := range instsOf("ld and inv coil end ?") {
		checkNoPeep(t, append(instsOf("ld"), slices.Repeat([]impl.Inst{i}, 1000000)...))
	}
}
