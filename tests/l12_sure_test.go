package tests

import (
	"math"
	"math/rand"
	"regexp"
	"slices"
	"strings"
	"testing"

	"loop.example/stile/impl"
)

// instsOf has an instruction for each word, with X0 or out:Y0 where it takes one; with a ? behind the word it is not ok.
func instsOf(words string) []impl.Inst {
	list := []impl.Inst{}
	for _, word := range strings.Fields(words) {
		name, wrong := strings.CutSuffix(word, "?")
		i := impl.Inst{}
		for _, row := range listRows() {
			if row.word == name {
				i = instSure(row.code, map[string]string{"c": "X0", "o": "out:Y0"}[row.one])
			}
		}
		if wrong {
			i.One = impl.Elem{Op: 1}
		}
		list = append(list, i)
	}
	return list
}

// repeated is a word so many times, with spaces around.
func repeated(word string, count int) string {
	return strings.Repeat(" "+word+" ", count)
}

// lettersOf is a letter for each instruction, by its Code; a ? for one that is not ok.
func lettersOf(list []impl.Inst) string {
	letters := []byte{}
	for _, i := range list {
		if instLine(i) == "" {
			letters = append(letters, '?')
		} else {
			letters = append(letters, "laoAOisrpce"[i.Code-1])
		}
	}
	return string(letters)
}

// countOf is how many of the letters are in a text.
func countOf(text, letters string) int {
	count := 0
	for _, letter := range strings.Split(letters, "") {
		count += strings.Count(text, letter)
	}
	return count
}

// sureCodeOf is what is wrong with the last letter, counted out of all letters ahead of it; 0, if nothing is.
func sureCodeOf(letters string) int {
	ahead, last := letters[:len(letters)-1], letters[len(letters)-1:]
	bits := countOf(ahead, "l") - countOf(ahead, "AOe")
	forks := countOf(ahead, "s") - countOf(ahead, "p")
	based := strings.ContainsAny(ahead[strings.LastIndex(ahead, "e")+1:], "cs")
	idle := !strings.HasSuffix(ahead, "c")
	// What may be wrong with each letter, in the order of the codes.
	for _, may := range []struct {
		letters string
		wrong   bool
		code    int
	}{
		{"?", true, 2}, {"AO", bits < 2, 3}, {"aoisrpce", bits < 1, 3}, {"l", bits == 16, 4}, {"srpce", bits > 1, 5}, {"oi", based && bits == 1, 6}, {"O", based && bits == 2, 6},
		{"s", forks == 8, 7}, {"rp", forks == 0, 7}, {"e", forks > 0, 7}, {"rpe", idle, 8},
	} {
		if may.wrong && strings.Contains(may.letters, last) {
			return may.code
		}
	}
	return 0
}

// sureFaultOf is a second reading of what is wrong with a list.
func sureFaultOf(list []impl.Inst) impl.SureFault {
	if len(list) > 1000 {
		return impl.SureFault{Code: 1}
	}
	letters := lettersOf(list)
	for at := range letters {
		if code := sureCodeOf(letters[:at+1]); code != 0 {
			return impl.SureFault{Code: code, At: at}
		}
	}
	if countOf(letters, "l") != countOf(letters, "AOe") {
		return impl.SureFault{Code: 9, At: len(list)}
	}
	return impl.SureFault{}
}

// A bit with what is turned or taken in is a bit; what is taken into the lowest one is as if it were a contact; a branch with all its kids is one thing.
var (
	sureBitForm    = regexp.MustCompile(`v[aoi]|vv[AO]`)
	sureTakenForm  = regexp.MustCompile(`([cagsrp])vA`)
	sureBranchForm = regexp.MustCompile(`s[cag]*c(?:r[cag]*c)*p`)
	sureRungsForm  = regexp.MustCompile(`^(?:v[cag]*ce)*$`)
)

// sureByForm is P38 by a grammar: letters are put together until no more can be, and rungs are left or not; how high the stacks may be is counted.
func sureByForm(list []impl.Inst) bool {
	if len(list) > 1000 {
		return false
	}
	for _, s := range tracedOf(list) {
		if s.Bits > 16 || s.Forks > 8 {
			return false
		}
	}
	letters := strings.ReplaceAll(lettersOf(list), "l", "v")
	for done := false; !done; {
		ahead := letters
		letters = sureBitForm.ReplaceAllString(letters, "v")
		letters = sureTakenForm.ReplaceAllString(letters, "${1}a")
		letters = sureBranchForm.ReplaceAllString(letters, "g")
		done = letters == ahead
	}
	return sureRungsForm.MatchString(letters)
}

// tracedOf is a second reading of how high the stacks are behind each instruction.
func tracedOf(list []impl.Inst) []impl.SureState {
	steps := map[int]impl.SureState{1: {Bits: 1}, 4: {Bits: -1}, 5: {Bits: -1}, 11: {Bits: -1}, 7: {Forks: 1}, 9: {Forks: -1}}
	trace, now := []impl.SureState{}, impl.SureState{}
	for _, i := range list {
		now.Bits, now.Forks = now.Bits+steps[i.Code].Bits, now.Forks+steps[i.Code].Forks
		trace = append(trace, now)
	}
	return trace
}

// checkTrace holds SureTrace and SurePeak of a list of any instructions against the second reading.
func checkTrace(t *testing.T, list []impl.Inst) {
	t.Helper()
	want, peak := tracedOf(list), impl.SureState{}
	if len(list) > 1000 {
		want = nil
	}
	for _, s := range want {
		peak.Bits, peak.Forks = max(peak.Bits, s.Bits), max(peak.Forks, s.Forks)
	}
	if got := impl.SureTrace(list); !slices.Equal(got, want) {
		t.Errorf("%s: %d heights, %.300v, not %.300v", sureBrief(list), len(got), got, want)
	}
	if got := impl.SurePeak(list); got != peak {
		t.Errorf("%s: at most %v, not %v", sureBrief(list), got, peak)
	}
}

// sureBrief is the beginning of a list.
func sureBrief(list []impl.Inst) string {
	return brief(lettersOf(list[:min(len(list), 1002)]))
}

// checkRungs asks for P39 of one list: its rungs are verified, each alone, and are it again.
func checkRungs(t *testing.T, list []impl.Inst) {
	t.Helper()
	rungs, again := impl.SureRungs(list), []impl.Inst{}
	for i, rung := range rungs {
		if f := impl.SureCheck(rung); f != (impl.SureFault{}) || strings.Index(lettersOf(rung), "e") != len(rung)-1 {
			t.Errorf("%s: rung %d is %s, %v", sureBrief(list), i, sureBrief(rung), f)
		}
		if own := impl.SureRungs(rung); len(own) != 1 || !sameInsts(own[0], rung) {
			t.Errorf("%s: rung %d has %d rungs", sureBrief(list), i, len(own))
		}
		again = append(again, rung...)
	}
	if len(rungs) != countOf(lettersOf(list), "e") || !sameInsts(again, list) {
		t.Errorf("%s: %d rungs, together %s", sureBrief(list), len(rungs), sureBrief(again))
	}
}

// checkHeights asks what P38 says of the heights in a list that is verified.
func checkHeights(t *testing.T, list []impl.Inst) {
	t.Helper()
	trace := impl.SureTrace(list)
	for at, s := range trace {
		low, high := min(s.Bits, s.Forks), s.Bits > 16 || s.Forks > 8
		end := list[at].Code == 11 || at == len(trace)-1
		if low < 0 || high || end && s != (impl.SureState{}) {
			t.Errorf("%s: verified, but %v behind %d", sureBrief(list), s, at)
		}
	}
}

// tails are what may stand behind an instruction that is told, right there or not.
func tails() [][]impl.Inst {
	return [][]impl.Inst{nil, {{}}, instsOf("end"), instsOf("coil end"), instsOf("mpp coil end"), instsOf("ld coil end"), instsOf("anb coil end"), instsOf("mrd mpp"), instsOf("or inv"), instsOf(repeated("ld", 20)), badInsts()[:40]}
}

// checkAhead asks for P40 of a list with a fault at one of its instructions: what is ahead is right, and whatever stands behind, nothing else is told.
func checkAhead(t *testing.T, list []impl.Inst, f impl.SureFault) {
	t.Helper()
	ahead := impl.SureCheck(list[:f.At])
	if ahead != (impl.SureFault{}) && ahead != (impl.SureFault{Code: 9, At: f.At}) {
		t.Errorf("%s: %v, but %v ahead of it", sureBrief(list), f, ahead)
	}
	for _, tail := range tails() {
		other := slices.Concat(list[:f.At+1], tail)
		if got := impl.SureCheck(other); got != f && len(other) <= 1000 {
			t.Errorf("%s: %v, but %v of %s", sureBrief(list), f, got, sureBrief(other))
		}
	}
}

// checkSure holds all that is said of a list against the second readings, and asks for P38 to P40; it gives what is wrong with the list.
func checkSure(t *testing.T, list []impl.Inst) impl.SureFault {
	t.Helper()
	f := impl.SureCheck(list)
	if want := sureFaultOf(list); f != want {
		t.Errorf("%s: %v, not %v", sureBrief(list), f, want)
	}
	if sure := sureByForm(list); sure != (f == impl.SureFault{}) {
		t.Errorf("%s: %v, but by the grammar %v", sureBrief(list), f, sure)
	}
	checkTrace(t, list)
	switch f.Code {
	case 0:
		checkHeights(t, list)
		checkRungs(t, list)
		return f
	case 2, 3, 4, 5, 6, 7, 8:
		checkAhead(t, list, f)
	}
	if rungs := impl.SureRungs(list); len(rungs) != 0 {
		t.Errorf("%s: %v, but %d rungs", sureBrief(list), f, len(rungs))
	}
	return f
}

// checkSureFault asks for a fault, also with rungs ahead.
func checkSureFault(t *testing.T, list []impl.Inst, code, at int) {
	t.Helper()
	if f := checkSure(t, list); f != (impl.SureFault{Code: code, At: at}) {
		t.Errorf("%s: %v, not %d at %d", sureBrief(list), f, code, at)
	}
	ahead := instsOf("ld or inv mps coil mpp coil end ld coil end")
	if f := checkSure(t, slices.Concat(ahead, list)); f != (impl.SureFault{Code: code, At: len(ahead) + at}) {
		t.Errorf("%s with two rungs ahead: %v, not %d at %d", sureBrief(list), f, code, len(ahead)+at)
	}
}

// checkVerified asks for a list that is verified, and for SureCut of each beginning of it but those that end with a rung.
func checkVerified(t *testing.T, list []impl.Inst) {
	t.Helper()
	if f := checkSure(t, list); f != (impl.SureFault{}) {
		t.Errorf("%s: %v", sureBrief(list), f)
	}
	for at := range list {
		want := impl.SureFault{Code: 9, At: at}
		if at == 0 || list[at-1].Code == 11 {
			want = impl.SureFault{}
		}
		if f := impl.SureCheck(list[:at]); f != want {
			t.Errorf("%s: %v of the first %d", sureBrief(list), f, at)
		}
		if want.Code != 0 && len(impl.SureRungs(list[:at])) != 0 {
			t.Errorf("%s: rungs in the first %d", sureBrief(list), at)
		}
	}
}

func TestSureConstants(t *testing.T) {
	for i, code := range []int{impl.SureMany, impl.SureWord, impl.SureUnder, impl.SureOver, impl.SureOpen, impl.SureBase, impl.SureFork, impl.SureIdle, impl.SureCut} {
		if code != i+1 {
			t.Errorf("the code in place %d: %d", i, code)
		}
	}
	if impl.SureMaxBits != 16 || impl.SureMaxForks != 8 {
		t.Error("bounds of the stacks")
	}
}

// verifiedList is a list that is verified, with how many rungs it has and how high the stacks come.
type verifiedList struct {
	words string
	rungs int
	peak  impl.SureState
}

func verifiedLists() []verifiedList {
	return []verifiedList{
		{"", 0, impl.SureState{}},
		{"ld coil end", 1, impl.SureState{Bits: 1}},
		{"ld and or inv and inv or coil end", 1, impl.SureState{Bits: 1}},
		{"ld ld anb coil end", 1, impl.SureState{Bits: 2}},
		{"ld ld orb inv or coil end", 1, impl.SureState{Bits: 2}},
		{"ld or ld or inv anb ld ld inv orb anb inv coil end", 1, impl.SureState{Bits: 3}},
		{"ld ld ld ld orb anb orb coil end", 1, impl.SureState{Bits: 4}},
		{"ld coil coil coil end", 1, impl.SureState{Bits: 1}},
		{"ld coil and coil and and coil end", 1, impl.SureState{Bits: 1}},
		{"ld coil ld anb coil end", 1, impl.SureState{Bits: 2}},
		{"ld coil ld or inv anb coil end", 1, impl.SureState{Bits: 2}},
		{"ld coil ld ld orb inv or and anb coil end", 1, impl.SureState{Bits: 3}},
		{"ld mps coil mpp coil end", 1, impl.SureState{Bits: 1, Forks: 1}},
		{"ld mps and coil mrd coil mrd and coil mpp and coil end", 1, impl.SureState{Bits: 1, Forks: 1}},
		{"ld mps ld or anb coil mpp ld ld orb anb coil end", 1, impl.SureState{Bits: 3, Forks: 1}},
		{"ld coil mps coil mpp coil coil end", 1, impl.SureState{Bits: 1, Forks: 1}},
		{"ld mps coil mpp coil mps coil mpp coil end", 1, impl.SureState{Bits: 1, Forks: 1}},
		{"ld mps coil mpp mps coil mpp coil end", 1, impl.SureState{Bits: 1, Forks: 1}},
		{"ld mps mps coil mpp coil mpp coil end", 1, impl.SureState{Bits: 1, Forks: 2}},
		{"ld mps mps coil mrd coil mpp and coil mrd mps coil mpp mps coil mpp coil mpp coil end", 1, impl.SureState{Bits: 1, Forks: 2}},
		{"ld mps coil mrd mps and coil mpp coil mps coil mpp mps mps coil mpp coil mpp coil mpp coil end", 1, impl.SureState{Bits: 1, Forks: 3}},
		{"ld coil end ld coil end", 2, impl.SureState{Bits: 1}},
		{"ld coil end ld or inv coil end", 2, impl.SureState{Bits: 1}},
		{"ld mps coil mpp coil end ld or ld orb inv coil end ld ld ld anb orb coil end", 3, impl.SureState{Bits: 3, Forks: 1}},
		// The example of chapter 14.
		{"ld and ld ld or inv anb orb coil mps and coil mrd ld or anb coil and coil mpp coil end", 1, impl.SureState{Bits: 3, Forks: 1}},
	}
}

// P38 and P39, by lists that are written out here.
func TestVerifiedLists(t *testing.T) {
	for _, w := range verifiedLists() {
		list := instsOf(w.words)
		checkVerified(t, list)
		if rungs, peak := impl.SureRungs(list), impl.SurePeak(list); len(rungs) != w.rungs || peak != w.peak {
			t.Errorf("%s: %d rungs, at most %v", w.words, len(rungs), peak)
		}
	}
	list := instsOf("ld coil end ld mps coil mpp coil end ld and coil end")
	rungs := impl.SureRungs(list)
	if len(rungs) != 3 || !sameInsts(rungs[0], list[:3]) || !sameInsts(rungs[1], list[3:9]) || !sameInsts(rungs[2], list[9:]) {
		t.Errorf("rungs %v", rungs)
	}
}

// The empty list and the nil list are verified and have neither heights nor rungs.
func TestSureOfNothing(t *testing.T) {
	for _, list := range [][]impl.Inst{nil, {}, make([]impl.Inst, 0, 3), mixedInsts()[:0]} {
		if f, trace, peak, rungs := impl.SureCheck(list), impl.SureTrace(list), impl.SurePeak(list), impl.SureRungs(list); f != (impl.SureFault{}) || len(trace) != 0 || peak != (impl.SureState{}) || len(rungs) != 0 {
			t.Errorf("%v, %v, %v and %v", f, trace, peak, rungs)
		}
		checkVerified(t, list)
	}
}

// wrongList is a list that is not verified.
type wrongList struct {
	words    string
	code, at int
}

func wrongLists() []wrongList {
	return []wrongList{
		// Words that are not ok.
		{"?", 2, 0}, {"ld?", 2, 0}, {"ld ?", 2, 1}, {"ld and?", 2, 1}, {"ld coil ?", 2, 2}, {"ld coil end ?", 2, 3}, {"ld coil end?", 2, 2}, {"ld coil? end", 2, 1}, {"ld mps?", 2, 1}, {"ld mps coil mrd? coil", 2, 3}, {"ld mps coil mpp?", 2, 3}, {"ld inv?", 2, 1}, {"ld ld anb?", 2, 2}, {"ld ld orb?", 2, 2}, {"ld or?", 2, 1},
		// Too few bits.
		{"and", 3, 0}, {"or", 3, 0}, {"anb", 3, 0}, {"orb", 3, 0}, {"inv", 3, 0}, {"mps", 3, 0}, {"mrd", 3, 0}, {"mpp", 3, 0}, {"coil", 3, 0}, {"end", 3, 0}, {"ld anb", 3, 1}, {"ld orb", 3, 1}, {"ld ld anb anb", 3, 3}, {"ld ld orb orb", 3, 3}, {"ld coil anb", 3, 2}, {"ld coil orb", 3, 2}, {"ld mps orb", 3, 2},
		{"ld coil end end", 3, 3}, {"ld coil end and", 3, 3}, {"ld coil end inv", 3, 3}, {"ld coil end coil", 3, 3}, {"ld coil end mps", 3, 3}, {"ld coil end anb", 3, 3}, {"ld coil end ld anb", 3, 4}, {"ld coil end ld coil end orb", 3, 6},
		// Bits that are left open.
		{"ld ld coil", 5, 2}, {"ld ld end", 5, 2}, {"ld ld mps", 5, 2}, {"ld ld mrd", 5, 2}, {"ld ld mpp", 5, 2}, {"ld ld ld anb coil", 5, 4}, {"ld coil ld coil", 5, 3}, {"ld coil ld end", 5, 3}, {"ld coil ld mps", 5, 3}, {"ld mps coil ld mrd", 5, 4}, {"ld mps coil ld mpp", 5, 4}, {"ld mps ld coil", 5, 3}, {"ld coil end ld ld coil end", 5, 5},
		// What a coil or mps has seen.
		{"ld coil or", 6, 2}, {"ld coil inv", 6, 2}, {"ld coil ld orb", 6, 3}, {"ld mps or", 6, 2}, {"ld mps inv", 6, 2}, {"ld mps ld orb", 6, 3}, {"ld coil and or", 6, 3}, {"ld coil and inv", 6, 3}, {"ld coil ld anb inv", 6, 4}, {"ld coil ld anb or", 6, 4}, {"ld coil ld anb ld orb", 6, 5}, {"ld coil ld or inv orb", 6, 5}, {"ld coil ld ld orb orb", 6, 5},
		{"ld mps coil mrd inv", 6, 4}, {"ld mps coil mpp or", 6, 4}, {"ld mps coil mpp coil inv", 6, 5}, {"ld mps coil mpp ld orb", 6, 5}, {"ld mps coil mrd and or", 6, 5}, {"ld inv coil inv", 6, 3}, {"ld coil end ld coil or", 6, 5}, {"ld coil end ld or coil inv", 6, 6}, {"ld coil end ld mps inv", 6, 5},
		// Forks.
		{"ld mrd", 7, 1}, {"ld mpp", 7, 1}, {"ld coil mrd", 7, 2}, {"ld coil mpp", 7, 2}, {"ld mps coil end", 7, 3}, {"ld mps coil mpp coil mpp", 7, 5}, {"ld mps coil mpp coil mrd", 7, 5}, {"ld mps mps coil mpp coil end", 7, 6}, {"ld mps coil mrd coil end", 7, 5}, {"ld mps end", 7, 2}, {"ld coil mps coil mrd coil mpp coil mpp", 7, 8}, {"ld mps coil mpp coil end ld coil mpp", 7, 8}, {"ld mps coil mpp coil end ld coil mrd", 7, 8},
		// Branches and rungs that end without a coil.
		{"ld end", 8, 1}, {"ld and end", 8, 2}, {"ld coil and end", 8, 3}, {"ld coil ld anb end", 8, 4}, {"ld mps mrd", 8, 2}, {"ld mps mpp", 8, 2}, {"ld mps and mrd", 8, 3}, {"ld mps and mpp", 8, 3}, {"ld coil mps mpp", 8, 3}, {"ld coil mps mrd", 8, 3}, {"ld mps coil mrd mrd", 8, 4}, {"ld mps coil mrd mpp", 8, 4}, {"ld mps coil mpp end", 8, 4}, {"ld mps mps coil mpp mpp", 8, 5}, {"ld mps mps coil mpp mrd", 8, 5}, {"ld mps coil and mpp", 8, 4}, {"ld mps coil ld anb mrd", 8, 5}, {"ld mps coil mpp and end", 8, 5}, {"ld coil end ld end", 8, 4}, {"ld coil end ld mps mpp", 8, 5},
		// Lists that stop within a rung.
		{"ld", 9, 1}, {"ld coil", 9, 2}, {"ld ld", 9, 2}, {"ld mps", 9, 2}, {"ld mps coil", 9, 3}, {"ld mps coil mpp", 9, 4}, {"ld mps coil mpp coil", 9, 5}, {"ld coil and", 9, 3}, {"ld coil end ld", 9, 4}, {"ld coil end ld coil", 9, 5}, {"ld coil end ld coil end ld ld anb", 9, 9},
	}
}

// P38: each code, at the first place, within a list and at its end; with rungs ahead the place is counted over all of them.
func TestListsThatAreNotVerified(t *testing.T) {
	for _, w := range wrongLists() {
		checkSureFault(t, instsOf(w.words), w.code, w.at)
		if w.code == 9 {
			continue
		}
		// What is wrong once more, further on, is not told.
		for _, other := range wrongLists() {
			if f := impl.SureCheck(instsOf(w.words + " " + other.words)); f != (impl.SureFault{Code: w.code, At: w.at}) {
				t.Errorf("%s, then %s: %v", w.words, other.words, f)
			}
		}
	}
}

// Of several codes at one instruction the one that is listed first is told.
func TestFirstOfSeveralCodes(t *testing.T) {
	most, forks := repeated("ld", 16), "ld "+repeated("mps", 8)
	for _, w := range []wrongList{
		{"anb?", 2, 0}, {"end?", 2, 0}, {"mrd?", 2, 0}, {most + "ld?", 2, 16}, {"ld ld coil?", 2, 2}, {"ld ld end?", 2, 2}, {"ld coil inv?", 2, 2}, {"ld coil or?", 2, 2}, {"ld coil ld orb?", 2, 3}, {forks + "mps?", 2, 9}, {"ld mrd?", 2, 1}, {"ld mps coil end?", 2, 3}, {"ld end?", 2, 1}, {"ld mps mpp?", 2, 2},
		{"mrd", 3, 0}, {"mpp", 3, 0}, {"end", 3, 0}, {"ld coil end mrd", 3, 3}, {"ld coil end mpp", 3, 3}, {"ld coil end end", 3, 3},
		{"ld ld mrd", 5, 2}, {"ld ld mpp", 5, 2}, {"ld ld end", 5, 2}, {forks + "ld mps", 5, 10}, {"ld mps ld end", 5, 3}, {"ld mps ld mpp", 5, 3}, {"ld mps coil ld mrd", 5, 4}, {"ld mps coil ld end", 5, 4},
		{"ld mrd", 7, 1}, {"ld mpp", 7, 1}, {"ld mps end", 7, 2}, {"ld mps and end", 7, 3}, {"ld coil and mrd", 7, 3}, {"ld mps coil mpp mpp", 7, 4}, {"ld mps coil mpp mrd", 7, 4}, {"ld mps coil mrd end", 7, 4},
	} {
		checkSureFault(t, instsOf(w.words), w.code, w.at)
	}
}

// TestWhatMayFollow has for each beginning what is told of each Code behind it, from `ld` to `end`; 0, if it may stand there.
func TestWhatMayFollow(t *testing.T) {
	for _, c := range []struct{ words, codes string }{
		{"", "03333333333"},
		{"ld", "00033007708"},
		{"ld and", "00033007708"},
		{"ld inv", "00033007708"},
		{"ld ld", "00000055555"},
		{"ld ld anb", "00033007708"},
		{"ld ld orb", "00033007708"},
		{repeated("ld", 15), "00000055555"},
		{repeated("ld", 16), "40000055555"},
		{"ld coil", "00633607700"},
		{"ld coil coil", "00633607700"},
		{"ld coil and", "00633607708"},
		{"ld coil ld", "00006055555"},
		{"ld coil ld or", "00006055555"},
		{"ld coil ld inv", "00006055555"},
		{"ld coil ld ld", "00000055555"},
		{"ld coil ld ld orb", "00006055555"},
		{"ld coil ld anb", "00633607708"},
		{"ld coil " + repeated("ld", 15), "40000055555"},
		{"ld mps", "00633608807"},
		{"ld mps and", "00633608807"},
		{"ld mps ld", "00006055555"},
		{"ld mps ld ld", "00000055555"},
		{"ld mps coil", "00633600007"},
		{"ld mps coil and", "00633608807"},
		{"ld mps coil mrd", "00633608807"},
		{"ld mps coil mrd coil", "00633600007"},
		{"ld mps coil mpp", "00633607708"},
		{"ld mps coil mpp and", "00633607708"},
		{"ld mps coil mpp ld", "00006055555"},
		{"ld mps coil mpp coil", "00633607700"},
		{"ld mps mps", "00633608807"},
		{"ld mps mps coil mpp", "00633608807"},
		{"ld mps mps coil mpp coil", "00633600007"},
		{"ld mps mps coil mpp coil mpp coil", "00633607700"},
		{"ld " + repeated("mps", 7), "00633608807"},
		{"ld " + repeated("mps", 8), "00633678807"},
		{"ld " + repeated("mps", 8) + "coil", "00633670007"},
		{"ld " + repeated("mps", 8) + "coil mrd coil", "00633670007"},
		{"ld " + repeated("mps", 8) + "coil mpp coil", "00633600007"},
		{"ld coil end", "03333333333"},
		{"ld coil end ld", "00033007708"},
		{"ld coil end ld ld", "00000055555"},
		{"ld mps coil mpp coil end", "03333333333"},
		{"ld mps coil mpp coil end ld", "00033007708"},
		{"ld mps coil mpp coil end ld coil", "00633607700"},
	} {
		beginning := instsOf(c.words)
		for _, row := range listRows() {
			list := slices.Concat(beginning, instsOf(row.word))
			code, at := int(c.codes[row.code-1]-'0'), len(beginning)
			if code == 0 {
				code, at = 9, len(list)
			}
			if row.word == "end" && code == 9 {
				checkVerified(t, list)
				continue
			}
			checkSureFault(t, list, code, at)
			checkSureFault(t, slices.Concat(beginning, instsOf(row.word+"?")), 2, len(beginning))
		}
	}
}

// P38 at the bound of bits, at the beginning of a rung and behind its coils.
func TestSureMaxBits(t *testing.T) {
	for _, ahead := range []string{"", "ld mps coil mpp coil end "} {
		for _, taken := range []string{"anb", "orb"} {
			list := instsOf(ahead + repeated("ld", 16) + repeated(taken, 15) + "coil end")
			checkVerified(t, list)
			if peak := impl.SurePeak(list); peak.Bits != 16 {
				t.Errorf("%s: at most %v", sureBrief(list), peak)
			}
			list = instsOf(ahead + repeated("ld", 17) + repeated(taken, 16) + "coil end")
			checkSureFault(t, list, 4, len(instsOf(ahead))+16)
			if peak := impl.SurePeak(list); peak.Bits != 17 {
				t.Errorf("%s: at most %v", sureBrief(list), peak)
			}
		}
		for _, begun := range []string{"ld coil", "ld mps"} {
			behind := map[string]string{"ld coil": "coil end", "ld mps": "coil mpp coil end"}[begun]
			checkVerified(t, instsOf(ahead+begun+repeated("ld", 15)+repeated("anb", 15)+behind))
			checkVerified(t, instsOf(ahead+begun+repeated("ld", 15)+repeated("orb", 14)+"anb "+behind))
			checkSureFault(t, instsOf(ahead+begun+repeated("ld", 16)+repeated("anb", 16)+behind), 4, len(instsOf(ahead))+17)
		}
	}
	// Up to the bound again and again, never above it.
	checkVerified(t, instsOf(repeated(repeated("ld", 16)+repeated("anb", 15)+"coil end", 5)))
	checkVerified(t, instsOf("ld "+repeated(repeated("ld", 15)+repeated("orb", 15), 5)+"coil end"))
}

// P38 at the bound of forks.
func TestSureMaxForks(t *testing.T) {
	for _, ahead := range []string{"", "ld mps coil mpp coil end "} {
		for _, between := range []string{"", "and ", "coil ", "ld or anb "} {
			list := instsOf(ahead + "ld " + repeated("mps "+between, 8) + "coil" + repeated("mpp coil", 8) + "end")
			checkVerified(t, list)
			if peak := impl.SurePeak(list); peak.Forks != 8 {
				t.Errorf("%s: at most %v", sureBrief(list), peak)
			}
			list = instsOf(ahead + "ld " + repeated("mps "+between, 9) + "coil" + repeated("mpp coil", 9) + "end")
			checkSureFault(t, list, 7, len(instsOf(ahead))+1+8*len(instsOf("mps "+between)))
			if peak := impl.SurePeak(list); peak.Forks != 9 {
				t.Errorf("%s: at most %v", sureBrief(list), peak)
			}
		}
	}
	// One below the other, there may be any number of them.
	checkVerified(t, instsOf("ld "+repeated("mps coil mpp", 30)+"coil end"))
	checkVerified(t, instsOf("ld "+repeated("mps", 8)+repeated("coil mpp mps", 30)+"coil"+repeated("mpp coil", 8)+"end"))
	checkSureFault(t, instsOf("ld "+repeated("mps", 8)+repeated("coil mpp mps", 30)+"mps"), 7, 99)
}

// P38 at the bound of instructions: one more, and nothing is told but that.
func TestSureMaxList(t *testing.T) {
	rung := instsOf("ld and coil end")
	full := slices.Repeat(rung, 250)
	checkSure(t, full)
	if f, rungs := impl.SureCheck(full), impl.SureRungs(full); f != (impl.SureFault{}) || len(rungs) != 250 || len(impl.SureTrace(full)) != 1000 || impl.SurePeak(full) != (impl.SureState{Bits: 1}) {
		t.Errorf("%v and %d rungs", f, len(rungs))
	}
	one := slices.Concat(instsOf("ld"), slices.Repeat(instsOf("and"), 997), instsOf("coil end"))
	checkSure(t, one)
	if rungs := impl.SureRungs(one); len(rungs) != 1 || len(rungs[0]) != 1000 {
		t.Errorf("%d rungs", len(rungs))
	}
	for _, c := range []struct {
		list     []impl.Inst
		code, at int
	}{
		{slices.Concat(full, instsOf("ld")), 1, 0}, {slices.Concat(full, instsOf("?")), 1, 0}, {slices.Concat(instsOf("?"), full), 1, 0}, {slices.Concat(instsOf("and"), full), 1, 0}, {slices.Concat(instsOf("ld and"), full[1:]), 1, 0}, {slices.Repeat(rung, 500), 1, 0}, {slices.Repeat(instsOf("ld"), 1001), 1, 0}, {make([]impl.Inst, 1001), 1, 0}, {make([]impl.Inst, 66536), 1, 0},
		{slices.Concat(instsOf("?"), full[1:]), 2, 0}, {slices.Concat(full[:999], instsOf("?")), 2, 999}, {slices.Concat(full[:996], instsOf("ld and and and")), 9, 1000}, {slices.Concat(full[:996], instsOf("ld coil end end")), 3, 999}, {slices.Concat(full[:996], instsOf("ld coil coil inv")), 6, 999}, {slices.Concat(full[:996], instsOf("ld and and end")), 8, 999}, {full[:999], 9, 999},
	} {
		if f := checkSure(t, c.list); f != (impl.SureFault{Code: c.code, At: c.at}) {
			t.Errorf("%d instructions: %v, not %d at %d", len(c.list), f, c.code, c.at)
		}
		if many := len(c.list) > 1000; many && (len(impl.SureTrace(c.list)) != 0 || impl.SurePeak(c.list) != (impl.SureState{})) {
			t.Errorf("%d instructions: %d heights, at most %v", len(c.list), len(impl.SureTrace(c.list)), impl.SurePeak(c.list))
		}
	}
}

// P38: an instruction that is not ok is told wherever it stands, and any one that is ok is passed where its Code may stand.
func TestSureWordOfEachInstruction(t *testing.T) {
	for _, i := range badInsts() {
		one := []impl.Inst{i}
		checkSureFault(t, one, 2, 0)
		for _, words := range []string{"ld", "ld ld", "ld coil", "ld mps coil", "ld coil end", "ld coil end ld coil"} {
			ahead := instsOf(words)
			for _, tail := range []string{"", "coil end"} {
				if f := impl.SureCheck(slices.Concat(ahead, one, instsOf(tail))); f != (impl.SureFault{Code: 2, At: len(ahead)}) {
					t.Errorf("%v behind %s: %v", i, words, f)
				}
			}
		}
	}
	around := map[int][2]string{1: {"", "coil end"}, 2: {"ld", "coil end"}, 3: {"ld", "coil end"}, 4: {"ld ld", "coil end"}, 5: {"ld ld", "coil end"}, 6: {"ld", "coil end"}, 7: {"ld", "coil mpp coil end"}, 8: {"ld mps coil", "coil mpp coil end"}, 9: {"ld mps coil", "coil end"}, 10: {"ld", "end"}, 11: {"ld coil", ""}}
	for _, i := range goodInsts() {
		checkVerified(t, slices.Concat(instsOf(around[i.Code][0]), []impl.Inst{i}, instsOf(around[i.Code][1])))
	}
	// An empty list of operands is nothing too.
	checkVerified(t, []impl.Inst{instSure(1, "X0"), {Code: 6, One: impl.Elem{Args: []impl.DevArg{}}}, instSure(10, "out:Y0"), {Code: 11, One: impl.Elem{Args: []impl.DevArg{operand(1, 0, 0)}[:0]}}})
}

// SureTrace goes by the Codes alone, whatever stands beside them, and below 0 too; SurePeak is never below 0.
func TestTracesWrittenOut(t *testing.T) {
	at := func(bits, forks int) impl.SureState { return impl.SureState{Bits: bits, Forks: forks} }
	for _, c := range []struct {
		words string
		trace []impl.SureState
		peak  impl.SureState
	}{
		{"ld", []impl.SureState{at(1, 0)}, at(1, 0)}, {"and", []impl.SureState{at(0, 0)}, at(0, 0)}, {"or", []impl.SureState{at(0, 0)}, at(0, 0)}, {"anb", []impl.SureState{at(-1, 0)}, at(0, 0)}, {"orb", []impl.SureState{at(-1, 0)}, at(0, 0)}, {"inv", []impl.SureState{at(0, 0)}, at(0, 0)}, {"mps", []impl.SureState{at(0, 1)}, at(0, 1)}, {"mrd", []impl.SureState{at(0, 0)}, at(0, 0)}, {"mpp", []impl.SureState{at(0, -1)}, at(0, 0)}, {"coil", []impl.SureState{at(0, 0)}, at(0, 0)}, {"end", []impl.SureState{at(-1, 0)}, at(0, 0)}, {"?", []impl.SureState{at(0, 0)}, at(0, 0)},
		{"ld ld anb mps coil mpp coil end", []impl.SureState{at(1, 0), at(2, 0), at(1, 0), at(1, 1), at(1, 1), at(1, 0), at(1, 0), at(0, 0)}, at(2, 1)},
		{"ld? ld? ? mps? ? anb? mpp? mrd? end?", []impl.SureState{at(1, 0), at(2, 0), at(2, 0), at(2, 1), at(2, 1), at(1, 1), at(1, 0), at(1, 0), at(0, 0)}, at(2, 1)},
		{"end orb mpp mpp ld ld ld mps", []impl.SureState{at(-1, 0), at(-2, 0), at(-2, -1), at(-2, -2), at(-1, -2), at(0, -2), at(1, -2), at(1, -1)}, at(1, 0)},
		{"anb mpp anb mpp ld mps", []impl.SureState{at(-1, 0), at(-1, -1), at(-2, -1), at(-2, -2), at(-1, -2), at(-1, -1)}, at(0, 0)},
		{"anb mps mps end mpp", []impl.SureState{at(-1, 0), at(-1, 1), at(-1, 2), at(-2, 2), at(-2, 1)}, at(0, 2)},
		{"mpp ld ld end", []impl.SureState{at(0, -1), at(1, -1), at(2, -1), at(1, -1)}, at(2, 0)},
	} {
		list := instsOf(c.words)
		if trace, peak := impl.SureTrace(list), impl.SurePeak(list); !slices.Equal(trace, c.trace) || peak != c.peak {
			t.Errorf("%s: %v, at most %v", c.words, trace, peak)
		}
		checkTrace(t, list)
	}
}

// SureTrace of what is no instruction, and as high and low as it comes.
func TestTracesOfAnyCodes(t *testing.T) {
	for _, code := range noCodes() {
		list := []impl.Inst{{Code: 1}, {Code: code}, {Code: 7, One: elemSure("X0")}, {Code: code, One: elemSure("out:Y0")}}
		if trace := impl.SureTrace(list); !slices.Equal(trace, []impl.SureState{{Bits: 1}, {Bits: 1}, {Bits: 1, Forks: 1}, {Bits: 1, Forks: 1}}) {
			t.Errorf("%d: %v", code, trace)
		}
		checkSure(t, list)
		checkSure(t, list[1:])
	}
	for code, last := range map[int]impl.SureState{1: {Bits: 1000}, 4: {Bits: -1000}, 5: {Bits: -1000}, 11: {Bits: -1000}, 7: {Forks: 1000}, 9: {Forks: -1000}, 0: {}, math.MinInt: {}} {
		list := slices.Repeat([]impl.Inst{{Code: code}}, 1000)
		trace, peak := impl.SureTrace(list), impl.SureState{Bits: max(last.Bits, 0), Forks: max(last.Forks, 0)}
		if len(trace) != 1000 || trace[999] != last || impl.SurePeak(list) != peak {
			t.Errorf("%d: %d heights, at most %v", code, len(trace), impl.SurePeak(list))
		}
		checkTrace(t, list)
		checkTrace(t, append(list, list[0]))
	}
	r := rand.New(rand.NewSource(12))
	for range 2000 {
		list := []impl.Inst{}
		for range r.Intn(40) {
			list = append(list, impl.Inst{Code: r.Intn(14) - 1, One: impl.Elem{Op: r.Intn(3)}})
		}
		checkTrace(t, list)
	}
}

// checkLonger makes lists longer by each instruction, and holds what is told of them against the second readings; it gives those that are still to be made longer.
func checkLonger(t *testing.T, lists [][]impl.Inst, more func(f impl.SureFault) bool, told map[int]int) [][]impl.Inst {
	t.Helper()
	longer := [][]impl.Inst{}
	for _, list := range lists {
		for _, i := range instsOf("ld and or anb orb inv mps mrd mpp coil end ?") {
			next := append(slices.Clone(list), i)
			f, want, sure := impl.SureCheck(next), sureFaultOf(next), sureByForm(next)
			if f != want || sure != (f.Code == 0) {
				t.Errorf("%s: %v, not %v, by the grammar %v", sureBrief(next), f, want, sure)
			}
			told[f.Code]++
			if more(f) {
				longer = append(longer, next)
			}
		}
	}
	return longer
}

// Each list of a few instructions, right or wrong; and longer ones, as long as no instruction of them is wrong.
func TestShortListsAreVerified(t *testing.T) {
	all, right, told := [][]impl.Inst{{}}, [][]impl.Inst{{}}, map[int]int{}
	for range 4 {
		all = checkLonger(t, all, func(f impl.SureFault) bool { return true }, told)
	}
	for range 7 {
		right = checkLonger(t, right, func(f impl.SureFault) bool { return f.Code == 0 || f.Code == 9 }, told)
	}
	for _, code := range []int{0, 2, 3, 5, 6, 7, 8, 9} {
		if told[code] < 50 {
			t.Errorf("code %d is told %d times: %v", code, told[code], told)
		}
	}
}

// wordsOfBit, wordsOfTail and wordsOfRung are what makes a rung that is verified, by chance, of always the same chances; bits and forks are how many more there may be.
func wordsOfBit(r *rand.Rand, bits int) string {
	words := "ld "
	for range r.Intn(4) {
		if bits == 1 || r.Intn(2) == 0 {
			words += []string{"and ", "or ", "inv "}[r.Intn(3)]
		} else {
			words += wordsOfBit(r, bits-1-r.Intn(min(bits-1, 3))) + []string{"anb ", "orb "}[r.Intn(2)]
		}
	}
	return words
}

func wordsOfTail(r *rand.Rand, forks int) string {
	words := ""
	for range r.Intn(4) {
		words += []string{"coil ", "coil coil ", "and ", wordsOfBit(r, r.Intn(3)+1) + "anb "}[r.Intn(4)]
		if forks > 0 && r.Intn(3) == 0 {
			words += "mps " + wordsOfTail(r, forks-1)
			for range r.Intn(3) {
				words += "mrd " + wordsOfTail(r, forks-1)
			}
			words += "mpp "
		}
	}
	return words + "coil "
}

func wordsOfRung(r *rand.Rand) string {
	first := wordsOfBit(r, 1+r.Intn(16))
	if r.Intn(2) == 0 {
		first += "coil "
	}
	// An `and` that a tail may begin with is taken into the first bit, where it may stand as well.
	return first + wordsOfTail(r, r.Intn(9)) + "end "
}

// anyVerified are lists of some rungs, by chance, with contacts and coils of every sort.
func anyVerified(seed int64, count int) [][]impl.Inst {
	r, good := rand.New(rand.NewSource(seed)), map[int][]impl.Inst{}
	for _, i := range goodInsts() {
		good[i.Code] = append(good[i.Code], i)
	}
	lists := [][]impl.Inst{}
	for len(lists) < count {
		words := ""
		for range r.Intn(5) {
			words += wordsOfRung(r)
		}
		list := instsOf(words)
		for at, i := range list {
			list[at] = good[i.Code][r.Intn(len(good[i.Code]))]
		}
		if len(list) <= 400 {
			lists = append(lists, list)
		}
	}
	return lists
}

// P38 and P39 of lists by chance that are made by the grammar.
func TestAnyVerifiedLists(t *testing.T) {
	deep, forked := 0, 0
	for _, list := range anyVerified(38, 300) {
		checkVerified(t, list)
		peak := impl.SurePeak(list)
		deep, forked = max(deep, peak.Bits), max(forked, peak.Forks)
	}
	if deep < 5 || forked < 3 {
		t.Errorf("%d bits and %d forks at most", deep, forked)
	}
}

// P38 and P40 of lists that were verified, until one instruction was taken out, put in, changed, or changed places with another one.
func TestSpoiltVerifiedLists(t *testing.T) {
	r, told := rand.New(rand.NewSource(40)), map[int]int{}
	others := slices.Concat(goodInsts(), instsOf(repeated("ld and or anb orb inv mps mrd mpp coil end", 10)), badInsts()[:5])
	for _, list := range anyVerified(39, 500) {
		if len(list) == 0 {
			continue
		}
		for range 6 {
			at, to, one := r.Intn(len(list)), r.Intn(len(list)), others[r.Intn(len(others))]
			other := slices.Clone(list)
			switch r.Intn(4) {
			case 0:
				other = slices.Delete(other, at, at+1)
			case 1:
				other = slices.Insert(other, at, one)
			case 2:
				other[at] = one
			default:
				other[at], other[to] = other[to], other[at]
			}
			told[checkSure(t, other).Code]++
		}
	}
	for _, code := range []int{0, 2, 3, 5, 6, 7, 8} {
		if told[code] < 20 {
			t.Errorf("code %d is told %d times: %v", code, told[code], told)
		}
	}
}

// P39: lists that are verified are so one behind the other, and their rungs are those of both.
func TestVerifiedListsTogether(t *testing.T) {
	lists := someVerified(41, 40)
	for _, a := range lists {
		for _, b := range lists {
			both := slices.Concat(a, b)
			if f := impl.SureCheck(both); f != (impl.SureFault{}) {
				t.Errorf("%s and %s: %v", sureBrief(a), sureBrief(b), f)
			}
			if rungs, want := impl.SureRungs(both), slices.Concat(impl.SureRungs(a), impl.SureRungs(b)); !slices.EqualFunc(rungs, want, sameInsts) {
				t.Errorf("%s and %s: %d rungs, not %d", sureBrief(a), sureBrief(b), len(rungs), len(want))
			}
		}
	}
	// Too many together are told as such, and have no rungs.
	for _, list := range lists {
		if len(list) == 0 {
			continue
		}
		fit := 1000 / len(list)
		if f, rungs := impl.SureCheck(slices.Repeat(list, fit)), impl.SureRungs(slices.Repeat(list, fit)); f != (impl.SureFault{}) || len(rungs) != fit*len(impl.SureRungs(list)) {
			t.Errorf("%s, %d times: %v and %d rungs", sureBrief(list), fit, f, len(rungs))
		}
		if f, rungs := impl.SureCheck(slices.Repeat(list, fit+1)), impl.SureRungs(slices.Repeat(list, fit+1)); f != (impl.SureFault{Code: 1}) || len(rungs) != 0 {
			t.Errorf("%s, %d times: %v and %d rungs", sureBrief(list), fit+1, f, len(rungs))
		}
	}
}

// P40 of each code with anything behind it, up to the bound of instructions; one more, and it is told as too many.
func TestWhatIsToldStays(t *testing.T) {
	r := rand.New(rand.NewSource(400))
	others := slices.Concat(goodInsts(), badInsts())
	for _, w := range wrongLists() {
		if w.code == 9 {
			continue
		}
		beginning, fault := instsOf(w.words)[:w.at+1], impl.SureFault{Code: w.code, At: w.at}
		for _, count := range []int{0, 1, 2, 10, 1000 - len(beginning)} {
			list := slices.Clone(beginning)
			for range count {
				list = append(list, others[r.Intn(len(others))])
			}
			if f := impl.SureCheck(list); f != fault {
				t.Errorf("%s with %d behind: %v", w.words, count, f)
			}
			if f := impl.SureCheck(append(list, instsOf("end")...)); f != fault && (len(list) < 1000 || f != (impl.SureFault{Code: 1})) {
				t.Errorf("%s with %d and an end behind: %v", w.words, count, f)
			}
		}
	}
}

// someVerified are lists that are verified, written out and by chance.
func someVerified(seed int64, count int) [][]impl.Inst {
	lists := anyVerified(seed, count)
	for _, w := range verifiedLists() {
		lists = append(lists, instsOf(w.words))
	}
	return lists
}

// Rungs are new memory: none shares any with the list, with another rung or within itself, and no later answer sees what was written into one.
func TestSureRungsAreNewMemory(t *testing.T) {
	for _, list := range someVerified(42, 60) {
		room := withRoomBehind(list)
		ahead, kept := roomsBehind(room), impl.SureRungs(room)
		want := [][]impl.Inst{}
		for _, rung := range kept {
			want = append(want, cloneInsts(rung))
		}
		rungs := impl.SureRungs(room)
		checkOwnMemory(t, rungs...)
		for i := range rungs[:cap(rungs)] {
			rungs[:cap(rungs)][i] = nil
		}
		if got := roomsBehind(room); got != ahead {
			t.Errorf("%s: rungs share memory with the list: %s", sureBrief(list), got)
		}
		if again := impl.SureRungs(room); !slices.EqualFunc(again, want, sameInsts) {
			t.Errorf("%s: %d other rungs when asked again", sureBrief(list), len(again))
		}
		for i := range room {
			for j := range room[i].One.Args {
				room[i].One.Args[j] = operand(1, 9, 0)
			}
			room[i] = impl.Inst{}
		}
		if !slices.EqualFunc(kept, want, sameInsts) {
			t.Errorf("%s: the list shares memory with its rungs", sureBrief(list))
		}
	}
}

// Heights are new memory with each call.
func TestSureTraceIsNewMemory(t *testing.T) {
	for _, list := range someVerified(43, 20) {
		kept, trace := impl.SureTrace(list), impl.SureTrace(list)
		for i := range trace[:cap(trace)] {
			trace[:cap(trace)][i] = impl.SureState{Bits: 99, Forks: 99}
		}
		if want := tracedOf(list); !slices.Equal(kept, want) || !slices.Equal(impl.SureTrace(list), want) {
			t.Errorf("%s: heights share memory", sureBrief(list))
		}
	}
}

// No argument is written into, nor behind its end; what stands behind counts for nothing; nothing is kept from call to call.
func TestSureWritesIntoNothing(t *testing.T) {
	lists := append(someVerified(44, 40), nil, badInsts(), goodInsts(), slices.Repeat(mixedInsts(), 200), slices.Repeat(mixedInsts(), 201))
	for _, w := range wrongLists() {
		lists = append(lists, instsOf(w.words))
	}
	for _, list := range lists {
		room := withRoomBehind(list)
		ahead := roomsBehind(room)
		for range 2 {
			if f, want := impl.SureCheck(room), sureFaultOf(list); f != want {
				t.Errorf("%s: with room behind %v, not %v", sureBrief(list), f, want)
			}
			checkTrace(t, room)
			if rungs, want := impl.SureRungs(room), impl.SureRungs(list); !slices.EqualFunc(rungs, want, sameInsts) {
				t.Errorf("%s: with room behind %d rungs, not %d", sureBrief(list), len(rungs), len(want))
			}
			impl.SureCheck(instsOf("ld mps coil inv"))
			impl.SureRungs(instsOf("ld mps coil mpp coil end ld coil end"))
		}
		if got := roomsBehind(room); got != ahead {
			t.Errorf("%s: written into: %s", sureBrief(list), got)
		}
	}
}

// Very large instructions and lists are answered.
func TestSureOfVeryLargeLists(t *testing.T) {
	many := slices.Repeat([]impl.DevArg{operand(1, 0, 0)}, 1000000)
	for _, row := range listRows() {
		for _, op := range []int{0, 1, 21} {
			checkSureFault(t, []impl.Inst{{Code: row.code, One: impl.Elem{Op: op, Args: many}}}, 2, 0)
		}
	}
	for _, i := range instsOf("ld coil end ?") {
		list := slices.Repeat([]impl.Inst{i}, 1000000)
		f, trace, peak, rungs := impl.SureCheck(list), impl.SureTrace(list), impl.SurePeak(list), impl.SureRungs(list)
		if f != (impl.SureFault{Code: 1}) || len(trace) != 0 || peak != (impl.SureState{}) || len(rungs) != 0 {
			t.Errorf("a million of %v: %v, %d heights, %v, %d rungs", i, f, len(trace), peak, len(rungs))
		}
	}
}
