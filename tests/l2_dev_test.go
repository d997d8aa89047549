package tests

import (
	"math"
	"strconv"
	"strings"
	"testing"

	"loop.example/stile/impl"
)

// devRow is a row of the table of chapter 2; size 0 is no device.
type devRow struct {
	kind   int
	letter string
	size   int
	asked  string // b, w and r: for a bit, a whole, a real number
}

func devRows() []devRow {
	return []devRow{
		{1, "X", 32, "b"}, {2, "Y", 32, "b"}, {3, "M", 64, "b"}, {4, "S", 16, "b"}, {5, "E", 32, ""}, {6, "G", 5, "b"}, {7, "T", 16, "bw"},
		{8, "C", 16, "bw"}, {9, "D", 32, "w"}, {10, "R", 16, "r"}, {11, "", 0, "w"}, {12, "", 0, "r"}, {13, "", 0, "r"},
	}
}

func operand(kind, n, p int) impl.DevArg {
	return impl.DevArg{Kind: kind, N: n, P: p}
}

// written is an operand and the text that the document gives it.
type written struct {
	a    impl.DevArg
	text string
}

// devices are all devices there are.
func devices() []written {
	all := []written{}
	for _, row := range devRows() {
		for n := range row.size {
			all = append(all, written{operand(row.kind, n, 0), row.letter + strconv.Itoa(n)})
		}
	}
	return all
}

// edgeNumbers are whole and decimal numbers at their edges, and the four words.
func edgeNumbers() []written {
	return []written{
		{operand(11, 0, 0), "0"}, {operand(11, 1, 0), "1"}, {operand(11, -1, 0), "-1"}, {operand(11, 10, 0), "10"}, {operand(11, -100, 0), "-100"},
		{operand(11, 32767, 0), "32767"}, {operand(11, -32767, 0), "-32767"}, {operand(11, -32768, 0), "-32768"},
		{operand(12, 0, 1), "0.0"}, {operand(12, 1, 1), "0.1"}, {operand(12, -1, 1), "-0.1"}, {operand(12, 10, 1), "1.0"}, {operand(12, -10, 1), "-1.0"},
		{operand(12, 327680, 1), "32768.0"}, {operand(12, 5, 1), "0.5"}, {operand(12, 5, 2), "0.05"}, {operand(12, -5, 3), "-0.005"},
		{operand(12, 105, 2), "1.05"}, {operand(12, 1, 6), "0.000001"}, {operand(12, -1, 6), "-0.000001"}, {operand(12, 100001, 6), "0.100001"},
		{operand(12, 1000001, 6), "1.000001"}, {operand(12, -1234567, 6), "-1.234567"}, {operand(12, 999999990, 1), "99999999.0"},
		{operand(12, 999999999, 1), "99999999.9"}, {operand(12, -999999999, 1), "-99999999.9"},
		{operand(12, 999999999, 6), "999.999999"}, {operand(12, -999999999, 6), "-999.999999"}, {operand(12, 100000001, 3), "100000.001"},
		{operand(13, 0, 0), "nan"}, {operand(13, 1, 0), "inf"}, {operand(13, 2, 0), "-inf"}, {operand(13, 3, 0), "-0.0"},
	}
}

// checkWritten holds an operand that is ok against its text, both ways.
func checkWritten(t *testing.T, w written) {
	t.Helper()
	if !impl.DevOk(w.a) {
		t.Errorf("%v: not ok", w.a)
	}
	if text := impl.DevText(w.a); text != w.text {
		t.Errorf("%v: text %q, not %q", w.a, text, w.text)
	}
	if a, ok := impl.DevRead(w.text); !ok || a != w.a {
		t.Errorf("%q: read %v %v, not %v", w.text, a, ok, w.a)
	}
}

// checkNoOperand holds an operand that is not ok against all that is said of it.
func checkNoOperand(t *testing.T, a impl.DevArg) {
	t.Helper()
	if impl.DevOk(a) || impl.DevText(a) != "" {
		t.Errorf("%v: ok %v, text %q", a, impl.DevOk(a), impl.DevText(a))
	}
	if impl.DevIsBit(a) || impl.DevIsWhole(a) || impl.DevIsReal(a) {
		t.Errorf("%v: asked %v %v %v", a, impl.DevIsBit(a), impl.DevIsWhole(a), impl.DevIsReal(a))
	}
}

func checkNoText(t *testing.T, text string) {
	t.Helper()
	if a, ok := impl.DevRead(text); ok || a != (impl.DevArg{}) {
		t.Errorf("%q: read %v %v", text, a, ok)
	}
}

func TestDevBounds(t *testing.T) {
	if impl.DevMaxInt != 32767 || impl.DevMaxDec != 999999999 || impl.DevMaxP != 6 {
		t.Error(impl.DevMaxInt, impl.DevMaxDec, impl.DevMaxP)
	}
	for i, kind := range []int{
		impl.DevX, impl.DevY, impl.DevM, impl.DevS, impl.DevE, impl.DevG, impl.DevT, impl.DevC, impl.DevD, impl.DevR, impl.DevInt, impl.DevDec, impl.DevWord,
	} {
		if kind != i+1 {
			t.Errorf("the kind in place %d: %d", i, kind)
		}
	}
}

func TestDevSizeAndLetter(t *testing.T) {
	for _, row := range devRows() {
		if impl.DevSize(row.kind) != row.size || impl.DevLetter(row.kind) != row.letter {
			t.Errorf("%d: %d %q", row.kind, impl.DevSize(row.kind), impl.DevLetter(row.kind))
		}
	}
	for _, kind := range []int{math.MinInt, -13, -1, 0, 14, 15, 256, 257, 1<<32 + 1, math.MaxInt} {
		if impl.DevSize(kind) != 0 || impl.DevLetter(kind) != "" {
			t.Errorf("%d: %d %q", kind, impl.DevSize(kind), impl.DevLetter(kind))
		}
	}
}

// P5, for devices, all of them.
func TestDevicesBothWays(t *testing.T) {
	for _, w := range devices() {
		checkWritten(t, w)
	}
}

// P5, for whole numbers, all of them and some beyond.
func TestWholeNumbersBothWays(t *testing.T) {
	for n := -40000; n <= 40000; n++ {
		a, text := operand(11, n, 0), strconv.Itoa(n)
		if n >= -32768 && n <= 32767 {
			checkWritten(t, written{a, text})
		} else {
			checkNoOperand(t, a)
			checkNoText(t, text)
		}
	}
}

// decText writes a decimal number as the document says, by whole numbers alone.
func decText(n, p int) string {
	sign, tens := "", 1
	if n < 0 {
		sign, n = "-", -n
	}
	for range p {
		tens *= 10
	}
	behind := strconv.Itoa(n % tens)
	for len(behind) < p {
		behind = "0" + behind
	}
	return sign + strconv.Itoa(n/tens) + "." + behind
}

// P5, for decimal numbers: small ones, some of every size, and those that end in the digit 0.
func TestDecimalNumbersBothWays(t *testing.T) {
	numbers := []int{999999989, 999999990, 999999998, 999999999}
	for n := 0; n <= 2100; n++ {
		numbers = append(numbers, n)
	}
	for n := 7; n <= 999999999; n = n*3/2 + 1 {
		numbers = append(numbers, n, n/10*10)
	}
	for _, n := range numbers {
		for _, n := range []int{n, -n} {
			for p := 1; p <= 6; p++ {
				a, text := operand(12, n, p), decText(n, p)
				if p == 1 || n%10 != 0 {
					checkWritten(t, written{a, text})
				} else {
					checkNoOperand(t, a)
					checkNoText(t, text)
				}
			}
		}
	}
}

// P5, at the edges.
func TestEdgeNumbersBothWays(t *testing.T) {
	for _, w := range edgeNumbers() {
		checkWritten(t, w)
	}
}

// P5 and P6, with operands that are not ok.
func TestOperandsThatAreNotOk(t *testing.T) {
	far := []int{math.MinInt, math.MinInt32, -1 << 31, -1, 64, 65, 65536, 1 << 32, 1<<32 + 1, math.MaxInt32, math.MaxInt}
	for _, kind := range []int{math.MinInt, -12, -1, 0, 14, 15, 257, math.MaxInt} {
		for _, n := range append(far, 0, 1) {
			for p := -1; p <= 7; p++ {
				checkNoOperand(t, operand(kind, n, p))
			}
		}
	}
	for _, row := range devRows() {
		for _, n := range append(far, row.size) {
			if row.size > 0 {
				checkNoOperand(t, operand(row.kind, n, 0))
			}
		}
		for _, p := range []int{math.MinInt, -1, 1, 2, 6, 7, math.MaxInt} {
			if row.kind != 12 {
				checkNoOperand(t, operand(row.kind, 0, p))
				checkNoOperand(t, operand(row.kind, 1, p))
			}
		}
	}
	for _, p := range []int{math.MinInt, -6, -1, 0, 7, 8, 1<<32 + 1, math.MaxInt} {
		checkNoOperand(t, operand(12, 0, p))
		checkNoOperand(t, operand(12, 5, p))
		checkNoOperand(t, operand(12, -5, p))
	}
	for _, n := range []int{math.MinInt, -1000000001, -1000000000, 1000000000, 1000000001, 1<<32 + 1, math.MaxInt} {
		for p := 1; p <= 6; p++ {
			checkNoOperand(t, operand(12, n, p))
		}
	}
	for _, a := range []impl.DevArg{
		{}, operand(11, 32768, 0), operand(11, -32769, 0), operand(11, math.MaxInt, 0), operand(11, math.MinInt, 0), operand(11, 1<<32+1, 0),
		operand(12, 0, 2), operand(12, 0, 6), operand(12, 10, 2), operand(12, -10, 2), operand(12, 1000000, 6), operand(12, 999999990, 2),
		operand(13, -1, 0), operand(13, 4, 0), operand(13, math.MaxInt, 0), operand(13, math.MinInt, 0),
	} {
		checkNoOperand(t, a)
	}
}

// P5, with wrong texts.
func TestWrongTextsOfOperands(t *testing.T) {
	for _, text := range []string{
		"", "X01", "+5", "-0", "0.50", "5.", ".5", "-.5", "-5.", "+0.5", "-0.00", "0.00", "00.0", "-00.0", "00", "01", "-01", "00.5", "01.5", "-01.5", ".", "-", "--5", "-.", "0.", "-0.",
		"0.-5", "1.2.3", "0..5", "5-", "5.0-", "1.50", "1.00", "10.10", "0.0000010", "0.0000001", "1.1234567", "-1.1234567", "0.000000",
		"1e3", "1.5e3", "0x10", "0b1", "1_000", "1,5", "5f", "NaN", "NAN", "Inf", "+inf", "INF", "+nan", "-nan", "infinity", "nan ", " nan", "inff", "-in", "na", "--inf", "-0.0 ", "- 0.0", "-0,0",
		"32768", "-32769", "65536", "99999", "4294967296", "4294967301", "18446744073709551617", "-18446744073709551617",
		"100000000.0", "-100000000.0", "1000.000001", "1000000000.1", "1234567890.1", "10000.00001", "1844674407370955161.7",
		"X", "Y", "E", "-X1", "X-1", "X+1", "X1.5", "X1.0", "X.5", "XX1", "1X", "X1 ", " X1", "X 1", "X1X", "x1", "y0", "d3", "Q1", "A0", "XY", "X00", "X1\n", "\tX1", "X1\x00", "\x00",
		"X4294967296", "X18446744073709551616", "X18446744073709551617", "D-1", "R1.0",
		"\xff", "X\xff", "\xffX1", "X1\xff", "5\xff", "\xff5", "0.\xff", "0.5\xff", "-\xff", "nan\xff", "\xc3", "X\xc3\x28", "\ufffd", "X\ufffd1",
		"\u0665", "X\u0661", "\uff15", "\uff381", "\u22125", "0\u066b5", "\u03a71", "\u0661.\u0665", "0.\u0665",
		strings.Repeat("0", 100000), strings.Repeat("9", 100000), "0." + strings.Repeat("0", 100000), "X" + strings.Repeat("0", 65536) + "1", strings.Repeat("X", 70000),
	} {
		checkNoText(t, text)
	}
	for _, row := range devRows() {
		if row.size == 0 {
			continue
		}
		checkNoText(t, row.letter)
		checkNoText(t, strings.ToLower(row.letter)+"0")
		for _, n := range []int{-1, row.size, row.size + 1, 100, 256, 65536} {
			checkNoText(t, row.letter+strconv.Itoa(n))
		}
		for n := range row.size {
			checkNoText(t, row.letter+"0"+strconv.Itoa(n))
		}
	}
}

// byTexts has each operand by its text, for texts of up to five signs.
func byTexts() map[string]impl.DevArg {
	all := map[string]impl.DevArg{}
	for _, w := range append(devices(), edgeNumbers()...) {
		all[w.text] = w.a
	}
	for n := -9999; n <= 32767; n++ {
		all[strconv.Itoa(n)] = operand(11, n, 0)
	}
	for n := -999; n <= 9999; n++ {
		for p := 1; p <= 3; p++ {
			if p == 1 || n%10 != 0 {
				all[decText(n, p)] = operand(12, n, p)
			}
		}
	}
	return all
}

// P5, from the text: each of up to five signs out of some.
func TestDevReadOfShortTexts(t *testing.T) {
	want := byTexts()
	texts := []string{""}
	for size := 0; size <= 5; size++ {
		longer := []string{}
		for _, text := range texts {
			a, ok := impl.DevRead(text)
			if w, there := want[text]; ok != there || a != w {
				t.Errorf("%q: read %v %v, not %v", text, a, ok, w)
			}
			if ok && (!impl.DevOk(a) || impl.DevText(a) != text) {
				t.Errorf("%q: read as %v, written as %q", text, a, impl.DevText(a))
			}
			for _, sign := range []string{"-", "+", ".", "0", "1", "5", "9", "X", "G", "\xff"} {
				longer = append(longer, text+sign)
			}
		}
		texts = longer
	}
}

// P5, from the text: one byte of an operand's text is another, or one is put in.
func TestDevReadOfSpoiltTexts(t *testing.T) {
	for _, w := range edgeNumbers() {
		for i := range len(w.text) + 1 {
			for sign := range 256 {
				mid := string([]byte{byte(sign)})
				for _, text := range []string{w.text[:i] + mid + w.text[i:], w.text[:i] + mid + w.text[min(i+1, len(w.text)):]} {
					a, ok := impl.DevRead(text)
					if ok && (!impl.DevOk(a) || impl.DevText(a) != text) || !ok && a != (impl.DevArg{}) {
						t.Errorf("%q: read %v %v, written as %q", text, a, ok, impl.DevText(a))
					}
				}
			}
		}
	}
}

// P6, for every kind: all devices, numbers at their edges, the words.
func TestAskedByKindAlone(t *testing.T) {
	rows := devRows()
	for _, w := range append(devices(), edgeNumbers()...) {
		asked := rows[w.a.Kind-1].asked
		if impl.DevIsBit(w.a) != strings.Contains(asked, "b") {
			t.Errorf("%q: a bit %v", w.text, impl.DevIsBit(w.a))
		}
		if impl.DevIsWhole(w.a) != strings.Contains(asked, "w") {
			t.Errorf("%q: whole %v", w.text, impl.DevIsWhole(w.a))
		}
		if impl.DevIsReal(w.a) != strings.Contains(asked, "r") {
			t.Errorf("%q: real %v", w.text, impl.DevIsReal(w.a))
		}
	}
}
