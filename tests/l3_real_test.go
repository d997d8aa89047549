package tests

import (
	"math"
	"math/big"
	"math/bits"
	"regexp"
	"sort"
	"strconv"
	"strings"
	"testing"

	"loop.example/stile/impl"
)

// wrongOps are neither tests nor calculations.
func wrongOps() []int {
	return []int{math.MinInt, -6, -1, 0, 7, 8, 255, 256, 257, 1 << 16, 1<<16 + 1, 1 << 32, 1<<32 + 1, math.MaxInt}
}

// signHolds is what a sign says, if a is ahead of b (-1), with it (0) or behind it (1).
func signHolds(sign string, side int) bool {
	switch side {
	case -1:
		return sign == "<" || sign == "<=" || sign == "<>"
	case 0:
		return sign == "<=" || sign == "=" || sign == ">="
	}
	return sign == ">" || sign == ">=" || sign == "<>"
}

// cmpSigns are the signs of the tests 1 to 6, as the document has them.
func cmpSigns() []string {
	return []string{"<", "<=", "=", "<>", ">=", ">"}
}

func sideOf(a, b int) int {
	switch {
	case a < b:
		return -1
	case a > b:
		return 1
	}
	return 0
}

func negZero() float64 {
	return math.Copysign(0, -1)
}

// sameReal holds two real numbers against each other as values: all nan are one, +0 and -0 two.
func sameReal(a, b float64) bool {
	return a != a && b != b || math.Float64bits(a) == math.Float64bits(b)
}

// wholeEdges are whole numbers at the edges and between.
func wholeEdges() []int16 {
	all := []int16{-32768, -32767, -32766, -16385, -16384, -257, -256, -255, -182, -181, -10, -7, -3, -2, -1}
	for _, n := range all {
		if n > -32768 {
			all = append(all, -n)
		}
	}
	return append(all, 0, 12345, -12345, 9973, -9973)
}

// realsInOrder are real numbers, the lesser ahead, without nan; +0 and -0 have one place.
func realsInOrder() [][]float64 {
	above := []float64{
		5e-324, 1e-323, 2.2250738585072009e-308, 2.2250738585072014e-308, 1e-300, 1e-6, 0.1, math.Nextafter(0.1, 1), 0.5, math.Nextafter(1, 0), 1, math.Nextafter(1, 2),
		1.5, 2, 2.5, 3, 100.25, 32767, 32767.99, 32768, 1<<51 + 0.5, 1<<53 - 1, 1 << 53, 1<<53 + 2, 1e300, math.Nextafter(math.MaxFloat64, 0), math.MaxFloat64, math.Inf(1),
	}
	all := [][]float64{}
	for i := range above {
		all = append(all, []float64{-above[len(above)-1-i]})
	}
	all = append(all, []float64{0, negZero()})
	for _, x := range above {
		all = append(all, []float64{x})
	}
	return all
}

// manyReals are numbers all over: each power of 2 and what is beside it, the edges, any bits.
func manyReals() []float64 {
	all := []float64{math.NaN()}
	for _, place := range realsInOrder() {
		all = append(all, place...)
	}
	for e := -1074; e <= 1023; e++ {
		x := math.Ldexp(1, e)
		for _, y := range []float64{x, math.Nextafter(x, 0), math.Nextafter(x, math.Inf(1)), x * 1.5} {
			all = append(all, y, -y)
		}
	}
	word := uint64(88172645463325252)
	for range 20000 {
		word ^= word << 13
		word ^= word >> 7
		word ^= word << 17
		all = append(all, math.Float64frombits(word), float64(int32(word))/1000)
	}
	return all
}

func TestNumberConstants(t *testing.T) {
	for i, op := range []int{impl.CmpLess, impl.CmpMost, impl.CmpSame, impl.CmpOther, impl.CmpLeast, impl.CmpMore} {
		if op != i+1 {
			t.Errorf("the test in place %d: %d", i, op)
		}
	}
	for i, op := range []int{impl.CalcAdd, impl.CalcSub, impl.CalcMul, impl.CalcDiv, impl.CalcRem} {
		if op != i+1 {
			t.Errorf("the calculation in place %d: %d", i, op)
		}
	}
}

func TestCmpTable(t *testing.T) {
	for i, row := range []struct {
		sign       string
		flip, swap int
	}{{"<", 5, 6}, {"<=", 6, 5}, {"=", 4, 3}, {"<>", 3, 4}, {">=", 1, 2}, {">", 2, 1}} {
		op := i + 1
		if impl.CmpText(op) != row.sign || impl.CmpFlip(op) != row.flip || impl.CmpSwap(op) != row.swap {
			t.Errorf("%d: %q %d %d", op, impl.CmpText(op), impl.CmpFlip(op), impl.CmpSwap(op))
		}
	}
	for _, op := range wrongOps() {
		if impl.CmpText(op) != "" || impl.CmpFlip(op) != 0 || impl.CmpSwap(op) != 0 {
			t.Errorf("%d: %q %d %d", op, impl.CmpText(op), impl.CmpFlip(op), impl.CmpSwap(op))
		}
	}
}

func TestNoSuchTest(t *testing.T) {
	for _, op := range wrongOps() {
		for _, pair := range [][2]int16{{0, 0}, {1, 1}, {1, 2}, {2, 1}, {-32768, 32767}} {
			if impl.WholeCmp(op, pair[0], pair[1]) {
				t.Errorf("%d of %v", op, pair)
			}
		}
		for _, a := range []float64{math.NaN(), math.Inf(-1), -1, negZero(), 0, 1, math.Inf(1)} {
			for _, b := range []float64{math.NaN(), math.Inf(-1), -1, negZero(), 0, 1, math.Inf(1)} {
				if impl.RealCmp(op, a, b) {
					t.Errorf("%d of %v, %v", op, a, b)
				}
			}
		}
	}
}

// P7 and P8, of whole numbers: each edge against every whole number.
func TestWholeTests(t *testing.T) {
	for _, a := range wholeEdges() {
		for n := -32768; n <= 32767; n++ {
			b := int16(n)
			side := sideOf(int(a), n)
			for i, sign := range cmpSigns() {
				op := i + 1
				holds := impl.WholeCmp(op, a, b)
				if holds != signHolds(sign, side) {
					t.Fatalf("%d %s %d: %v", a, sign, b, holds)
				}
				if impl.WholeCmp(impl.CmpFlip(op), a, b) == holds || impl.WholeCmp(impl.CmpSwap(op), b, a) != holds {
					t.Fatalf("%d %s %d: flip %v, swap %v", a, sign, b, impl.WholeCmp(impl.CmpFlip(op), a, b), impl.WholeCmp(impl.CmpSwap(op), b, a))
				}
			}
		}
	}
}

// checkRealTests holds the six tests of two numbers, neither of them nan, against their places.
func checkRealTests(t *testing.T, a, b float64, side int) {
	t.Helper()
	for i, sign := range cmpSigns() {
		op := i + 1
		holds := impl.RealCmp(op, a, b)
		if holds != signHolds(sign, side) {
			t.Errorf("%v %s %v: %v", a, sign, b, holds)
		}
		if impl.RealCmp(impl.CmpFlip(op), a, b) == holds {
			t.Errorf("%v %s %v: so is its flip", a, sign, b)
		}
		if impl.RealCmp(impl.CmpSwap(op), b, a) != holds {
			t.Errorf("%v %s %v: not so is its swap", a, sign, b)
		}
	}
}

// P7 and P8, of real numbers.
func TestRealTests(t *testing.T) {
	places := realsInOrder()
	for i, here := range places {
		for j, there := range places {
			for _, a := range here {
				for _, b := range there {
					checkRealTests(t, a, b, sideOf(i, j))
				}
			}
		}
	}
}

// P7 and P8, with a nan on either side or on both, whatever its bits are.
func TestRealTestsWithNan(t *testing.T) {
	nans := []float64{math.NaN(), -math.NaN(), math.Float64frombits(0x7ff0000000000001), math.Float64frombits(0xffffffffffffffff)}
	pairs := [][2]float64{}
	for _, nan := range nans {
		for _, other := range nans {
			pairs = append(pairs, [2]float64{nan, other})
		}
		for _, place := range realsInOrder() {
			for _, x := range place {
				pairs = append(pairs, [2]float64{nan, x}, [2]float64{x, nan})
			}
		}
	}
	for _, pair := range pairs {
		for op := 1; op <= 6; op++ {
			holds := impl.RealCmp(op, pair[0], pair[1])
			if holds != (op == 4) {
				t.Errorf("%d of %v: %v", op, pair, holds)
			}
			if impl.RealCmp(impl.CmpSwap(op), pair[1], pair[0]) != holds {
				t.Errorf("%d of %v: not so is its swap", op, pair)
			}
		}
	}
}

// counted is n counted round, by steps of a whole round.
func counted(n int) int16 {
	n %= 65536
	switch {
	case n > 32767:
		n -= 65536
	case n < -32768:
		n += 65536
	}
	return int16(n)
}

// reckoned asks for a calculation that there is.
func reckoned(t *testing.T, op int, a, b int16) int16 {
	v, ok := impl.WholeCalc(op, a, b)
	if !ok {
		t.Fatalf("%d of %d, %d: none", op, a, b)
	}
	return v
}

func TestWholeCalcRows(t *testing.T) {
	for _, row := range []struct {
		op      int
		a, b, v int16
	}{
		{1, 2, 3, 5}, {1, 32767, 1, -32768}, {1, -32768, -1, 32767}, {1, -32768, -32768, 0}, {1, 32767, 32767, -2},
		{2, 2, 3, -1}, {2, -32768, 1, 32767}, {2, 32767, -1, -32768}, {2, 0, -32768, -32768}, {2, -32768, -32768, 0},
		{3, 6, -7, -42}, {3, -32768, -1, -32768}, {3, -32768, -32768, 0}, {3, 300, 300, 24464}, {3, 256, 256, 0}, {3, 32767, 32767, 1}, {3, 181, 182, 32942 - 65536},
		{4, 7, 2, 3}, {4, -7, 2, -3}, {4, 7, -2, -3}, {4, -7, -2, 3}, {4, -32768, -1, -32768}, {4, -32768, 1, -32768}, {4, 1, -32768, 0}, {4, 32767, -32768, 0}, {4, 0, 5, 0},
		{5, 7, 3, 1}, {5, -7, 3, -1}, {5, 7, -3, 1}, {5, -7, -3, -1}, {5, -32768, -1, 0}, {5, -32768, 32767, -1}, {5, 32767, -32768, 32767}, {5, 6, 3, 0}, {5, 0, 5, 0},
	} {
		if v, ok := impl.WholeCalc(row.op, row.a, row.b); !ok || v != row.v {
			t.Errorf("%d of %d, %d: %d %v, not %d", row.op, row.a, row.b, v, ok, row.v)
		}
	}
}

// P9: each edge with every whole number, on either side.
func TestWholeNumbersCountRound(t *testing.T) {
	for _, edge := range wholeEdges() {
		for n := -32768; n <= 32767; n++ {
			checkCountRound(t, edge, int16(n))
			checkCountRound(t, int16(n), edge)
		}
	}
}

func checkCountRound(t *testing.T, a, b int16) {
	sum, less, times := reckoned(t, 1, a, b), reckoned(t, 2, a, b), reckoned(t, 3, a, b)
	if sum != counted(int(a)+int(b)) || less != counted(int(a)-int(b)) || times != counted(int(a)*int(b)) {
		t.Fatalf("%d, %d: %d %d %d", a, b, sum, less, times)
	}
	if reckoned(t, 2, sum, b) != a || reckoned(t, 1, less, b) != a {
		t.Fatalf("%d, %d: there and back", a, b)
	}
	if b == 0 {
		return
	}
	by, left := reckoned(t, 4, a, b), reckoned(t, 5, a, b)
	if reckoned(t, 1, reckoned(t, 3, by, b), left) != a {
		t.Fatalf("%d by %d is %d, and %d is left", a, b, by, left)
	}
	if abs(int(left)) >= abs(int(b)) || int(left)*int(a) < 0 || abs(int(a))/abs(int(b)) != abs(int(by)) {
		t.Fatalf("%d by %d is %d, and %d is left", a, b, by, left)
	}
}

func abs(n int) int {
	return max(n, -n)
}

// P9, with what there is none of.
func TestWholeCalcOfNone(t *testing.T) {
	for n := -32768; n <= 32767; n++ {
		for _, op := range []int{4, 5} {
			if v, ok := impl.WholeCalc(op, int16(n), 0); ok || v != 0 {
				t.Errorf("%d of %d, 0: %d %v", op, n, v, ok)
			}
		}
	}
	for _, op := range append(wrongOps(), 6) {
		for _, pair := range [][2]int16{{0, 0}, {1, 1}, {7, 2}, {5, 0}, {-32768, -1}} {
			if v, ok := impl.WholeCalc(op, pair[0], pair[1]); ok || v != 0 {
				t.Errorf("%d of %v: %d %v", op, pair, v, ok)
			}
		}
	}
}

// realOf reads the numbers that this file writes in decimals.
func realOf(t *testing.T, text string) float64 {
	t.Helper()
	x, err := strconv.ParseFloat(text, 64)
	if err != nil {
		t.Fatal(err)
	}
	return x
}

// What IEEE 754 gives of nan, the infinities, both 0 and two numbers, on either side.
func TestRealCalcOfSpecials(t *testing.T) {
	sides := strings.Fields("nan inf -inf 0 -0 2 -2")
	for op, rows := range map[int]string{
		1: `nan nan nan nan nan nan nan
		nan inf nan inf inf inf inf
		nan nan -inf -inf -inf -inf -inf
		nan inf -inf 0 0 2 -2
		nan inf -inf 0 -0 2 -2
		nan inf -inf 2 2 4 0
		nan inf -inf -2 -2 0 -4`,
		2: `nan nan nan nan nan nan nan
		nan nan inf inf inf inf inf
		nan -inf nan -inf -inf -inf -inf
		nan -inf inf 0 0 -2 2
		nan -inf inf -0 0 -2 2
		nan -inf inf 2 2 0 4
		nan -inf inf -2 -2 -4 0`,
		3: `nan nan nan nan nan nan nan
		nan inf -inf nan nan inf -inf
		nan -inf inf nan nan -inf inf
		nan nan nan 0 -0 0 -0
		nan nan nan -0 0 -0 0
		nan inf -inf 0 -0 4 -4
		nan -inf inf -0 0 -4 4`,
		4: `nan nan nan nan nan nan nan
		nan nan nan inf -inf inf -inf
		nan nan nan -inf inf -inf inf
		nan 0 -0 nan nan 0 -0
		nan -0 0 nan nan -0 0
		nan 0 -0 inf -inf 1 -1
		nan -0 0 -inf inf -1 1`,
		5: strings.Repeat("nan ", 49), 0: strings.Repeat("nan ", 49), 6: strings.Repeat("nan ", 49),
	} {
		want := strings.Fields(rows)
		for i, a := range sides {
			for j, b := range sides {
				if x := impl.RealCalc(op, realOf(t, a), realOf(t, b)); !sameReal(x, realOf(t, want[i*len(sides)+j])) {
					t.Errorf("%d of %s, %s: %v, not %s", op, a, b, x, want[i*len(sides)+j])
				}
			}
		}
	}
}

func TestRealCalcAtTheEdges(t *testing.T) {
	most, least := math.MaxFloat64, 5e-324
	for _, row := range []struct {
		op   int
		a, b float64
		text string
	}{
		{1, 0.1, 0.2, "1351079888211149*2^-52"}, {2, 0.3, 0.1, "7205759403792793*2^-55"}, {3, 0.1, 3, "1351079888211149*2^-52"}, {4, 1, 3, "6004799503160661*2^-54"}, {4, 1, 10, "3602879701896397*2^-55"},
		{1, most, most, "inf"}, {1, -most, -most, "-inf"}, {2, most, -most, "inf"}, {2, most, most, "0"}, {3, most, 2, "inf"}, {3, most, -2, "-inf"}, {4, most, 0.5, "inf"},
		{1, most, math.Ldexp(1, 969), "9007199254740991*2^971"}, {1, most, math.Ldexp(1, 970), "inf"},
		{1, least, least, "1*2^-1073"}, {2, least, least, "0"}, {4, least, 2, "0"}, {4, -least, 2, "-0"}, {3, 3 * least, 0.5, "1*2^-1073"}, {3, least, -least, "-0"}, {4, least, -most, "-0"}, {4, 1, least, "inf"},
		{1, 1 << 53, 1, "1*2^53"}, {1, 1<<53 + 2, 1, "2251799813685249*2^2"}, {1, 1, math.Ldexp(1, -53), "1*2^0"}, {1, 1, 3 * math.Ldexp(1, -54), "4503599627370497*2^-52"},
		{1, 1.5, -1.5, "0"}, {1, -1.5, 1.5, "0"}, {2, 1.5, 1.5, "0"}, {2, -1.5, -1.5, "0"}, {1, 32767, 1, "1*2^15"}, {4, 7, 2, "7*2^-1"}, {4, -7, 2, "-7*2^-1"},
	} {
		if text := impl.RealText(impl.RealCalc(row.op, row.a, row.b)); text != row.text {
			t.Errorf("%d of %v, %v: %s, not %s", row.op, row.a, row.b, text, row.text)
		}
	}
}

// exactly is what a and b make, as a fraction, cut at no end.
func exactly(op int, a, b float64) *big.Rat {
	x, y := new(big.Rat).SetFloat64(a), new(big.Rat).SetFloat64(b)
	switch op {
	case 1:
		return x.Add(x, y)
	case 2:
		return x.Sub(x, y)
	case 3:
		return x.Mul(x, y)
	}
	return x.Quo(x, y)
}

// What is reckoned is the nearest to what is exact; where that is 0, the tests above ask for its sign.
func TestRealCalcIsTheNearest(t *testing.T) {
	numbers := []float64{}
	for i, x := range manyReals() {
		if x-x == 0 && (i < 60 || i%397 == 0) {
			numbers = append(numbers, x)
		}
	}
	for _, a := range numbers {
		for _, b := range numbers {
			for op := 1; op <= 4; op++ {
				if op == 4 && b == 0 {
					continue
				}
				exact := exactly(op, a, b)
				want, _ := exact.Float64()
				if x := impl.RealCalc(op, a, b); exact.Sign() != 0 && !sameReal(x, want) || exact.Sign() == 0 && x != 0 {
					t.Fatalf("%d of %v, %v: %v, not %v", op, a, b, x, want)
				}
			}
		}
	}
}

func TestNoSuchRealCalc(t *testing.T) {
	for _, op := range append(wrongOps(), 5, 6) {
		for _, pair := range [][2]float64{{0, 0}, {1, 1}, {7, 2}, {5, 0}, {math.Inf(1), 1}} {
			if x := impl.RealCalc(op, pair[0], pair[1]); x == x {
				t.Errorf("%d of %v: %v", op, pair, x)
			}
		}
	}
}

// decimals are decimal operands that are ok: small ones, some of every size, the edges.
func decimals() []impl.DevArg {
	numbers := []int{0, 123456789, 99999999, 100000001, 999999989, 999999998, 999999999}
	for n := 1; n <= 1100; n++ {
		numbers = append(numbers, n)
	}
	for n := 1101; n < 999999999; n = n*5/4 + 1 {
		numbers = append(numbers, n)
	}
	all := []impl.DevArg{}
	for _, n := range numbers {
		for _, n := range []int{n, -n} {
			for p := 1; p <= 6; p++ {
				if a := operand(12, n, p); p == 1 || n%10 != 0 {
					all = append(all, a)
				}
			}
		}
	}
	return all
}

// millionths is what a decimal operand is, exactly, in parts of a million.
func millionths(a impl.DevArg) int {
	n := a.N
	for range 6 - a.P {
		n *= 10
	}
	return n
}

// RealArg is the nearest real number, by fractions that are exact.
func TestRealArgIsTheNearest(t *testing.T) {
	for _, a := range decimals() {
		want, _ := big.NewRat(int64(millionths(a)), 1000000).Float64()
		if x := impl.RealArg(a); !sameReal(x, want) {
			t.Errorf("%v: %v, not %v", a, x, want)
		}
	}
	for _, row := range []struct {
		n, p int
		text string
	}{
		{0, 1, "0"}, {1, 1, "3602879701896397*2^-55"}, {-1, 1, "-3602879701896397*2^-55"}, {3, 1, "5404319552844595*2^-54"}, {5, 1, "1*2^-1"}, {25, 1, "5*2^-1"}, {10, 1, "1*2^0"}, {-30, 1, "-3*2^0"},
		{1, 6, "4722366482869645*2^-72"}, {-1, 6, "-4722366482869645*2^-72"}, {15625, 6, "1*2^-6"},
	} {
		if text := impl.RealText(impl.RealArg(operand(12, row.n, row.p))); text != row.text {
			t.Errorf("%d, %d: %s, not %s", row.n, row.p, text, row.text)
		}
	}
}

// P11: the decimal numbers one by one in their order, and some far from each other.
func TestRealArgGoesWithTheOrder(t *testing.T) {
	all := decimals()
	sort.Slice(all, func(i, j int) bool { return millionths(all[i]) < millionths(all[j]) })
	for i := range all {
		for _, j := range []int{i + 1, i + 2, i + 101, len(all) - 1} {
			if j > i && j < len(all) && !(impl.RealArg(all[i]) <= impl.RealArg(all[j])) {
				t.Errorf("%v, %v: %v, %v", all[i], all[j], impl.RealArg(all[i]), impl.RealArg(all[j]))
			}
		}
	}
	// So near to each other no two others are.
	for n := 999999001; n < 999999999; n++ {
		for p := 1; p <= 6; p++ {
			a, b := operand(12, n, p), operand(12, n+1, p)
			if impl.DevOk(a) && impl.DevOk(b) && !(impl.RealArg(a) < impl.RealArg(b)) {
				t.Errorf("%v, %v: %v, %v", a, b, impl.RealArg(a), impl.RealArg(b))
			}
		}
	}
}

func TestRealArgOfWordsAndOthers(t *testing.T) {
	for n, want := range []float64{math.NaN(), math.Inf(1), math.Inf(-1), negZero()} {
		if x := impl.RealArg(operand(13, n, 0)); !sameReal(x, want) {
			t.Errorf("the word %d: %v, not %v", n, x, want)
		}
	}
	others := []impl.DevArg{
		{}, operand(13, -1, 0), operand(13, 4, 0), operand(13, 0, 1), operand(13, 3, 1), operand(13, 2, -1), operand(13, math.MaxInt, 0), operand(13, math.MinInt, 0),
		operand(12, 5, 0), operand(12, 5, 7), operand(12, 5, -1), operand(12, 10, 2), operand(12, -10, 2), operand(12, 0, 2), operand(12, 1000000000, 1), operand(12, -1000000000, 1),
		operand(12, math.MinInt, 1), operand(12, 5, math.MaxInt), operand(12, 5, math.MinInt), operand(14, 5, 1), operand(0, 5, 1), operand(-12, 5, 1), operand(math.MaxInt, 1, 0),
		operand(11, 5, 0), operand(11, -5, 0), operand(11, 5, 1), operand(11, 32768, 0),
	}
	for _, w := range devices() {
		others = append(others, w.a)
	}
	for _, a := range others {
		if x := impl.RealArg(a); !sameReal(x, 0) {
			t.Errorf("%v: %v", a, x)
		}
	}
}

func TestRealWholeRows(t *testing.T) {
	for _, row := range []struct {
		x    float64
		want int16
	}{
		{0, 0}, {negZero(), 0}, {0.1, 0}, {-0.1, 0}, {0.5, 0}, {-0.5, 0}, {math.Nextafter(1, 0), 0}, {math.Nextafter(-1, 0), 0}, {1, 1}, {-1, -1}, {1.5, 1}, {-1.5, -1}, {2.5, 2}, {-2.5, -2}, {-7.99, -7},
		{5e-324, 0}, {-5e-324, 0}, {2.2250738585072014e-308, 0}, {-2.2250738585072014e-308, 0},
		{32766.5, 32766}, {32767, 32767}, {32767.99, 32767}, {math.Nextafter(32768, 0), 32767}, {-32767.5, -32767}, {-32768, -32768}, {-32768.75, -32768}, {math.Nextafter(-32769, 0), -32768},
	} {
		if v, ok := impl.RealWhole(row.x); !ok || v != row.want {
			t.Errorf("%v: %d %v, not %d", row.x, v, ok, row.want)
		}
	}
	for _, x := range []float64{
		math.NaN(), math.Inf(1), math.Inf(-1), 32768, 32768.5, math.Nextafter(32768, 40000), 32769, -32769, math.Nextafter(-32769, -40000), -32769.5, 40000, 65535, 65536, 65537, -65536, 98304,
		1 << 31, -1 << 31, 1 << 32, 1<<32 + 1, 1 << 53, 1 << 62, 1 << 63, -1 << 63, 1 << 64, 1e19, -1e19, 1e300, -1e300, math.MaxFloat64, -math.MaxFloat64,
	} {
		if v, ok := impl.RealWhole(x); ok || v != 0 {
			t.Errorf("%v: %d %v", x, v, ok)
		}
	}
}

// P12: every whole number, and what lies between two.
func TestRealWholeGivesBack(t *testing.T) {
	for n := -32768; n <= 32767; n++ {
		if v, ok := impl.RealWhole(float64(n)); !ok || int(v) != n {
			t.Errorf("%d: %d %v", n, v, ok)
		}
	}
	numbers := manyReals()
	for n := -33000; n <= 33000; n++ {
		numbers = append(numbers, float64(n)+0.25, float64(n)+0.999, math.Nextafter(float64(n), -1e9), math.Nextafter(float64(n), 1e9))
	}
	for _, x := range numbers {
		cut := math.Trunc(x)
		v, ok := impl.RealWhole(x)
		if ok != (cut >= -32768 && cut <= 32767) || !ok && v != 0 {
			t.Errorf("%v: %d %v", x, v, ok)
		}
		if ok && (math.Abs(x-float64(v)) >= 1 || math.Abs(float64(v)) > math.Abs(x)) {
			t.Errorf("%v: %d", x, v)
		}
	}
}

// realWord is the text that the document gives a number, by its bits.
func realWord(x float64) string {
	switch {
	case x != x:
		return "nan"
	case math.Signbit(x):
		return "-" + realWord(-x)
	case x > math.MaxFloat64:
		return "inf"
	case x == 0:
		return "0"
	}
	word := math.Float64bits(x)
	n, e := word&(1<<52-1), int(word>>52)
	if e > 0 {
		n, e = n|1<<52, e-1
	}
	low := bits.TrailingZeros64(n)
	return strconv.FormatUint(n>>low, 10) + "*2^" + strconv.Itoa(e+low-1074)
}

// P10, from the number.
func TestRealTextIsExact(t *testing.T) {
	seen := map[string]uint64{}
	for _, x := range manyReals() {
		text := impl.RealText(x)
		if text != realWord(x) {
			t.Errorf("%v: %q, not %q", x, text, realWord(x))
		}
		if y, ok := impl.RealRead(text); !ok || !sameReal(x, y) {
			t.Errorf("%v: %q is read as %v %v", x, text, y, ok)
		}
		if was, there := seen[text]; there && !sameReal(math.Float64frombits(was), x) {
			t.Errorf("%q is the text of two: %v, %v", text, x, math.Float64frombits(was))
		}
		seen[text] = math.Float64bits(x)
	}
}

func TestRealTextRows(t *testing.T) {
	for _, row := range []struct {
		x    float64
		text string
	}{
		{math.NaN(), "nan"}, {-math.NaN(), "nan"}, {math.Float64frombits(0xfff0000000000001), "nan"}, {math.Inf(1), "inf"}, {math.Inf(-1), "-inf"}, {0, "0"}, {negZero(), "-0"},
		{1, "1*2^0"}, {-1, "-1*2^0"}, {2, "1*2^1"}, {2.5, "5*2^-1"}, {3, "3*2^0"}, {-6, "-3*2^1"}, {0.1, "3602879701896397*2^-55"}, {10, "5*2^1"}, {-32768, "-1*2^15"}, {32767, "32767*2^0"},
		{5e-324, "1*2^-1074"}, {-5e-324, "-1*2^-1074"}, {1e-323, "1*2^-1073"}, {1.5e-323, "3*2^-1074"}, {2.2250738585072014e-308, "1*2^-1022"}, {-2.2250738585072014e-308, "-1*2^-1022"},
		{2.2250738585072009e-308, "4503599627370495*2^-1074"}, {math.Ldexp(1, 1023), "1*2^1023"}, {math.MaxFloat64, "9007199254740991*2^971"}, {-math.MaxFloat64, "-9007199254740991*2^971"},
		{1<<53 - 1, "9007199254740991*2^0"}, {1 << 53, "1*2^53"}, {1<<53 + 2, "4503599627370497*2^1"}, {1<<51 + 0.5, "4503599627370497*2^-1"},
	} {
		if text := impl.RealText(row.x); text != row.text {
			t.Errorf("%v: %q, not %q", row.x, text, row.text)
		}
		if x, ok := impl.RealRead(row.text); !ok || !sameReal(x, row.x) {
			t.Errorf("%q: %v %v, not %v", row.text, x, ok, row.x)
		}
	}
}

func checkNoReal(t *testing.T, text string) {
	t.Helper()
	if x, ok := impl.RealRead(text); ok || !sameReal(x, 0) {
		t.Errorf("%q: read %v %v", text, x, ok)
	}
}

// P10, from the text: odd numbers of every width with every power about.
func TestRealReadAtTheBounds(t *testing.T) {
	for width := 1; width <= 63; width++ {
		for _, n := range []uint64{1<<width - 1, 1<<(width-1) | 1} {
			for e := -1200; e <= 1100; e++ {
				text := strconv.FormatUint(n, 10) + "*2^" + strconv.Itoa(e)
				if bits.Len64(n) > 53 || e < -1074 || bits.Len64(n)+e > 1024 {
					checkNoReal(t, text)
					checkNoReal(t, "-"+text)
					continue
				}
				want := math.Ldexp(float64(n), e)
				x, ok := impl.RealRead(text)
				y, and := impl.RealRead("-" + text)
				if !ok || !and || !sameReal(x, want) || !sameReal(y, -want) {
					t.Fatalf("%q: %v %v, %v %v", text, x, ok, y, and)
				}
			}
		}
	}
}

// P10, with wrong texts.
func TestWrongTextsOfReals(t *testing.T) {
	long := strings.Repeat("9", 100000)
	for _, text := range []string{
		"", "-", "+", "--", "*", "^", "*2^", "-*2^", "1*2^", "*2^1", "-*2^1", "1*2^-", "1*2^+", "1*2", "1*", "1", "-1", "3", "5.5", "2.5", "00", "-00", "+0", "--0", "0.0", "-0.0", "0.", "1e3", "0x1p3", "1p3",
		"+1*2^0", "--1*2^0", "-+1*2^0", "+-1*2^0", "2*2^0", "-2*2^0", "4*2^0", "10*2^3", "1*2^00", "1*2^-0", "1*2^+0", "1*2^+1", "1*2^01", "1*2^-01", "1*2^--1", "01*2^0", "-01*2^0", "001*2^0",
		"0*2^0", "-0*2^0", "0*2^1", "0*2^-1074", "1*2^-1075", "-1*2^-1075", "3*2^-1075", "1*2^-1076", "1*2^1024", "-1*2^1024", "3*2^1023", "9007199254740991*2^972", "9007199254740991*2^-1075",
		"9007199254740992*2^0", "9007199254740993*2^0", "9007199254740995*2^0", "-9007199254740993*2^-5", "18014398509481983*2^0", "18014398509481985*2^-60", "36028797018963971*2^-58", "72057594037927937*2^-3",
		"9223372036854775807*2^0", "9223372036854775809*2^0", "18446744073709551615*2^0", "18446744073709551617*2^0", "-9223372036854775809*2^0", "36893488147419103233*2^0",
		"1*2^65536", "1*2^-65536", "1*2^4611686018427387903", "1*2^-4611686018427387903", "1*2^4294967296", "1*2^4294967297", "1*2^18446744073709551616", "1*2^18446744073709551617", "1*2^-18446744073709551616", "1*2^9223372036854775807", "1*2^-9223372036854775808", "1*2^9223372036854775808",
		"-nan", "+nan", "NaN", "NAN", "Nan", "nan ", " nan", "nann", "na", "nan(1)", "Inf", "INF", "+inf", "--inf", "-Inf", "infinity", "-infinity", "in", "inf ", "inf*2^0", "nan*2^0", "1*2^inf",
		"1*2^1*2^1", "1*2^1*", "1*2^1 ", " 1*2^1", "1 *2^1", "1* 2^1", "1*2 ^1", "1*2^ 1", "1\n*2^1", "1*2^1\n", "1**2^1", "1*3^1", "1*2**1", "1x2^1", "1*10^1", "3*2^1.0", "3.0*2^1", "0x3*2^1", "3*2^0x1",
		"1_1*2^0", "11*2^1_0", "1,1*2^0", "1*2^1\x00", "\x00", "\x001*2^1", "-\x00", "0\x00",
		"\xff", "1*2^1\xff", "\xff1*2^1", "1\xff*2^1", "1*2^\xff1", "1*2\xff1", "nan\xff", "\xffnan", "0\xff", "-0\xff", "\xc3", "1*2^\xc3\x28", "\ufffd", "1*2^\ufffd", "\u0661*2^0", "1*2^\u0661", "\uff11*2^0", "\u22121*2^0", "1\u00d72^0", "1*2\u02c61",
		long, "-" + long, long + "*2^0", "1*2^" + long, "1*2^-" + long, strings.Repeat("0", 100000), strings.Repeat("0", 100000) + "1*2^0", "1*2^" + strings.Repeat("0", 100000), strings.Repeat("-", 70000), strings.Repeat("*2^", 70000),
		"1" + strings.Repeat("0", 400) + "1*2^-1074", "179769313486231580793728971405303415079934132710037826936173778980444968292764750946649017977587207096330286416692887910946555547851940402630657488671505820681908902000708383676273854845817711531764475730270069855571366959622842914819860834936475292719074168444365510704342711559699508093042880*2^0",
	} {
		checkNoReal(t, text)
	}
}

// isRealText says by the form of a text of few digits whether it is a number's.
func isRealText(form *regexp.Regexp, text string) bool {
	part := form.FindStringSubmatch(text)
	if part == nil || part[1] == "" {
		return part != nil
	}
	n, _ := strconv.ParseUint(part[1], 10, 64)
	e, _ := strconv.Atoi(part[3])
	return e >= -1074 && bits.Len64(n)+e <= 1024
}

// P10, from the text: each that is made of up to six pieces.
func TestRealReadOfShortTexts(t *testing.T) {
	form := regexp.MustCompile(`^(?:nan|-?inf|-?0|-?(([1-9][0-9]*)?[13579])\*2\^(0|-?[1-9][0-9]*))$`)
	texts := []string{""}
	for size := 0; size <= 6; size++ {
		longer := []string{}
		for _, text := range texts {
			x, ok := impl.RealRead(text)
			if ok != isRealText(form, text) || ok && realWord(x) != text || !ok && !sameReal(x, 0) {
				t.Errorf("%q: read %v %v", text, x, ok)
			}
			for _, piece := range []string{"-", "0", "1", "2", "7", "*2^", "inf"} {
				longer = append(longer, text+piece)
			}
		}
		texts = longer
	}
}

// P10, from the text: one byte of a number's text is another, one is put in, or one is left out.
func TestRealReadOfSpoiltTexts(t *testing.T) {
	for _, x := range []float64{math.NaN(), math.Inf(-1), 0, negZero(), 1, -2.5, 0.1, 5e-324, -2.2250738585072009e-308, math.MaxFloat64, 1 << 53} {
		text := impl.RealText(x)
		for i := range len(text) + 1 {
			for sign := range 256 {
				mid := string([]byte{byte(sign)})
				for _, spoilt := range []string{text[:i] + mid + text[i:], text[:i] + mid + text[min(i+1, len(text)):], text[:i] + text[min(i+1, len(text)):]} {
					y, ok := impl.RealRead(spoilt)
					if ok && (realWord(y) != spoilt || impl.RealText(y) != spoilt) || !ok && !sameReal(y, 0) {
						t.Errorf("%q: read %v %v, written as %q", spoilt, y, ok, impl.RealText(y))
					}
				}
			}
		}
	}
}
