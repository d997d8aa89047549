package tests

import (
	"bytes"
	endian "encoding/binary"
	"encoding/hex"
	"fmt"
	"math"
	"math/rand"
	"slices"
	"strings"
	"sync"
	"testing"

	"loop.example/stile/impl"
)

// picElemRows are the rows of chapter 4, made once, as they are asked for byte by byte.
var picElemRows = sync.OnceValue(elemRows)

// picSumOf is a second reading of PicSum: what is left of the bytes, as a polynomial over bits with 16 more behind it and its first 16 turned, by x^16 + x^12 + x^5 + 1.
func picSumOf(data []byte) uint16 {
	bits := make([]byte, 0, 8*len(data)+16)
	for _, b := range data {
		for place := 7; place >= 0; place-- {
			bits = append(bits, b>>place&1)
		}
	}
	bits = append(bits, make([]byte, 16)...)
	for i := range 16 {
		bits[i] ^= 1
	}
	for i := range len(data) * 8 {
		if bits[i] == 1 {
			for _, further := range []int{0, 4, 11, 16} {
				bits[i+further] ^= 1
			}
		}
	}
	sum := uint16(0)
	for _, bit := range bits[len(data)*8:] {
		sum = sum*2 + uint16(bit)
	}
	return sum
}

// picFieldOf is an operand as the digits of its bytes, and whether it fits.
func picFieldOf(a impl.DevArg) (string, bool) {
	within := func(n, least, most int) bool { return n >= least && n <= most }
	switch {
	case within(a.Kind, 1, 10) || a.Kind == 13:
		return fmt.Sprintf("%02x%02x", a.Kind, a.N), within(a.N, 0, 255) && a.P == 0
	case a.Kind == 11:
		return fmt.Sprintf("0b%04x", (a.N+65536)%65536), within(a.N, -32768, 32767) && a.P == 0
	case a.Kind == 12:
		return fmt.Sprintf("0c%08x%02x", (a.N+4294967296)%4294967296, a.P), within(a.N, -2147483648, 2147483647) && within(a.P, 0, 255)
	}
	return "", false
}

// picInstOf is an instruction as the digits of its bytes, and the code of what is wrong with it, by the rows of chapters 4 and 11.
func picInstOf(i impl.Inst) (string, int) {
	for _, sort := range listRows() {
		digits := fmt.Sprintf("%02x", i.Code)
		if sort.code == i.Code && sort.one == "" && i.One.Op == 0 && len(i.One.Args) == 0 {
			return digits, 0
		}
		for _, row := range picElemRows() {
			if sort.code != i.Code || sort.one != map[bool]string{true: "c", false: "o"}[row.op < 21] || row.op != i.One.Op || len(row.sorts[0]) != len(i.One.Args) {
				continue
			}
			digits += fmt.Sprintf("%02x", row.op)
			for _, a := range i.One.Args {
				field, fits := picFieldOf(a)
				if !fits {
					return "", 3
				}
				digits += field
			}
			return digits, 0
		}
	}
	return "", 2
}

// picSummed is bytes with their sum behind them.
func picSummed(data []byte) []byte {
	return endian.BigEndian.AppendUint16(slices.Clone(data), picSumOf(data))
}

// picSealed is bytes with this count and these digits of instructions, and with a head and a sum that are right.
func picSealed(count int, digits string) []byte {
	data, err := hex.DecodeString(fmt.Sprintf("5374%04x%04x%s", 8+len(digits)/2, count, digits))
	if err != nil {
		panic(digits)
	}
	return picSummed(data)
}

// picOf is a second reading of PicMake, by digits.
func picOf(list []impl.Inst) ([]byte, impl.PicFault) {
	if len(list) > 1000 {
		return nil, impl.PicFault{Code: 1}
	}
	var all strings.Builder
	for at, i := range list {
		digits, code := picInstOf(i)
		if code != 0 {
			return nil, impl.PicFault{Code: code, At: at}
		}
		all.WriteString(digits)
	}
	return picSealed(len(list), all.String()), impl.PicFault{}
}

// picTaken puts a byte into an instruction, and tells what is wanted next of it, or a code. What is wanted is a letter a byte: its Code, its Op, a Kind, the first byte of a number that has a sign, any other byte of a number (n), a P.
func picTaken(i *impl.Inst, letter byte, b int) (string, int) {
	last := max(len(i.One.Args)-1, 0)
	switch letter {
	case 'C':
		i.Code = b
		for _, row := range listRows() {
			if row.code == b {
				return map[string]string{"c": "O", "o": "O"}[row.one], 0
			}
		}
		return "", 2
	case 'O':
		i.One.Op = b
		for _, row := range picElemRows() {
			if row.op == b && (b > 20) == (i.Code == 10) {
				return strings.Repeat("K", len(row.sorts[0])), 0
			}
		}
		return "", 2
	case 'K':
		i.One.Args = append(i.One.Args, impl.DevArg{Kind: b})
		if b < 1 || b > 13 {
			return "", 3
		}
		return strings.Split("n n n n n n n n n n fn fnnnP n", " ")[b-1], 0
	case 'f':
		i.One.Args[last].N = int(int8(b))
	case 'n':
		i.One.Args[last].N = i.One.Args[last].N*256 + b
	case 'P':
		i.One.Args[last].P = b
	}
	return "", 0
}

// picReadOf is a second reading of PicRead, which keeps what is still wanted as letters.
func picReadOf(data []byte) ([]impl.Inst, impl.PicFault) {
	size := len(data)
	if size < 8 || size > 20008 || string(data[:2]) != "St" || int(endian.BigEndian.Uint16(data[2:])) != size {
		return nil, impl.PicFault{Code: 4}
	}
	if endian.BigEndian.Uint16(data[size-2:]) != picSumOf(data[:size-2]) {
		return nil, impl.PicFault{Code: 5}
	}
	count := int(endian.BigEndian.Uint16(data[4:]))
	if count > 1000 {
		return nil, impl.PicFault{Code: 1}
	}
	list, wanted := []impl.Inst{}, ""
	for _, b := range data[6 : size-2] {
		if wanted == "" && len(list) == count {
			return nil, impl.PicFault{Code: 7, At: count}
		}
		if wanted == "" {
			list, wanted = append(list, impl.Inst{}), "C"
		}
		next, code := picTaken(&list[len(list)-1], wanted[0], int(b))
		if code != 0 {
			return nil, impl.PicFault{Code: code, At: len(list) - 1}
		}
		wanted = next + wanted[1:]
	}
	switch {
	case wanted != "":
		return nil, impl.PicFault{Code: 6, At: len(list) - 1}
	case len(list) < count:
		return nil, impl.PicFault{Code: 6, At: len(list)}
	}
	return list, impl.PicFault{}
}

func picBrief(data []byte) string {
	return brief(hex.EncodeToString(data))
}

// checkPicRead holds what is read of bytes against the second reading, and asks for P57; it gives the code.
func checkPicRead(t *testing.T, data []byte) int {
	t.Helper()
	list, f := impl.PicRead(data)
	want, fault := picReadOf(data)
	if f != fault || !sameInsts(list, want) {
		t.Errorf("%s: %s and %v, not %s and %v", picBrief(data), machBrief(list), f, machBrief(want), fault)
		return f.Code
	}
	if f.Code == 0 {
		if again, g := impl.PicMake(list); g != (impl.PicFault{}) || !bytes.Equal(again, data) {
			t.Errorf("%s: read, but the image is %s, %v", picBrief(data), picBrief(again), g)
		}
	}
	return f.Code
}

// checkPicFault asks for a fault of bytes, and for no list beside it.
func checkPicFault(t *testing.T, data []byte, code, at int) {
	t.Helper()
	if list, f := impl.PicRead(data); f != (impl.PicFault{Code: code, At: at}) || len(list) != 0 {
		t.Errorf("%s: %v and %d instructions, not %d at %d", picBrief(data), f, len(list), code, at)
	}
}

// checkHex asks for P59 of bytes.
func checkHex(t *testing.T, data []byte) {
	t.Helper()
	text := impl.PicHex(data)
	if len(data) > 20008 {
		if text != "" {
			t.Errorf("%s: written as %s", picBrief(data), brief(text))
		}
		return
	}
	if want := hex.EncodeToString(data); text != want {
		t.Errorf("written as %s, not %s", brief(text), brief(want))
	}
	if read, ok := impl.PicBytes(text); !ok || !bytes.Equal(read, data) {
		t.Errorf("%s: read as %s, %v", brief(text), picBrief(read), ok)
	}
}

// checkPic holds the image of a list against the second reading, and asks for P56 and P59; it gives the code of what is wrong.
func checkPic(t *testing.T, list []impl.Inst) int {
	t.Helper()
	want, fault := picOf(list)
	data, f := impl.PicMake(list)
	if f != fault || !bytes.Equal(data, want) {
		t.Errorf("%s: %s and %v, not %s and %v", machBrief(list), picBrief(data), f, picBrief(want), fault)
		return f.Code
	}
	if f.Code != 0 {
		return f.Code
	}
	if sum := impl.PicSum(data); sum != 0 || len(data) > 20008 {
		t.Errorf("%s: %d bytes, and with its sum %d is left", picBrief(data), len(data), sum)
	}
	checkPicRead(t, data)
	if read, g := impl.PicRead(data); g != (impl.PicFault{}) || !sameInsts(read, list) {
		t.Errorf("%s: read as %s, %v, not %s", picBrief(data), machBrief(read), g, machBrief(list))
	}
	checkHex(t, data)
	return 0
}

// checkNoPic asks for a fault of a list, and for no image beside it.
func checkNoPic(t *testing.T, list []impl.Inst, code, at int) {
	t.Helper()
	if data, f := impl.PicMake(list); f != (impl.PicFault{Code: code, At: at}) || len(data) != 0 {
		t.Errorf("%s: %v and %s, not %d at %d", machBrief(list), f, picBrief(data), code, at)
	}
	checkPic(t, list)
}

func TestPicConstants(t *testing.T) {
	for i, code := range []int{impl.PicMany, impl.PicCode, impl.PicField, impl.PicShape, impl.PicBad, impl.PicCut, impl.PicRest} {
		if code != i+1 {
			t.Errorf("the code in place %d: %d", i, code)
		}
	}
	if impl.PicMaxBytes != 20008 {
		t.Error(impl.PicMaxBytes)
	}
}

func TestPicSumsWrittenOut(t *testing.T) {
	for text, want := range map[string]uint16{
		"": 0xffff, "\x00": 0xe1f0, "\x01": 0xf1d1, "\x80": 0x7078, "\xff": 0xff00, "A": 0xb915, "\x00\x00": 0x1d0f, "\xff\xff": 0, "\x01\x00": 0x2e3e, "St": 0x78f0, "123456789": 0x29b1,
		"St\x00\x08\x00\x00": 0x8d45, "St\x00\x09\x00\x01\x0b": 0xf1cb,
	} {
		if sum := impl.PicSum([]byte(text)); sum != want {
			t.Errorf("%q: %04x, not %04x", text, sum, want)
		}
	}
	if sum := impl.PicSum(nil); sum != 0xffff {
		t.Errorf("nothing: %04x", sum)
	}
}

func checkPicSum(t *testing.T, data []byte) {
	t.Helper()
	want := picSumOf(data)
	if sum := impl.PicSum(data); sum != want {
		t.Errorf("%s: %04x, not %04x", picBrief(data), sum, want)
	}
	if sum := impl.PicSum(picSummed(data)); sum != 0 {
		t.Errorf("%s: with its sum %04x", picBrief(data), sum)
	}
}

// PicSum has no bound: of each byte, of each two, and of bytes by chance, more than an image may have too.
func TestPicSumOfAnyBytes(t *testing.T) {
	for a := range 256 {
		checkPicSum(t, []byte{byte(a)})
		for b := range 256 {
			checkPicSum(t, []byte{byte(a), byte(b)})
		}
	}
	r := rand.New(rand.NewSource(17))
	for _, size := range []int{3, 4, 7, 8, 23, 255, 256, 257, 20006, 20008, 20009, 65535, 65536, 100000} {
		data := make([]byte, size)
		checkPicSum(t, data)
		for range 3 {
			r.Read(data)
			checkPicSum(t, data)
		}
		checkPicSum(t, bytes.Repeat([]byte{255}, size))
	}
}

// P56, by the document's example, byte by byte.
func TestPicExample(t *testing.T) {
	list := listSure("ld /X1;coil move:R0,-2.5;end")
	want := []byte{
		83, 116, // what each image begins with
		0, 23, // 23 bytes
		0, 3, // 3 instructions
		1, 2, 1, 1, // ld /X1
		10, 30, 10, 0, 12, 255, 255, 255, 231, 1, // coil move:R0,-2.5
		11,       // end
		30, 0xa6, // the sum
	}
	data, f := impl.PicMake(list)
	if f != (impl.PicFault{}) || len(data) != len(want) {
		t.Fatalf("%v, %d bytes", f, len(data))
	}
	for at, b := range want {
		if data[at] != b {
			t.Errorf("byte %d is %d, not %d", at, data[at], b)
		}
	}
	if read, f := impl.PicRead(want); f != (impl.PicFault{}) || !sameInsts(read, list) {
		t.Errorf("read as %s, %v", machBrief(read), f)
	}
	text := "537400170003010201010a1e0a000cffffffe7010b1ea6"
	if got := impl.PicHex(want); got != text {
		t.Errorf("written as %s", got)
	}
	if read, ok := impl.PicBytes(text); !ok || !bytes.Equal(read, want) {
		t.Errorf("read as %v, %v", read, ok)
	}
	checkPic(t, list)
}

// picWritten are the instructions of writtenInsts, in their order, as digits: each Code, each Op, each Kind but one.
func picWritten() []string {
	return []string{
		"0101011f", "0201011f", "0301011f", "04", "05", "06", "07", "08", "09",
		"0a150200", "0b", "0102033f", "0203011f0501", "030407010501",
		"010509010b0005", "02060b8000080f", "03070a020d00", "01080d030cfffffffb01",
		"020907010901", "030a0d020d01", "0a16033f", "0a17080f", "0a1802000501", "0a19040f",
		"0a1a07010b0032", "0a1b07010b0000", "0a1c07010b7fff", "0a1d080f0b0002",
		"0a1e09010bfff9", "0a1e0a020c0000000501", "0a1f09010701080f", "0a200a020a020d00",
		"0a21090109010901", "0a220a020cc4653601010c0000000106", "0a23090109010b0003", "0a240a020701", "0a2509010a02",
	}
}

// P56 and P57, by instructions that are written out here: alone, and all behind each other.
func TestPicsWrittenOut(t *testing.T) {
	all, list := "", []impl.Inst{}
	for at, w := range append(writtenInsts(), writtenInst{"ld G4", instSure(1, "G4")}) {
		digits := append(picWritten(), "01010604")[at]
		all, list = all+digits, append(list, w.inst)
		for _, pair := range []struct {
			list   []impl.Inst
			digits string
		}{{[]impl.Inst{w.inst}, digits}, {list, all}, {[]impl.Inst{w.inst, w.inst}, digits + digits}} {
			want := picSealed(len(pair.list), pair.digits)
			if data, f := impl.PicMake(pair.list); f != (impl.PicFault{}) || !bytes.Equal(data, want) {
				t.Errorf("%s: %s and %v, not %s", machBrief(pair.list), picBrief(data), f, picBrief(want))
			}
			if read, f := impl.PicRead(want); f != (impl.PicFault{}) || !sameInsts(read, pair.list) {
				t.Errorf("%s: read as %s, %v", picBrief(want), machBrief(read), f)
			}
			checkPic(t, pair.list)
		}
	}
}

// P56 of each instruction that is ok, and of many that are not: of these just those are refused whose codes or operands can't be written.
func TestPicOfEachInstruction(t *testing.T) {
	for _, i := range goodInsts() {
		if code := checkPic(t, []impl.Inst{i}); code != 0 {
			t.Errorf("%v: %d", i, code)
		}
	}
	told := map[int]int{}
	for _, i := range badInsts() {
		told[checkPic(t, []impl.Inst{i})]++
		checkPic(t, []impl.Inst{instSure(1, "X0"), i, instSure(11, "")})
	}
	if told[0] < 10 || told[2] < 100 || told[3] < 5 {
		t.Errorf("codes %v", told)
	}
}

// Each Code, known or not, with each Op, known or not, and with none to four operands.
func TestPicOfEachCodeAndOp(t *testing.T) {
	codes, ops := noCodes(), wrongElemOps()
	for n := range 45 {
		codes, ops = append(codes, n-2), append(ops, n-2)
	}
	told := map[int]int{}
	for _, code := range codes {
		for _, op := range ops {
			for count := range 5 {
				i := impl.Inst{Code: code, One: impl.Elem{Op: op, Args: slices.Repeat([]impl.DevArg{operand(4, 200, 0)}, count)}}
				told[checkPic(t, []impl.Inst{i})]++
				if count > 0 {
					i.One.Args[count-1].P = 1
					told[checkPic(t, []impl.Inst{i})]++
				}
			}
		}
	}
	// 10 Ops fit 3 Codes and 17 fit one, each also with a P that can't be; 7 Codes want nothing, which comes twice, as 0 is in both lists of Ops.
	if told[0] != 47+2*7 || told[3] != 47 || told[1] != 0 {
		t.Errorf("codes %v", told)
	}
}

// No operands are nothing, whichever empty list they are.
func TestPicOfNothingInOne(t *testing.T) {
	for _, row := range listRows() {
		for _, args := range [][]impl.DevArg{nil, {}, make([]impl.DevArg, 0, 3), []impl.DevArg{operand(1, 0, 0)}[:0]} {
			list := []impl.Inst{{Code: row.code, One: impl.Elem{Args: args}}}
			if row.one == "" {
				if data, f := impl.PicMake(list); f != (impl.PicFault{}) || len(data) != 9 || int(data[6]) != row.code {
					t.Errorf("%d: %v and %v", row.code, data, f)
				}
				checkPic(t, list)
			} else {
				checkNoPic(t, list, 2, 0)
			}
		}
	}
}

// picEdge is an operand as it is written; the empty text, if it can't be.
type picEdge struct {
	a      impl.DevArg
	digits string
}

// picByteEdges are operands of a kind with an N of one byte.
func picByteEdges(kind int) []picEdge {
	edges := []picEdge{}
	for _, n := range []int{0, 1, 3, 4, 5, 15, 16, 31, 32, 63, 64, 127, 128, 254, 255} {
		edges = append(edges, picEdge{operand(kind, n, 0), fmt.Sprintf("%02x%02x", kind, n)})
		for _, p := range []int{math.MinInt, -256, -1, 1, 6, 255, 256, 1 << 16, 1 << 32, math.MaxInt} {
			edges = append(edges, picEdge{operand(kind, n, p), ""})
		}
	}
	for _, n := range []int{math.MinInt, -1 << 32, -65536, -256, -255, -1, 256, 257, 511, 65535, 65536, 1 << 32, 1<<32 + 1, math.MaxInt} {
		edges = append(edges, picEdge{operand(kind, n, 0), ""}, picEdge{operand(kind, n, 1), ""})
	}
	return edges
}

// picIntEdges are whole numbers.
func picIntEdges() []picEdge {
	edges := []picEdge{}
	for n, digits := range map[int]string{
		-32768: "8000", -32767: "8001", -257: "feff", -256: "ff00", -255: "ff01", -129: "ff7f", -128: "ff80", -2: "fffe", -1: "ffff", 0: "0000", 1: "0001", 127: "007f", 128: "0080", 255: "00ff", 256: "0100", 257: "0101", 32766: "7ffe", 32767: "7fff",
	} {
		edges = append(edges, picEdge{operand(11, n, 0), "0b" + digits})
		for _, p := range []int{math.MinInt, -1, 1, 255, 256, 1 << 16, 1 << 32} {
			edges = append(edges, picEdge{operand(11, n, p), ""})
		}
	}
	for _, n := range []int{math.MinInt, -1 << 32, -65537, -65536, -65535, -32769, 32768, 32769, 65535, 65536, 65537, 1 << 32, 1<<32 + 1, math.MaxInt} {
		edges = append(edges, picEdge{operand(11, n, 0), ""})
	}
	return edges
}

// picDecEdges are decimal numbers.
func picDecEdges() []picEdge {
	edges := []picEdge{}
	for n, digits := range map[int]string{
		-2147483648: "80000000", -2147483647: "80000001", -999999999: "c4653601", -16777217: "feffffff", -16777216: "ff000000", -65537: "fffeffff", -65536: "ffff0000", -32769: "ffff7fff", -32768: "ffff8000", -256: "ffffff00", -25: "ffffffe7", -1: "ffffffff",
		0: "00000000", 1: "00000001", 255: "000000ff", 256: "00000100", 32767: "00007fff", 32768: "00008000", 65535: "0000ffff", 65536: "00010000", 16777216: "01000000", 16909060: "01020304", 999999999: "3b9ac9ff", 2147483646: "7ffffffe", 2147483647: "7fffffff",
	} {
		for _, p := range []int{0, 1, 6, 7, 127, 128, 254, 255} {
			edges = append(edges, picEdge{operand(12, n, p), fmt.Sprintf("0c%s%02x", digits, p)})
		}
		for _, p := range []int{math.MinInt, -256, -255, -1, 256, 257, 1 << 16, 1 << 32, math.MaxInt} {
			edges = append(edges, picEdge{operand(12, n, p), ""})
		}
	}
	for _, n := range []int{math.MinInt, -1 << 32, -1<<32 + 1, -2147483650, -2147483649, 2147483648, 2147483649, 1<<32 - 1, 1 << 32, 1<<32 + 1, math.MaxInt} {
		edges = append(edges, picEdge{operand(12, n, 1), ""}, picEdge{operand(12, n, 0), ""})
	}
	return edges
}

func picEdges() []picEdge {
	edges := append(picIntEdges(), picDecEdges()...)
	for _, kind := range []int{1, 2, 3, 4, 5, 6, 7, 8, 9, 10, 13} {
		edges = append(edges, picByteEdges(kind)...)
	}
	for _, kind := range []int{math.MinInt, -256, -13, -1, 0, 14, 15, 255, 256, 257, 256 + 11, 256 + 12, 1<<16 + 1, 1 << 32, 1<<32 + 1, 1<<32 + 11, math.MaxInt} {
		edges = append(edges, picEdge{operand(kind, 0, 0), ""}, picEdge{operand(kind, 1, 1), ""})
	}
	return edges
}

// P56 at the bounds of operands, ok or not, in each place of contacts and coils, whatever kind these ask for.
func TestPicOfEachEdge(t *testing.T) {
	for _, edge := range picEdges() {
		for _, row := range []struct{ code, op, count int }{{1, 1, 1}, {2, 4, 2}, {3, 5, 2}, {3, 10, 2}, {10, 21, 1}, {10, 29, 2}, {10, 30, 2}, {10, 34, 3}, {10, 37, 2}} {
			for place := range row.count {
				args := slices.Repeat([]impl.DevArg{operand(5, 8, 0)}, row.count)
				args[place] = edge.a
				list := []impl.Inst{{Code: 6}, {Code: row.code, One: impl.Elem{Op: row.op, Args: args}}, {Code: 11}}
				if edge.digits == "" {
					checkNoPic(t, list, 3, 1)
					continue
				}
				checkPic(t, list)
				digits := strings.Repeat("0508", place) + edge.digits + strings.Repeat("0508", row.count-1-place)
				want := picSealed(3, fmt.Sprintf("06%02x%02x%s0b", row.code, row.op, digits))
				if data, f := impl.PicMake(list); f != (impl.PicFault{}) || !bytes.Equal(data, want) {
					t.Errorf("%v: %s and %v, not %s", edge.a, picBrief(data), f, picBrief(want))
				}
			}
		}
	}
}

// Each number that a whole number may be, and each P of a decimal one, goes both ways.
func TestPicOfEachWholeNumber(t *testing.T) {
	list := []impl.Inst{}
	for n := -32768; n <= 32767; n++ {
		list = append(list, impl.Inst{Code: 10, One: impl.Elem{Op: 34, Args: []impl.DevArg{operand(11, n, 0), operand(12, n*65536-n, n&255), operand(12, n*7, 1)}}})
		if len(list) == 1000 || n == 32767 {
			checkPic(t, list)
			list = nil
		}
	}
}

// Of several things that are wrong at one instruction the first is told, and of several instructions the first.
func TestFirstPicFault(t *testing.T) {
	noField := []impl.DevArg{operand(1, 256, 0)}
	good, field := instSure(1, "X0"), impl.Inst{Code: 1, One: impl.Elem{Op: 1, Args: noField}}
	both := []impl.Inst{
		{Code: 0, One: impl.Elem{Op: 1, Args: noField}}, {Code: 12, One: impl.Elem{Op: 1, Args: noField}}, {Code: 1, One: impl.Elem{Op: 21, Args: noField}}, {Code: 10, One: impl.Elem{Op: 1, Args: noField}}, {Code: 2, One: impl.Elem{Op: 0, Args: noField}},
		{Code: 3, One: impl.Elem{Op: 11, Args: noField}}, {Code: 10, One: impl.Elem{Op: 38, Args: noField}}, {Code: 10, One: impl.Elem{Op: 20, Args: noField}}, {Code: 1, One: impl.Elem{Op: 3, Args: noField}}, {Code: 1, One: impl.Elem{Op: 1, Args: append(noField, noField...)}},
		{Code: 10, One: impl.Elem{Op: 31, Args: noField}}, {Code: 6, One: impl.Elem{Args: noField}}, {Code: 11, One: impl.Elem{Op: 1, Args: noField}}, {Code: 1, One: impl.Elem{Op: 1}}, {Code: 4, One: impl.Elem{Op: 1}}, {Code: 256 + 1, One: impl.Elem{Op: 1, Args: noField}},
	}
	for _, i := range both {
		checkNoPic(t, []impl.Inst{i}, 2, 0)
		checkNoPic(t, []impl.Inst{good, i}, 2, 1)
		checkNoPic(t, []impl.Inst{i, good}, 2, 0)
		checkNoPic(t, []impl.Inst{field, i}, 3, 0)
		checkNoPic(t, []impl.Inst{good, i, field}, 2, 1)
		checkNoPic(t, []impl.Inst{good, good, field, i, i, field}, 3, 2)
		checkNoPic(t, append(slices.Repeat([]impl.Inst{good}, 999), i), 2, 999)
		checkNoPic(t, append(slices.Repeat([]impl.Inst{good}, 1000), i), 1, 0)
		checkNoPic(t, append([]impl.Inst{i}, slices.Repeat([]impl.Inst{good}, 1000)...), 1, 0)
	}
	checkNoPic(t, append(slices.Repeat([]impl.Inst{good}, 999), field), 3, 999)
	checkNoPic(t, append(slices.Repeat([]impl.Inst{good}, 1000), field), 1, 0)
}

// P56 of the empty list, which is no fault.
func TestPicOfNothing(t *testing.T) {
	want := []byte{83, 116, 0, 8, 0, 0, 0x8d, 0x45}
	for _, list := range [][]impl.Inst{nil, {}, make([]impl.Inst, 0, 3), mixedInsts()[:0]} {
		if data, f := impl.PicMake(list); f != (impl.PicFault{}) || !bytes.Equal(data, want) {
			t.Errorf("%v and %v", data, f)
		}
		checkPic(t, list)
	}
	if list, f := impl.PicRead(want); len(list) != 0 || f != (impl.PicFault{}) {
		t.Errorf("%v and %v", list, f)
	}
}

// picLongest is as many instructions as there may be, with as many bytes as these may have.
func picLongest() []impl.Inst {
	most, least := operand(12, 2147483647, 255), operand(12, -2147483648, 6)
	return slices.Repeat([]impl.Inst{{Code: 10, One: impl.Elem{Op: 31, Args: []impl.DevArg{most, least, most}}}, {Code: 10, One: impl.Elem{Op: 35, Args: []impl.DevArg{least, most, least}}}}, 500)
}

// P56 at the bound of instructions.
func TestPicMaxList(t *testing.T) {
	r := rand.New(rand.NewSource(56))
	for _, count := range []int{1, 2, 255, 256, 257, 999, 1000} {
		if code := checkPic(t, anyInsts(r, count)); code != 0 {
			t.Errorf("%d instructions: %d", count, code)
		}
		data, _ := impl.PicMake(slices.Repeat([]impl.Inst{{Code: 6}}, count))
		if want := picSealed(count, strings.Repeat("06", count)); !bytes.Equal(data, want) {
			t.Errorf("%d instructions: %s", count, picBrief(data))
		}
	}
	for _, count := range []int{1001, 1002, 1256, 2000, 65536, 66536, 1000000} {
		checkNoPic(t, slices.Repeat([]impl.Inst{{Code: 6}}, count), 1, 0)
		checkNoPic(t, slices.Repeat([]impl.Inst{{}}, count), 1, 0)
	}
	if data, f := impl.PicMake(picLongest()); f != (impl.PicFault{}) || len(data) != 20008 {
		t.Errorf("the longest list: %v, %d bytes", f, len(data))
	}
	checkPic(t, picLongest())
	checkNoPic(t, append(picLongest(), picLongest()[0]), 1, 0)
}

// picAnyArg is an operand that fits, ok or not, by chance.
func picAnyArg(r *rand.Rand) impl.DevArg {
	switch kind := 1 + r.Intn(13); kind {
	case 11:
		return operand(11, r.Intn(65536)-32768, 0)
	case 12:
		return operand(12, int(int32(r.Uint32())), r.Intn(256))
	default:
		return operand(kind, r.Intn(256), 0)
	}
}

// picAnyInsts are instructions that fit, ok or not, by chance.
func picAnyInsts(r *rand.Rand, count int) []impl.Inst {
	list := []impl.Inst{}
	for range count {
		row := picElemRows()[r.Intn(27)]
		i := impl.Inst{Code: 1 + r.Intn(11)}
		if listRows()[i.Code-1].one != "" {
			i = impl.Inst{Code: 1 + r.Intn(3), One: impl.Elem{Op: row.op}}
			if row.op > 20 {
				i.Code = 10
			}
			for range row.sorts[0] {
				i.One.Args = append(i.One.Args, picAnyArg(r))
			}
		}
		list = append(list, i)
	}
	return list
}

// P56 of lists by chance that fit, and of these with one operand or code that may not.
func TestPicOfAnyLists(t *testing.T) {
	r, edges, told := rand.New(rand.NewSource(5617)), picEdges(), map[int]int{}
	for range 3000 {
		list := picAnyInsts(r, r.Intn(12))
		if code := checkPic(t, list); code != 0 {
			t.Errorf("%s: %d", machBrief(list), code)
		}
		if len(list) == 0 {
			continue
		}
		at := r.Intn(len(list))
		if args := list[at].One.Args; len(args) > 0 {
			args[r.Intn(len(args))] = edges[r.Intn(len(edges))].a
			told[checkPic(t, list)]++
		}
		list[r.Intn(len(list))].Code = r.Intn(14) - 1
		told[checkPic(t, list)]++
	}
	if told[0] < 200 || told[2] < 200 || told[3] < 200 {
		t.Errorf("codes %v", told)
	}
}

// P56 of the lists that ladders go down to.
func TestPicOfListsOfLadders(t *testing.T) {
	for _, rungs := range append(closeLadders(17, 100), exampleLadder()) {
		if code := checkPic(t, impl.WayPlain(rungs)); code != 0 {
			t.Errorf("%s: %d", brief(spelt(rungs)), code)
		}
	}
}

// PicShape: too few bytes, whatever they are.
func TestPicReadOfTooFewBytes(t *testing.T) {
	checkPicFault(t, nil, 4, 0)
	checkPicFault(t, []byte{}, 4, 0)
	for _, data := range [][]byte{picSealed(0, ""), picSealed(1, "0b"), make([]byte, 8), bytes.Repeat([]byte{255}, 8)} {
		for size := range 8 {
			checkPicFault(t, data[:size], 4, 0)
			checkPicFault(t, data[len(data)-size:], 4, 0)
		}
	}
	for size := 2; size < 8; size++ {
		data := append([]byte{83, 116, 0, byte(size), 0, 0}[:size-2], 0, 0)
		checkPicFault(t, data, 4, 0)
		checkPicFault(t, picSummed(data[:size-2]), 4, 0)
	}
	if code := checkPicRead(t, picSealed(0, "")); code != 0 {
		t.Errorf("the shortest image: %d", code)
	}
}

// PicShape: more bytes than there may be, also where all else is right; as many as there may be are looked at.
func TestPicReadOfTooManyBytes(t *testing.T) {
	longest, _ := picOf(picLongest())
	if read, f := impl.PicRead(longest); f != (impl.PicFault{}) || len(longest) != 20008 || !sameInsts(read, picLongest()) {
		t.Errorf("%d bytes: %v, %d instructions", len(longest), f, len(read))
	}
	for _, more := range []int{1, 2, 20, 255, 256, 10000, 45527} {
		for _, count := range []int{0, 1000, 1001, 30000} {
			checkPicFault(t, picSealed(count, strings.Repeat("06", 20000+more)), 4, 0)
		}
	}
	checkPicFault(t, picSealed(0, strings.Repeat("06", 20000)), 7, 0)
	checkPicFault(t, picSealed(1000, strings.Repeat("06", 20000)), 7, 1000)
	checkPicFault(t, picSealed(1001, strings.Repeat("06", 20000)), 1, 0)
	checkPicFault(t, picSealed(1000, strings.Repeat("00", 20000)), 2, 0)
	// As many bytes more as the two of the length count round.
	for _, size := range []int{8, 9, 23, 20008} {
		data := append(endian.BigEndian.AppendUint16([]byte{83, 116}, uint16(size)), make([]byte, 65536+size-6)...)
		checkPicFault(t, picSummed(data), 4, 0)
		checkPicFault(t, data, 4, 0)
	}
	checkPicFault(t, make([]byte, 1000000), 4, 0)
}

// picSome are images of a few lists.
func picSome() [][]byte {
	images := [][]byte{}
	for _, list := range [][]impl.Inst{nil, listSure("end"), listSure("ld /X1;coil move:R0,-2.5;end"), mixedInsts(), listSure("or -1<1;coil sub:R1,-0.5,99999999.9;inv")} {
		data, f := picOf(list)
		if f.Code != 0 {
			panic(machBrief(list))
		}
		images = append(images, data)
	}
	return images
}

// PicShape: the first two bytes or the length are other ones; with the sum that was, and with one that is right.
func TestPicReadOfWrongHeads(t *testing.T) {
	for _, data := range picSome() {
		for at := range 4 {
			for b := range 256 {
				other := slices.Clone(data)
				other[at] = byte(b)
				if other[at] == data[at] {
					continue
				}
				checkPicFault(t, other, 4, 0)
				checkPicFault(t, picSummed(other[:len(other)-2]), 4, 0)
			}
		}
		for _, head := range []string{"\x00\x00", "tS", "ts", "sT", "ST", "st", "Ss", "tt", "SS", "PK"} {
			checkPicFault(t, picSummed(append([]byte(head), data[2:len(data)-2]...)), 4, 0)
		}
		for _, length := range []int{0, 1, 7, 8, 9, len(data) - 8, len(data) - 2, len(data) - 1, len(data) + 1, len(data) + 2, len(data) + 8, len(data) << 8, 20008, 20009, 65535} {
			other := slices.Clone(data[:len(data)-2])
			endian.BigEndian.PutUint16(other[2:], uint16(length))
			if length != len(data) {
				checkPicFault(t, picSummed(other), 4, 0)
			}
		}
	}
}

// PicShape: bytes are lost or put in, at the beginning or at the end.
func TestPicReadOfOtherLengths(t *testing.T) {
	for _, data := range picSome() {
		for size := range len(data) {
			checkPicFault(t, data[:size], 4, 0)
			checkPicFault(t, data[len(data)-size:], 4, 0)
			if size != len(data)-2 {
				checkPicFault(t, picSummed(data[:size]), 4, 0)
			}
		}
		for _, more := range []string{"\x00", "\x0b", "\x00\x00", "\x8d\x45", "St", string(data)} {
			checkPicFault(t, append(slices.Clone(data), more...), 4, 0)
			checkPicFault(t, append([]byte(more), data...), 4, 0)
			checkPicFault(t, picSummed(append(slices.Clone(data), more...)), 4, 0)
		}
	}
}

// PicBad: of all sums that there are just the right one is read.
func TestPicReadOfEachSum(t *testing.T) {
	for _, data := range picSome()[:3] {
		right := endian.BigEndian.Uint16(data[len(data)-2:])
		for sum := range 65536 {
			other := endian.BigEndian.AppendUint16(slices.Clone(data[:len(data)-2]), uint16(sum))
			if uint16(sum) == right {
				if _, f := impl.PicRead(other); f != (impl.PicFault{}) {
					t.Errorf("%s: %v", picBrief(other), f)
				}
				continue
			}
			checkPicFault(t, other, 5, 0)
		}
	}
}

// P58, of every image of some lists, with each of its bytes put to each other value.
func TestPicOneByte(t *testing.T) {
	images := picSome()
	all := []impl.Inst{}
	for _, w := range writtenInsts() {
		all = append(all, w.inst)
	}
	data, _ := picOf(all)
	for _, data := range append(images, data) {
		if code := checkPicRead(t, data); code != 0 {
			t.Errorf("%s: %d", picBrief(data), code)
		}
		for at := range data {
			code := 5
			if at < 4 {
				code = 4
			}
			for other := 1; other < 256; other++ {
				data[at] ^= byte(other)
				checkPicFault(t, data, code, 0)
				data[at] ^= byte(other)
			}
		}
	}
}

// P58 of large images: at their beginning and end, and at some places between.
func TestPicOneByteOfLargeImages(t *testing.T) {
	r := rand.New(rand.NewSource(58))
	for _, list := range [][]impl.Inst{picLongest(), anyInsts(r, 1000), slices.Repeat([]impl.Inst{{Code: 6}}, 1000)} {
		data, _ := picOf(list)
		places := []int{0, 1, 2, 3, 4, 5, 6, 7, len(data) - 3, len(data) - 2, len(data) - 1}
		for range 200 {
			places = append(places, r.Intn(len(data)))
		}
		for _, at := range places {
			code := 5
			if at < 4 {
				code = 4
			}
			other := byte(1 + r.Intn(255))
			data[at] ^= other
			checkPicFault(t, data, code, 0)
			data[at] ^= other
		}
		if code := checkPicRead(t, data); code != 0 {
			t.Errorf("%d bytes: %d", len(data), code)
		}
	}
}

// PicMany: by the count alone, whatever stands behind it.
func TestPicReadOfTooManyInstructions(t *testing.T) {
	for _, count := range []int{1001, 1002, 1255, 1256, 32767, 32768, 65535} {
		for _, digits := range []string{"", "00", "0b", "01", "0115", "01010e", strings.Repeat("06", 1000), strings.Repeat("06", 1001), strings.Repeat("06", 1256), strings.Repeat("0b", 20000), strings.Repeat("00", 2000)} {
			checkPicFault(t, picSealed(count, digits), 1, 0)
		}
	}
	checkPicFault(t, picSealed(1000, strings.Repeat("06", 999)), 6, 999)
	checkPicFault(t, picSealed(1000, strings.Repeat("06", 1001)), 7, 1000)
	checkPicFault(t, picSealed(1000, strings.Repeat("06", 999)+"00"), 2, 999)
	if list, f := impl.PicRead(picSealed(1000, strings.Repeat("06", 1000))); f != (impl.PicFault{}) || len(list) != 1000 {
		t.Errorf("%v, %d instructions", f, len(list))
	}
	// The length and the sum are looked at ahead of the count, and the length ahead of the sum.
	many := picSealed(1001, "06")
	for at, code := range map[int]int{0: 4, 1: 4, 2: 4, 3: 4, 4: 5, 6: 5, 7: 5, 8: 5} {
		other := slices.Clone(many)
		other[at] ^= 64
		checkPicFault(t, other, code, 0)
		if code == 4 {
			other[len(other)-1] ^= 1
			checkPicFault(t, other, 4, 0)
		}
	}
}

// picReadRow is the digits of instructions, how many there are to be, and what is told of them.
type picReadRow struct {
	digits   string
	count    int
	code, at int
}

func picReadRows() []picReadRow {
	return []picReadRow{
		// A byte is wanted: a Code, an Op, a Kind, each byte of a number, a P.
		{"", 1, 6, 0}, {"", 1000, 6, 0}, {"0b", 2, 6, 1}, {"0405", 3, 6, 2}, {"01", 1, 6, 0}, {"02", 1, 6, 0}, {"03", 1, 6, 0}, {"0a", 1, 6, 0}, {"0b0a", 2, 6, 1}, {"0101", 1, 6, 0}, {"0a15", 1, 6, 0}, {"0b0101", 2, 6, 1}, {"0103", 1, 6, 0},
		{"010101", 1, 6, 0}, {"01010a", 1, 6, 0}, {"01010d", 1, 6, 0}, {"01010b", 1, 6, 0}, {"01010b80", 1, 6, 0}, {"01010c", 1, 6, 0}, {"01010c80", 1, 6, 0}, {"01010cffff", 1, 6, 0}, {"01010c000000", 1, 6, 0}, {"01010c00000001", 1, 6, 0},
		{"01030101", 1, 6, 0}, {"0103010105", 1, 6, 0}, {"0a1f090109010b00", 1, 6, 0}, {"0a1f09010901", 1, 6, 0}, {"0b0b0a1f0901", 3, 6, 2}, {"0101010001010100", 3, 6, 2},
		// Codes.
		{"00", 1, 2, 0}, {"0c", 1, 2, 0}, {"0d", 1, 2, 0}, {"80", 1, 2, 0}, {"ff", 1, 2, 0}, {"0b00", 2, 2, 1}, {"0b0c", 2, 2, 1}, {"060606ff", 4, 2, 3}, {"0000", 2, 2, 0}, {"0c010100", 1, 2, 0}, {"000b", 1, 2, 0},
		// Ops: none, and a coil's in the place of a contact's and the other way round.
		{"0100", 1, 2, 0}, {"010b", 1, 2, 0}, {"0114", 1, 2, 0}, {"0115", 1, 2, 0}, {"0215", 1, 2, 0}, {"0325", 1, 2, 0}, {"0126", 1, 2, 0}, {"01ff", 1, 2, 0}, {"0a00", 1, 2, 0}, {"0a01", 1, 2, 0}, {"0a0a", 1, 2, 0}, {"0a0b", 1, 2, 0}, {"0a14", 1, 2, 0},
		{"0a26", 1, 2, 0}, {"0aff", 1, 2, 0}, {"0b0a01", 2, 2, 1}, {"01150e", 1, 2, 0}, {"01150200", 1, 2, 0}, {"0a010100", 1, 2, 0}, {"0126010101", 1, 2, 0},
		// Kinds.
		{"010100", 1, 3, 0}, {"01010e", 1, 3, 0}, {"01010f", 1, 3, 0}, {"010180", 1, 3, 0}, {"0101ff", 1, 3, 0}, {"01030101ff", 1, 3, 0}, {"0a150e", 1, 3, 0}, {"0a1f090109010e", 1, 3, 0}, {"0a1f0901000a", 1, 3, 0}, {"0b0a1500", 2, 3, 1}, {"0101000000", 1, 3, 0}, {"01010e010b", 2, 3, 0},
		// What is wrong first is told, byte by byte.
		{"0100000b", 2, 2, 0}, {"01010e00", 2, 3, 0}, {"0101010000", 2, 2, 1}, {"01010e0b0b", 1, 3, 0}, {"000b0b", 1, 2, 0}, {"0101", 5, 6, 0}, {"01", 1000, 6, 0},
		// Bytes are left.
		{"00", 0, 7, 0}, {"0b", 0, 7, 0}, {"ff", 0, 7, 0}, {"0b0b", 1, 7, 1}, {"0b00", 1, 7, 1}, {"0b01", 1, 7, 1}, {"010101010b", 1, 7, 1}, {"0405060708", 4, 7, 4}, {"01010c0000000106ff", 1, 7, 1}, {"01010b000100", 1, 7, 1}, {"0b8d45", 1, 7, 1},
	}
}

// Each code behind the sum, written out.
func TestPicReadWrittenOut(t *testing.T) {
	for _, row := range picReadRows() {
		data := picSealed(row.count, row.digits)
		checkPicFault(t, data, row.code, row.at)
		checkPicRead(t, data)
		// The same behind other instructions that are right.
		ahead := "0b" + "01010604" + "0a1e0a000cffffffe701"
		checkPicFault(t, picSealed(min(row.count+3, 1000), ahead+row.digits), row.code, row.at+3)
	}
}

// PicCut: an image that is cut behind each of its bytes, with a sum that is right; and PicRest, with too small a count.
func TestPicReadOfCutImages(t *testing.T) {
	all, list := "", []impl.Inst{}
	for at, w := range writtenInsts() {
		digits := picWritten()[at]
		for cut := 0; cut < len(digits); cut += 2 {
			for _, count := range []int{at + 1, at + 2, len(writtenInsts()), 1000} {
				data := picSealed(count, all+digits[:cut])
				checkPicFault(t, data, 6, at)
				checkPicRead(t, data)
			}
		}
		all, list = all+digits, append(list, w.inst)
	}
	for count := range len(list) {
		checkPicFault(t, picSealed(count, all), 7, count)
		checkPicRead(t, picSealed(count, all))
	}
	if read, f := impl.PicRead(picSealed(len(list), all)); f != (impl.PicFault{}) || !sameInsts(read, list) {
		t.Errorf("%s, %v", machBrief(read), f)
	}
}

// P57: each Code with each Op, and each Kind, and what may follow.
func TestPicReadOfEachCodeAndOp(t *testing.T) {
	told := map[int]int{}
	for code := range 256 {
		for op := range 256 {
			for _, behind := range []string{"", "0100", "01000501", "0a010b80000d03", "0cffffffff06"} {
				told[checkPicRead(t, picSealed(1, fmt.Sprintf("%02x%02x%s", code, op, behind)))]++
			}
			if code > 0 && code < 12 {
				told[checkPicRead(t, picSealed(1, fmt.Sprintf("0101%02x%02x", code, op)))]++
			}
			told[checkPicRead(t, picSealed(2, fmt.Sprintf("0a1e0901%02x%02x0b", code, op)))]++
		}
	}
	for _, code := range []int{0, 2, 3, 6, 7} {
		if told[code] < 30 {
			t.Errorf("codes %v", told)
		}
	}
}

// P57 of each few bytes that are near to instructions.
func TestPicReadOfEachShortImage(t *testing.T) {
	told, bodies := map[int]int{}, []string{""}
	for size := 0; size <= 5; size++ {
		longer := []string{}
		for _, body := range bodies {
			for _, count := range []int{0, 1, 2} {
				told[checkPicRead(t, picSealed(count, body))]++
			}
			for _, digits := range strings.Split("00 01 03 0a 0b 0c 0d 0e 1e", " ") {
				longer = append(longer, body+digits)
			}
		}
		bodies = longer
	}
	for _, code := range []int{0, 2, 3, 6, 7} {
		if told[code] < 100 {
			t.Errorf("codes %v", told)
		}
	}
}

// P57 of images by chance, of which bytes are changed, lost or put in and the head and the sum made right again.
func TestPicReadOfAnyImages(t *testing.T) {
	r, told := rand.New(rand.NewSource(57)), map[int]int{}
	for range 20000 {
		list := picAnyInsts(r, r.Intn(8))
		data, _ := picOf(list)
		body := data[6 : len(data)-2]
		for range r.Intn(3) {
			at := r.Intn(len(body) + 1)
			switch r.Intn(3) {
			case 0:
				body = slices.Insert(slices.Clone(body), at, byte(r.Intn(16)))
			case 1:
				body = slices.Clone(body)[:at]
			case 2:
				body = slices.Clone(body)
				if at < len(body) {
					body[at] = byte(r.Intn(40))
				}
			}
		}
		told[checkPicRead(t, picSealed(max(len(list)+r.Intn(3)*r.Intn(2)-1, 0), hex.EncodeToString(body)))]++
		told[checkPicRead(t, picSealed(len(list), hex.EncodeToString(body)))]++
	}
	for _, code := range []int{0, 2, 3, 6, 7} {
		if told[code] < 300 {
			t.Errorf("codes %v", told)
		}
	}
}

// P57 of any bytes, with whatever sum they have.
func TestPicReadOfAnyBytes(t *testing.T) {
	r := rand.New(rand.NewSource(570))
	for range 20000 {
		data := make([]byte, r.Intn(30))
		r.Read(data)
		if len(data) > 3 && r.Intn(2) == 0 {
			copy(data, []byte{83, 116, 0, byte(len(data))})
		}
		checkPicRead(t, data)
	}
}

// P59, of bytes: each one, each two, as many as there may be, and more.
func TestPicHex(t *testing.T) {
	for a := range 256 {
		checkHex(t, []byte{byte(a)})
		if want := fmt.Sprintf("%02x", a); impl.PicHex([]byte{byte(a)}) != want {
			t.Errorf("%d: %q", a, impl.PicHex([]byte{byte(a)}))
		}
		for b := range 256 {
			checkHex(t, []byte{byte(a), byte(b)})
		}
	}
	r := rand.New(rand.NewSource(59))
	for _, size := range []int{0, 3, 7, 8, 255, 256, 257, 10004, 20007, 20008, 20009, 20010, 20264, 40016, 65544, 85544, 1000000} {
		data := make([]byte, size)
		checkHex(t, data)
		r.Read(data)
		checkHex(t, data)
		if text := impl.PicHex(data); len(text) != 2*size && size <= 20008 || text != "" && size > 20008 {
			t.Errorf("%d bytes: %s", size, brief(text))
		}
	}
	if text := impl.PicHex(nil); text != "" {
		t.Errorf("nothing: %q", text)
	}
}

// checkPicBytes holds what is read of a text against the library, which reads capital letters too, and asks for P59; it says whether it is read.
func checkPicBytes(t *testing.T, text string) bool {
	t.Helper()
	want, err := hex.DecodeString(text)
	good := err == nil && strings.ToLower(text) == text && len(text) <= 40016
	if !good {
		want = nil
	}
	data, ok := impl.PicBytes(text)
	if ok != good || !bytes.Equal(data, want) {
		t.Errorf("%s: %s and %v, not %s and %v", brief(text), picBrief(data), ok, picBrief(want), good)
	}
	if ok {
		if again := impl.PicHex(data); again != text {
			t.Errorf("%s: written as %s", brief(text), brief(again))
		}
	}
	return ok
}

func TestPicBytesWrittenOut(t *testing.T) {
	for text, want := range map[string]string{"": "", "00": "\x00", "ff": "\xff", "0123456789abcdef": "\x01\x23\x45\x67\x89\xab\xcd\xef", "5374": "St", "f00f": "\xf0\x0f"} {
		if data, ok := impl.PicBytes(text); !ok || string(data) != want {
			t.Errorf("%q: %q and %v", text, data, ok)
		}
		checkPicBytes(t, text)
	}
	for _, text := range []string{
		"0", "f", "000", "00000", "0F", "F0", "AB", "aB", "Ab", "fF", "g0", "0g", "0x", "0x00", "x0", "00 00", " 00 ", "00 ", " 00", "0 ", " 0", "  ", "0\n", "00\n", "00\r\n", "\x00\x00", "-1", "+1", "0.", "1e5", "1_", "0:", "0/", "0`", "0@", "0G", ":0", "/0", "`0", "@0",
		"\u00e4", "\u00e40", "\uff10\uff11", "\u0660", "\xff\xff", "0\xff", "\xb0\xb1", "00000g", "0g0000", "g00000", "000G", "zz", "??", "St", "00,0", "00-0",
	} {
		if data, ok := impl.PicBytes(text); ok || len(data) != 0 {
			t.Errorf("%q: %q and %v", text, data, ok)
		}
		checkPicBytes(t, text)
	}
}

// P59, from the text: each one byte, each two, and each one of a longer text put to each other.
func TestPicBytesOfEachTwo(t *testing.T) {
	read := 0
	for a := range 256 {
		checkPicBytes(t, string([]byte{byte(a)}))
		for b := range 256 {
			if checkPicBytes(t, string([]byte{byte(a), byte(b)})) {
				read++
			}
			text := []byte("00112233445566778899aabbccddeeff")
			text[b%len(text)] = byte(a)
			checkPicBytes(t, string(text))
			checkPicBytes(t, string(text[1:]))
		}
	}
	if read != 256 {
		t.Errorf("%d texts are read", read)
	}
}

// P59, from the text, at its bound; too long a text is not read, whatever stands in it.
func TestPicMaxBytes(t *testing.T) {
	for _, size := range []int{2, 40014, 40016} {
		for _, with := range []string{"0", "f", "9", "a"} {
			text := strings.Repeat(with, size)
			if !checkPicBytes(t, text) || checkPicBytes(t, text[1:]) {
				t.Errorf("%s: %d", with, size)
			}
			for _, at := range []int{0, 1, size / 2, size - 2, size - 1} {
				if checkPicBytes(t, text[:at]+"F"+text[at+1:]) || checkPicBytes(t, text[:at]+"g"+text[at+1:]) || checkPicBytes(t, text[:at]+" "+text[at+1:]) {
					t.Errorf("%s: %d, spoilt at %d", with, size, at)
				}
			}
		}
	}
	for _, size := range []int{40017, 40018, 40019, 40020, 40016 + 256, 65536, 40016 + 65536, 1000000, 1000001} {
		if data, ok := impl.PicBytes(strings.Repeat("0", size)); ok || len(data) != 0 {
			t.Errorf("%d: %d bytes, %v", size, len(data), ok)
		}
		checkPicBytes(t, strings.Repeat("g", size))
	}
}

// What is read is new memory: it shares none with the bytes, nor with what is read of them once more, and no two lists of it share any.
func TestPicReadIsNewMemory(t *testing.T) {
	list := []impl.Inst{}
	for _, w := range writtenInsts() {
		list = append(list, w.inst, w.inst)
	}
	data, _ := picOf(list)
	first, _ := impl.PicRead(data)
	second, _ := impl.PicRead(data)
	checkOwnMemory(t, first, second)
	kept := slices.Clone(data)
	third, _ := impl.PicRead(data)
	for at := range data {
		data[at] = 99
	}
	if !sameInsts(third, list) {
		t.Errorf("read as %s", machBrief(third))
	}
	if again, f := impl.PicRead(kept); f != (impl.PicFault{}) || !sameInsts(again, list) {
		t.Errorf("read again as %s, %v", machBrief(again), f)
	}
}

// scribbled writes over bytes, and behind their end as far as there is room.
func scribbled(data []byte) {
	room := data[:cap(data)]
	for at := range room {
		room[at] = 99
	}
}

// An image, and what is read of digits, is new memory, spare room included.
func TestPicMakeIsNewMemory(t *testing.T) {
	lists := [][]impl.Inst{nil, mixedInsts(), slices.Repeat(mixedInsts(), 3)}
	for _, list := range lists {
		want, _ := picOf(list)
		ahead := fmt.Sprint(list)
		first, _ := impl.PicMake(list)
		second, _ := impl.PicMake(list)
		scribbled(first)
		third, _ := impl.PicMake(list)
		if !bytes.Equal(second, want) || !bytes.Equal(third, want) || fmt.Sprint(list) != ahead {
			t.Errorf("%s: %s and %s, not %s", machBrief(list), picBrief(second), picBrief(third), picBrief(want))
		}
		text := hex.EncodeToString(want)
		one, _ := impl.PicBytes(text)
		two, _ := impl.PicBytes(text)
		scribbled(one)
		three, _ := impl.PicBytes(text)
		if !bytes.Equal(two, want) || !bytes.Equal(three, want) || text != hex.EncodeToString(want) {
			t.Errorf("%s: %s and %s", text, picBrief(two), picBrief(three))
		}
	}
}

// No bytes are written into, nor behind their end; what stands behind counts for nothing.
func TestPicWritesIntoNoBytes(t *testing.T) {
	images := append(picSome(), nil, []byte{83, 116, 0, 8, 0, 0}, picSealed(1, "00"), picSealed(1, "0101"), picSealed(1001, ""), picSealed(1, "0b0b"), make([]byte, 20008), make([]byte, 20009))
	for _, data := range images {
		for _, behind := range []byte{0, 11, 255} {
			room := roomy(data, behind)
			ahead := slices.Clone(room[:cap(room)])
			list, f := impl.PicRead(room)
			want, fault := picReadOf(data)
			if f != fault || !sameInsts(list, want) || impl.PicSum(room) != picSumOf(data) || impl.PicHex(room) != impl.PicHex(data) {
				t.Errorf("%s: with room behind %v, %s", picBrief(data), f, machBrief(list))
			}
			if !bytes.Equal(room[:cap(room)], ahead) {
				t.Errorf("%s: written into: %s", picBrief(ahead), picBrief(room[:cap(room)]))
			}
		}
	}
}

// No list is written into, nor behind the ends of the lists in it; what stands behind counts for nothing; nothing is kept from call to call.
func TestPicWritesIntoNoList(t *testing.T) {
	lists := append(changedInsts(mixedInsts()), nil, goodInsts(), slices.Repeat(mixedInsts(), 200), slices.Repeat(mixedInsts(), 201))
	for _, list := range lists {
		room := withRoomBehind(list)
		ahead := roomsBehind(room)
		want, fault := picOf(list)
		for range 2 {
			data, f := impl.PicMake(room)
			if f != fault || !bytes.Equal(data, want) {
				t.Errorf("%s: with room behind %s and %v, not %s and %v", machBrief(list), picBrief(data), f, picBrief(want), fault)
			}
			impl.PicMake(instsOf("end"))
			impl.PicRead(picSealed(1, "0105"))
			impl.PicRead([]byte("St"))
		}
		if roomsBehind(room) != ahead {
			t.Errorf("%s: written into: %s", machBrief(list), brief(roomsBehind(room)))
		}
	}
}

// Very large instructions and bytes are answered.
func TestPicOfVeryLargeArguments(t *testing.T) {
	many := slices.Repeat([]impl.DevArg{operand(1, 256, 0)}, 1000000)
	for _, row := range listRows() {
		for _, op := range []int{0, 1, 21, 31, math.MinInt, math.MaxInt} {
			i := impl.Inst{Code: row.code, One: impl.Elem{Op: op, Args: many}}
			if data, f := impl.PicMake([]impl.Inst{i}); f != (impl.PicFault{Code: 2}) || len(data) != 0 {
				t.Errorf("%d, %d: %v", row.code, op, f)
			}
		}
	}
	data := bytes.Repeat([]byte{83, 116}, 5000000)
	checkPicFault(t, data, 4, 0)
	if text := impl.PicHex(data); text != "" {
		t.Errorf("written as %s", brief(text))
	}
	if _, ok := impl.PicBytes(strings.Repeat("5374", 5000000)); ok {
		t.Error("ten million bytes are read")
	}
	impl.PicSum(data)
}
