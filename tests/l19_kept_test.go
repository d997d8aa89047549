package tests

import (
	"bytes"
	endian "encoding/binary"
	"fmt"
	"math"
	"math/rand"
	"slices"
	"strings"
	"sync"
	"testing"

	"loop.example/stile/impl"
)

// keptWords is what is kept of a memory, as the words of chapter 5.
func keptWords(m impl.Mem) string {
	words := []string{}
	for _, word := range memWords(m) {
		var letter rune
		place := 0
		fmt.Sscanf(word, "%c%d", &letter, &place)
		if strings.ContainsRune("STC", letter) || letter == 'M' && place > 31 || letter == 'D' && place > 15 {
			words = append(words, word)
		}
	}
	return strings.Join(words, " ")
}

// keptMem is a second reading of KeptOf: the memory of those words.
func keptMem(m impl.Mem) impl.Mem {
	kept, ok := memOf(keptWords(m))
	if !ok {
		panic(keptWords(m))
	}
	return kept
}

// keptByte is a second reading of one byte of KeptMake, by its place alone.
func keptByte(m impl.Mem, at int) byte {
	low := func(n int, place int) byte { return byte(n / []int{1, 256}[place] % 256) }
	switch {
	case at < 4:
		return keptOctet(bitsOf(m, 3)[32+8*at:])
	case at < 6:
		return keptOctet(bitsOf(m, 4)[8*(at-4):])
	case at < 54 && at%3 == 0:
		return byte(number(m.T[at/3-2].Done))
	case at < 54:
		return low(int(m.T[at/3-2].Count), at%3-1)
	case at < 102 && at%3 == 0:
		return byte(number(m.C[at/3-18].Done) + 2*number(m.C[at/3-18].Last))
	case at < 102:
		return low(int(m.C[at/3-18].Count), at%3-1)
	}
	return low((int(m.D[at/2-35])+65536)%65536, at%2)
}

// keptOctet is the first eight of some bits as a byte, the first of them its lowest.
func keptOctet(bits []bool) byte {
	b := 0
	for _, on := range slices.Backward(bits[:8]) {
		b = 2*b + number(on)
	}
	return byte(b)
}

func keptBytes(m impl.Mem) []byte {
	data := []byte{}
	for at := range 134 {
		data = append(data, keptByte(m, at))
	}
	return data
}

// keptForm is how the bytes lie, from which they are read by encoding/binary.
type keptForm struct {
	M uint32
	S uint16
	T [16]struct {
		First byte
		Count uint16
	}
	C [16]struct {
		First byte
		Count uint16
	}
	D [16]int16
}

// keptRead is a second reading of KeptBack.
func keptRead(data []byte) (impl.Mem, bool) {
	form := keptForm{}
	if n, err := endian.Decode(data, endian.LittleEndian, &form); err != nil || n < len(data) {
		return impl.Mem{}, false
	}
	m := impl.Mem{M: uint64(form.M) * 4294967296, S: form.S}
	for i, t := range form.T {
		if t.First > 1 {
			return impl.Mem{}, false
		}
		m.T[i] = impl.MemTimer{Done: t.First == 1, Count: t.Count}
	}
	for i, c := range form.C {
		if c.First > 3 {
			return impl.Mem{}, false
		}
		m.C[i] = impl.MemCounter{Done: c.First%2 == 1, Last: c.First > 1, Count: c.Count}
	}
	for i, v := range form.D {
		m.D[16+i] = v
	}
	return m, true
}

// keptText is a memory as its words, however far it is from what is kept.
func keptText(m impl.Mem) string { return strings.Join(memWords(m), " ") }

// checkKept holds KeptOf, KeptMake and KeptBack of it against the document: P63 and P64.
func checkKept(t *testing.T, m impl.Mem) {
	t.Helper()
	want := keptMem(m)
	kept := impl.KeptOf(m)
	if !sameMem(kept, want) {
		t.Errorf("%q: %q is kept, not %q", keptText(m), keptText(kept), keptText(want))
	}
	if again := impl.KeptOf(kept); !sameMem(again, want) {
		t.Errorf("%q: %q is kept of what is kept", keptText(m), keptText(again))
	}
	data := impl.KeptMake(m)
	if !bytes.Equal(data, keptBytes(m)) {
		t.Errorf("%q: written as %x, not %x", keptText(m), data, keptBytes(m))
	}
	if other := impl.KeptMake(kept); !bytes.Equal(other, data) {
		t.Errorf("%q: what is kept is written as %x, not %x", keptText(m), other, data)
	}
	if back, ok := impl.KeptBack(data); !ok || !sameMem(back, want) {
		t.Errorf("%q: read back as %q %v", keptText(m), keptText(back), ok)
	}
}

// checkKeptBack holds what is read of bytes against the document, and says whether they were read; what was, is written as it was (P63).
func checkKeptBack(t *testing.T, data []byte) bool {
	t.Helper()
	want, fine := keptRead(data)
	m, ok := impl.KeptBack(data)
	if ok != fine || !sameMem(m, want) {
		t.Errorf("%.400x: read as %q %v, not %q %v", data, keptText(m), ok, keptText(want), fine)
	}
	if again := impl.KeptMake(m); ok && !bytes.Equal(again, data) {
		t.Errorf("%x: written as %x", data, again)
	}
	if ok && !sameMem(impl.KeptOf(m), m) {
		t.Errorf("%x: %q is read, which is not kept", data, keptText(m))
	}
	return ok
}

func TestKeptConstants(t *testing.T) {
	if impl.KeptBytes != 134 {
		t.Error(impl.KeptBytes)
	}
}

// keptRow is a memory, what is kept of it, and those of its bytes that are not 0.
type keptRow struct {
	mem, kept string
	data      map[int]byte
}

func keptRows() []keptRow {
	return []keptRow{
		{"", "", nil},
		{"M32", "M32", map[int]byte{0: 1}}, {"M39", "M39", map[int]byte{0: 128}}, {"M40", "M40", map[int]byte{1: 1}}, {"M48", "M48", map[int]byte{2: 1}}, {"M56", "M56", map[int]byte{3: 1}}, {"M63", "M63", map[int]byte{3: 128}},
		{"M0", "", nil}, {"M31", "", nil}, {"M0 M31 M32 M63", "M32 M63", map[int]byte{0: 1, 3: 128}}, {"M33 M34 M62", "M33 M34 M62", map[int]byte{0: 6, 3: 64}},
		{"S0", "S0", map[int]byte{4: 1}}, {"S7", "S7", map[int]byte{4: 128}}, {"S8", "S8", map[int]byte{5: 1}}, {"S15", "S15", map[int]byte{5: 128}},
		{"S0 S1 S2 S3 S4 S5 S6 S7 S8 S9 S10 S11 S12 S13 S14 S15", "S0 S1 S2 S3 S4 S5 S6 S7 S8 S9 S10 S11 S12 S13 S14 S15", map[int]byte{4: 255, 5: 255}},
		{"T0=0!", "T0=0!", map[int]byte{6: 1}}, {"T0=1", "T0=1", map[int]byte{7: 1}}, {"T0=255", "T0=255", map[int]byte{7: 255}}, {"T0=256", "T0=256", map[int]byte{8: 1}}, {"T0=513!", "T0=513!", map[int]byte{6: 1, 7: 1, 8: 2}},
		{"T0=32767", "T0=32767", map[int]byte{7: 255, 8: 127}}, {"T0=32768!", "T0=32768!", map[int]byte{6: 1, 8: 128}}, {"T0=65535", "T0=65535", map[int]byte{7: 255, 8: 255}},
		{"T1=2!", "T1=2!", map[int]byte{9: 1, 10: 2}}, {"T15=0!", "T15=0!", map[int]byte{51: 1}}, {"T15=258!", "T15=258!", map[int]byte{51: 1, 52: 2, 53: 1}},
		{"C0=0!", "C0=0!", map[int]byte{54: 1}}, {"C0=0+", "C0=0+", map[int]byte{54: 2}}, {"C0=0!+", "C0=0!+", map[int]byte{54: 3}}, {"C0=1", "C0=1", map[int]byte{55: 1}}, {"C0=255!", "C0=255!", map[int]byte{54: 1, 55: 255}}, {"C0=256+", "C0=256+", map[int]byte{54: 2, 56: 1}},
		{"C0=32767!+", "C0=32767!+", map[int]byte{54: 3, 55: 255, 56: 127}}, {"C0=65535", "C0=65535", map[int]byte{55: 255, 56: 255}}, {"C1=1+", "C1=1+", map[int]byte{57: 2, 58: 1}}, {"C15=0+", "C15=0+", map[int]byte{99: 2}}, {"C15=770!+", "C15=770!+", map[int]byte{99: 3, 100: 2, 101: 3}},
		{"D0=1", "", nil}, {"D15=-1", "", nil}, {"D15=5 D16=6", "D16=6", map[int]byte{102: 6}}, {"D16=1", "D16=1", map[int]byte{102: 1}}, {"D16=255", "D16=255", map[int]byte{102: 255}}, {"D16=256", "D16=256", map[int]byte{103: 1}},
		{"D16=32767", "D16=32767", map[int]byte{102: 255, 103: 127}}, {"D16=-1", "D16=-1", map[int]byte{102: 255, 103: 255}}, {"D16=-2", "D16=-2", map[int]byte{102: 254, 103: 255}}, {"D16=-32768", "D16=-32768", map[int]byte{103: 128}}, {"D16=-256", "D16=-256", map[int]byte{103: 255}},
		{"D16=-255", "D16=-255", map[int]byte{102: 1, 103: 255}}, {"D17=-32767", "D17=-32767", map[int]byte{104: 1, 105: 128}}, {"D31=1", "D31=1", map[int]byte{132: 1}}, {"D31=-32768", "D31=-32768", map[int]byte{133: 128}}, {"D31=-3", "D31=-3", map[int]byte{132: 253, 133: 255}},
		{"X0 X31 Y0 Y31 E0 E31", "", nil}, {"R0=nan R1=-0 R2=inf R15=-5*2^0", "", nil}, {"time=4294967295", "", nil}, {"ran", "", nil}, {"fault", "", nil}, {"time=1 ran fault", "", nil},
		{
			"X1 Y2 M3 M35 S4 E5 T6=7! C8=9!+ D10=11 D26=-12 R13=-3*2^1 time=14 ran fault", "M35 S4 T6=7! C8=9!+ D26=-12",
			map[int]byte{0: 8, 4: 16, 24: 1, 25: 7, 78: 3, 79: 9, 122: 244, 123: 255},
		},
	}
}

// P63 and P64, written out.
func TestKeptsWrittenOut(t *testing.T) {
	for _, row := range keptRows() {
		m := memRead(t, row.mem)
		want := make([]byte, 134)
		for at, b := range row.data {
			want[at] = b
		}
		if data := impl.KeptMake(m); !bytes.Equal(data, want) {
			t.Errorf("%q: written as %x, not %x", row.mem, data, want)
		}
		if kept := impl.MemText(impl.KeptOf(m)); kept != row.kept {
			t.Errorf("%q: %q is kept, not %q", row.mem, kept, row.kept)
		}
		if back, ok := impl.KeptBack(want); !ok || impl.MemText(back) != row.kept {
			t.Errorf("%q: read back as %q %v", row.mem, impl.MemText(back), ok)
		}
		checkKept(t, m)
	}
}

// P63 and P64 of memories with one thing in them, with all but one, with all, nothing and anything.
func TestKeptOfManyMems(t *testing.T) {
	for _, m := range slices.Concat(singleMems(), alikeMems(), someMems(), anyMems(3000)) {
		checkKept(t, m)
	}
}

// P64: each device that is kept is as it was, and no other one is on, as they are asked by chapter 5.
func TestKeptDevices(t *testing.T) {
	asked := 0
	for _, m := range slices.Concat(singleMems(), someMems(), anyMems(200)) {
		kept := impl.KeptOf(m)
		for _, w := range devices() {
			a, from := w.a, m
			if a.Kind == 6 {
				continue
			}
			if !(a.Kind == 3 && a.N >= 32 || a.Kind == 4 || a.Kind == 7 || a.Kind == 8 || a.Kind == 9 && a.N >= 16) {
				from = impl.Mem{}
			}
			asked++
			if impl.MemBit(kept, a) != impl.MemBit(from, a) || impl.MemWhole(kept, a) != impl.MemWhole(from, a) || !sameReal(impl.MemReal(kept, a), impl.MemReal(from, a)) {
				t.Errorf("%s of %q: %q is kept", w.text, keptText(m), keptText(kept))
			}
		}
		for at := range 16 {
			if kept.T[at] != m.T[at] || kept.C[at] != m.C[at] {
				t.Errorf("%q: timer and counter %d are %v and %v", keptText(m), at, kept.T[at], kept.C[at])
			}
		}
		if kept.Time != 0 || kept.Ran || kept.Fault {
			t.Errorf("%q: %q is kept", keptText(m), keptText(kept))
		}
	}
	if asked < 100000 {
		t.Error(asked)
	}
}

// The place of each of the bytes: each bit of what is kept is one bit of one byte, and changes no other one.
func TestKeptPlaces(t *testing.T) {
	for _, m := range append(anyMems(10), impl.Mem{}, fullMem()) {
		ahead := impl.KeptMake(m)
		checkOneByte := func(name string, other impl.Mem, at int, bits byte) {
			t.Helper()
			want := slices.Clone(ahead)
			want[at] ^= bits
			if data := impl.KeptMake(other); !bytes.Equal(data, want) {
				t.Errorf("%s of %q: %x, not %x", name, keptText(other), data, want)
			}
			if back, ok := impl.KeptBack(want); !ok || !sameMem(back, keptMem(other)) {
				t.Errorf("%s of %q: read back as %q %v", name, keptText(other), keptText(back), ok)
			}
		}
		for bit := range 32 {
			checkOneByte("a mark", withBit(m, 3, 32+bit, !bitsOf(m, 3)[32+bit]), bit/8, 1<<(bit%8))
		}
		for bit := range 16 {
			checkOneByte("a step", withBit(m, 4, bit, !bitsOf(m, 4)[bit]), 4+bit/8, 1<<(bit%8))
			for i := range 16 {
				other := m
				other.T[i].Count ^= 1 << bit
				checkOneByte("a timer's count", other, 7+3*i+bit/8, 1<<(bit%8))
				other = m
				other.C[i].Count ^= 1 << bit
				checkOneByte("a counter's count", other, 55+3*i+bit/8, 1<<(bit%8))
				other = m
				other.D[16+i] ^= int16(uint16(1) << bit)
				checkOneByte("a register", other, 102+2*i+bit/8, 1<<(bit%8))
			}
		}
		for i := range 16 {
			other := m
			other.T[i].Done = !m.T[i].Done
			checkOneByte("a timer", other, 6+3*i, 1)
			other = m
			other.C[i].Done = !m.C[i].Done
			checkOneByte("a counter that is done", other, 54+3*i, 1)
			other = m
			other.C[i].Last = !m.C[i].Last
			checkOneByte("a counter's last", other, 54+3*i, 2)
		}
	}
}

// Each number of two bytes at each of its values, in the first and in the last place.
func TestKeptNumbersOfEachValue(t *testing.T) {
	for n := range 65536 {
		m := impl.Mem{S: uint16(n)}
		m.T[0].Count, m.T[15].Count, m.C[0].Count, m.C[15].Count = uint16(n), uint16(n)^255, uint16(n)^65280, ^uint16(n)
		m.D[16], m.D[31] = int16(n-32768), int16(32767-n)
		data := impl.KeptMake(m)
		low, high := byte(n%256), byte(n/256)
		want := []byte{low, high, low, high, ^low, high, low, ^high, ^low, ^high, low, high ^ 128, ^low, ^high ^ 128}
		got := []byte{data[4], data[5], data[7], data[8], data[52], data[53], data[55], data[56], data[100], data[101], data[102], data[103], data[132], data[133]}
		if !bytes.Equal(got, want) {
			t.Errorf("%d: %v, not %v", n, got, want)
		}
		if back, ok := impl.KeptBack(data); !ok || !sameMem(back, m) {
			t.Errorf("%d: read back as %q %v", n, keptText(back), ok)
		}
	}
}

// keptEnds are bytes of memories that are ordinary and at their ends.
func keptEnds() [][]byte {
	all := [][]byte{keptBytes(impl.Mem{}), keptBytes(fullMem())}
	for _, m := range anyMems(4) {
		all = append(all, keptBytes(m))
	}
	return all
}

// P63 of each byte in each place: a timer's first byte of more than 1 and a counter's of more than 3 leave nothing and false, all others are read.
func TestKeptBackOfEachByte(t *testing.T) {
	for _, ends := range keptEnds() {
		for at := range ends {
			read := 0
			for b := range 256 {
				data := slices.Clone(ends)
				data[at] = byte(b)
				read += number(checkKeptBack(t, data))
			}
			want := 256
			if at >= 6 && at < 102 && at%3 == 0 {
				want = map[bool]int{true: 2, false: 4}[at < 54]
			}
			if read != want {
				t.Errorf("place %d: %d bytes are read, not %d", at, read, want)
			}
		}
	}
}

// P63 of two bytes that are changed together: one that is wrong makes all of them wrong.
func TestKeptBackOfTwoBytes(t *testing.T) {
	counts := map[bool]int{}
	for first := range 134 {
		for second := range first {
			for _, pair := range [][2]byte{{1, 1}, {1, 2}, {2, 1}, {3, 3}, {3, 4}, {4, 3}, {255, 1}, {1, 255}, {255, 255}, {128, 127}} {
				data := make([]byte, 134)
				data[first], data[second] = pair[0], pair[1]
				counts[checkKeptBack(t, data)]++
			}
		}
	}
	if counts[true] < 60000 || counts[false] < 20000 {
		t.Error(counts)
	}
}

// Wrong first bytes, written out: of the first, a middle and the last timer and counter.
func TestKeptBackOfWrongFirstBytes(t *testing.T) {
	for _, c := range []struct {
		at   int
		b    byte
		fine bool
	}{
		{6, 1, true}, {6, 2, false}, {6, 3, false}, {6, 128, false}, {6, 255, false}, {27, 1, true}, {27, 2, false}, {27, 4, false}, {27, 255, false}, {51, 0, true}, {51, 1, true}, {51, 2, false}, {51, 3, false}, {51, 254, false}, {51, 255, false},
		{54, 1, true}, {54, 2, true}, {54, 3, true}, {54, 4, false}, {54, 5, false}, {54, 7, false}, {54, 255, false}, {75, 3, true}, {75, 4, false}, {75, 8, false}, {75, 255, false}, {99, 0, true}, {99, 3, true}, {99, 4, false}, {99, 6, false}, {99, 252, false}, {99, 255, false},
		{0, 255, true}, {3, 255, true}, {4, 255, true}, {5, 255, true}, {7, 255, true}, {8, 255, true}, {52, 255, true}, {53, 255, true}, {55, 255, true}, {101, 255, true}, {102, 255, true}, {133, 255, true},
	} {
		for _, data := range keptEnds() {
			data[c.at] = c.b
			if m, ok := impl.KeptBack(data); ok != c.fine || !ok && !sameMem(m, impl.Mem{}) {
				t.Errorf("%d in place %d of %x: %q %v", c.b, c.at, data, keptText(m), ok)
			}
		}
	}
}

// Bytes that are too few or too many, whatever stands in them, are nothing and false.
func TestKeptBackOfOtherLengths(t *testing.T) {
	if m, ok := impl.KeptBack(nil); ok || !sameMem(m, impl.Mem{}) {
		t.Error(keptText(m), ok)
	}
	for _, ends := range keptEnds() {
		long := slices.Repeat(ends, 6)
		for length := range len(long) + 1 {
			for _, data := range [][]byte{long[:length], long[len(long)-length:], make([]byte, length)} {
				if m, ok := impl.KeptBack(data); ok != (length == 134) || !ok && !sameMem(m, impl.Mem{}) {
					t.Errorf("%d bytes: %q %v", length, keptText(m), ok)
				}
			}
		}
		if m, ok := impl.KeptBack(append(slices.Clone(ends), 0)); ok || !sameMem(m, impl.Mem{}) {
			t.Errorf("one more: %q", keptText(m))
		}
		for at := range ends {
			checkKeptBack(t, slices.Delete(slices.Clone(ends), at, at+1))
			checkKeptBack(t, slices.Insert(slices.Clone(ends), at, 0))
		}
	}
	for _, length := range []int{1 << 16, 1<<16 + 134, 1<<24 + 134} {
		if m, ok := impl.KeptBack(make([]byte, length)); ok || !sameMem(m, impl.Mem{}) {
			t.Errorf("%d bytes: %q", length, keptText(m))
		}
	}
}

// P63 of any bytes, of which most have first bytes that are near the bounds.
func TestKeptBackOfAnyBytes(t *testing.T) {
	dice := rand.New(rand.NewSource(191))
	counts := map[bool]int{}
	for round := range 60000 {
		data := make([]byte, 134)
		dice.Read(data)
		wrong := dice.Intn(134)
		for at := 6; at < 102 && round%10 > 0; at += 3 {
			data[at] = byte(dice.Intn(map[bool]int{true: 2, false: 4}[at < 54]))
			if at == wrong {
				data[at] = byte(dice.Intn(8))
			}
		}
		counts[checkKeptBack(t, data)]++
	}
	if counts[true] < 30000 || counts[false] < 6000 {
		t.Error(counts)
	}
}

// keptOthers is m with anything else in all that is not kept.
func keptOthers(m, other impl.Mem) impl.Mem {
	for place := range 32 {
		other = withBit(other, 3, 32+place, bitsOf(m, 3)[32+place])
	}
	other.S, other.T, other.C = m.S, m.T, m.C
	for i := 16; i < 32; i++ {
		other.D[i] = m.D[i]
	}
	return other
}

// P64: what is not kept counts for nothing, one by one and all together.
func TestKeptLooksAtNothingElse(t *testing.T) {
	mems := append(anyMems(30), impl.Mem{}, fullMem())
	for _, m := range mems {
		want, data := keptMem(m), keptBytes(m)
		others := slices.Clone(mems)
		for _, single := range singleMems() {
			if keptWords(single) == "" {
				others = append(others, single)
			}
		}
		for _, other := range others {
			with := keptOthers(m, other)
			if kept := impl.KeptOf(with); !sameMem(kept, want) {
				t.Errorf("%q: %q is kept, not %q", keptText(with), keptText(kept), keptText(want))
			}
			if is := impl.KeptMake(with); !bytes.Equal(is, data) {
				t.Errorf("%q: written as %x, not %x", keptText(with), is, data)
			}
		}
	}
}

// P64: of two memories in which all that is kept is the same, and of no others, the same is written.
func TestKeptOfEachTwo(t *testing.T) {
	mems := append(alikeMems(), anyMems(10)...)
	words, texts := []string{}, []string{}
	for _, m := range mems {
		words, texts = append(words, keptWords(m)), append(texts, string(impl.KeptMake(m)))
	}
	counts := map[bool]int{}
	for i := range mems {
		for j := range i {
			if (words[i] == words[j]) != (texts[i] == texts[j]) {
				t.Errorf("%q, %q", words[i], words[j])
			}
			counts[words[i] == words[j]]++
		}
	}
	if counts[true] < 10000 || counts[false] < 10000 {
		t.Error(counts)
	}
}

// What is kept goes through a store: what was read behind a fall is what was kept ahead of it.
func TestKeptInAStore(t *testing.T) {
	rom := impl.HoldRom{}
	for _, m := range anyMems(50) {
		plan, ok := impl.HoldPlan(rom, impl.KeptMake(m))
		rom = impl.HoldPlay(rom, plan, len(plan))
		data, there := impl.HoldNow(rom)
		if back, is := impl.KeptBack(data); !ok || !there || !is || !sameMem(back, keptMem(m)) {
			t.Errorf("%q: %q %v %v %v", keptText(m), keptText(back), ok, there, is)
		}
	}
}

// The bytes that are written are new memory, spare room included, and nothing is kept from call to call.
func TestKeptMakeIsNewMemory(t *testing.T) {
	for _, m := range someMems() {
		want := keptBytes(m)
		first, second := impl.KeptMake(m), impl.KeptMake(m)
		scribbled(first)
		if !bytes.Equal(second, want) || !bytes.Equal(impl.KeptMake(m), want) {
			t.Errorf("%q: %x", keptText(m), second)
		}
		if back, ok := impl.KeptBack(second); !ok || !sameMem(back, keptMem(m)) {
			t.Errorf("%q: read back as %q", keptText(m), keptText(back))
		}
	}
}

// What is read is not written into, nor behind its end; what stands behind counts for nothing, and what was read stays.
func TestKeptBackWritesIntoNothing(t *testing.T) {
	lists := append(keptEnds(), nil, []byte{}, make([]byte, 133), make([]byte, 135), bytes.Repeat([]byte{255}, 134))
	for _, list := range lists {
		want, fine := keptRead(list)
		data := roomy(list, 77)
		ahead := slices.Clone(data[:cap(data)])
		m, ok := impl.KeptBack(data)
		if ok != fine || !bytes.Equal(data[:cap(data)], ahead) {
			t.Errorf("%x became %x: %v", ahead, data[:cap(data)], ok)
		}
		scribbled(data)
		if !sameMem(m, want) {
			t.Errorf("%x: read as %q, not %q", ahead, keptText(m), keptText(want))
		}
	}
}

func TestKeptAtOnce(t *testing.T) {
	mems := anyMems(16)
	var all sync.WaitGroup
	for _, m := range mems {
		all.Go(func() {
			for range 200 {
				data := impl.KeptMake(m)
				back, ok := impl.KeptBack(data)
				if !ok || !sameMem(back, impl.KeptOf(m)) || !bytes.Equal(data, keptBytes(m)) {
					t.Errorf("%q: read back as %q", keptText(m), keptText(back))
				}
			}
		})
	}
	all.Wait()
}

// Registers at the edges in each place, with their two bytes by a division.
func TestKeptRegistersAtTheEdges(t *testing.T) {
	for at := range 32 {
		for _, v := range append(wholeEdges(), math.MinInt16, math.MaxInt16) {
			m := impl.Mem{}
			m.D[at] = v
			want := make([]byte, 134)
			if at >= 16 {
				n := (int(v) + 65536) % 65536
				want[70+2*at], want[71+2*at] = byte(n%256), byte(n/256)
			}
			if data := impl.KeptMake(m); !bytes.Equal(data, want) {
				t.Errorf("D%d=%d: %x, not %x", at, v, data, want)
			}
			checkKept(t, m)
		}
	}
}
