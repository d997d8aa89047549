package tests

import (
	"bytes"
	"fmt"
	"math"
	"math/rand"
	"slices"
	"strings"
	"sync"
	"testing"

	"loop.example/stile/impl"
)

// holdMarks and holdTurns are edges of what a slot holds, good and not.
var (
	holdMarks = []byte{0, 164, 165, 166, 255}
	holdTurns = []byte{0, 1, 2, 3, 255}
)

// holdWide are whole numbers in which a place, a kind or a count may be given wrongly.
var holdWide = []int{math.MinInt, math.MinInt32, -256, -2, -1, 5, 6, 256, math.MaxInt32, math.MaxInt}

// holdSlot is a slot with this in it.
func holdSlot(mark, turn byte, data ...byte) impl.HoldSlot {
	return impl.HoldSlot{Mark: mark, Turn: turn, Data: data}
}

// holdOf is a store with these slots.
func holdOf(a, b impl.HoldSlot) impl.HoldRom { return impl.HoldRom{A: a, B: b} }

// holdPattern is so many bytes, of which those that are near each other are unlike.
func holdPattern(count, first int) []byte {
	data := make([]byte, count)
	for at := range data {
		data[at] = byte(first + at*7 + at/256)
	}
	return data
}

// holdText is a store, or as much of it as can be told.
func holdText(rom impl.HoldRom) string {
	slot := func(s impl.HoldSlot) string {
		return fmt.Sprintf("%d/%d/%d:%x", s.Mark, s.Turn, len(s.Data), s.Data[:min(len(s.Data), 8)])
	}
	return slot(rom.A) + " " + slot(rom.B)
}

// sameSlot is asked of two slots; the empty list and the nil list are the same value.
func sameSlot(a, b impl.HoldSlot) bool {
	return a.Mark == b.Mark && a.Turn == b.Turn && bytes.Equal(a.Data, b.Data)
}

func sameRom(a, b impl.HoldRom) bool { return sameSlot(a.A, b.A) && sameSlot(a.B, b.B) }

// holdCopy is the same store in other memory, with no room behind its bytes.
func holdCopy(rom impl.HoldRom) impl.HoldRom {
	rom.A.Data, rom.B.Data = slices.Clip(slices.Clone(rom.A.Data)), slices.Clip(slices.Clone(rom.B.Data))
	return rom
}

// holdDone is a second reading of HoldDo: of the slots by name, by what is put together anew.
func holdDone(rom impl.HoldRom, w impl.HoldWrite) impl.HoldRom {
	slots := map[int]impl.HoldSlot{0: rom.A, 1: rom.B}
	was, there := slots[w.Slot]
	is := map[int]impl.HoldSlot{
		1: {Mark: w.Byte, Turn: was.Turn, Data: was.Data},
		2: {Mark: was.Mark, Turn: w.Byte, Data: was.Data},
		3: {Mark: was.Mark, Turn: was.Turn},
		4: {Mark: was.Mark, Turn: was.Turn, Data: slices.Concat(was.Data, []byte{w.Byte})},
	}
	if next, known := is[w.Kind]; there && known && (w.Kind != 4 || len(next.Data) <= 20100) {
		slots[w.Slot] = next
	}
	return impl.HoldRom{A: slots[0], B: slots[1]}
}

// holdGoodAs is the turn of a slot as a sign, and "-" if it is not good.
func holdGoodAs(s impl.HoldSlot) string {
	turn, known := map[byte]string{0: "0", 1: "1", 2: "2"}[s.Turn]
	if s.Mark != 165 || len(s.Data) > 20100 || !known {
		return "-"
	}
	return turn
}

// holdCounts is a second reading of HoldSlotNow, with the turn that follows: by a table of the turns of both slots.
func holdCounts(rom impl.HoldRom) (slot int, next byte) {
	row := map[string][2]int{
		"00": {0, 1}, "01": {1, 2}, "02": {0, 1}, "0-": {0, 1},
		"10": {0, 2}, "11": {0, 2}, "12": {1, 0}, "1-": {0, 2},
		"20": {1, 1}, "21": {0, 0}, "22": {0, 0}, "2-": {0, 0},
		"-0": {1, 1}, "-1": {1, 2}, "-2": {1, 0}, "--": {-1, 0},
	}
	is, told := row[holdGoodAs(rom.A)+holdGoodAs(rom.B)]
	if !told {
		panic(holdText(rom))
	}
	return is[0], byte(is[1])
}

// holdKeeps is a second reading of HoldNow.
func holdKeeps(rom impl.HoldRom) ([]byte, bool) {
	slot, _ := holdCounts(rom)
	return [][]byte{nil, rom.A.Data, rom.B.Data}[slot+1], slot >= 0
}

// holdLines are writes, a text each.
func holdLines(writes []impl.HoldWrite) []string {
	lines := make([]string, len(writes))
	for at, w := range writes {
		lines[at] = fmt.Sprint(w.Kind, w.Slot, w.Byte)
	}
	return lines
}

// holdPlanOf is a second reading of HoldPlan, as texts.
func holdPlanOf(rom impl.HoldRom, data []byte) ([]string, bool) {
	if len(data) > 20100 {
		return nil, false
	}
	now, turn := holdCounts(rom)
	to := map[int]int{-1: 0, 0: 1, 1: 0}[now]
	lines := strings.Fields(strings.Repeat("x ", len(data)+4))
	lines[0], lines[1] = fmt.Sprint(1, to, 0), fmt.Sprint(3, to, 0)
	for at, b := range data {
		lines[at+2] = fmt.Sprint(4, to, b)
	}
	lines[len(data)+2], lines[len(data)+3] = fmt.Sprint(2, to, turn), fmt.Sprint(1, to, 165)
	if now < 0 {
		return lines, true
	}
	return append(lines, fmt.Sprint(1, now, 0)), true
}

// checkHoldNow holds what counts and what is kept against the second reading, and tells what counts.
func checkHoldNow(t *testing.T, rom impl.HoldRom) int {
	t.Helper()
	slot, _ := holdCounts(rom)
	if now := impl.HoldSlotNow(rom); now != slot {
		t.Fatalf("%s: slot %d counts, not %d", holdText(rom), now, slot)
	}
	want, kept := holdKeeps(rom)
	if data, ok := impl.HoldNow(rom); ok != kept || !bytes.Equal(data, want) {
		t.Fatalf("%s keeps %d bytes, %v", holdText(rom), len(data), ok)
	}
	return slot
}

// checkHoldPlan holds a plan against the second reading, and gives it.
func checkHoldPlan(t *testing.T, rom impl.HoldRom, data []byte) []impl.HoldWrite {
	t.Helper()
	plan, ok := impl.HoldPlan(rom, data)
	want, fits := holdPlanOf(rom, data)
	if ok != fits || !slices.Equal(holdLines(plan), want) {
		t.Fatalf("%s, %d bytes to keep: a plan of %d writes, %v", holdText(rom), len(data), len(plan), ok)
	}
	return plan
}

// holdNewMark is behind how many writes of a plan the mark of the new slot is written; this is the only one that makes a slot good.
func holdNewMark(t *testing.T, plan []impl.HoldWrite) int {
	t.Helper()
	place := -1
	for at, w := range plan {
		if w.Kind == 1 && w.Byte == 165 {
			if place >= 0 {
				t.Fatal("two marks are written")
			}
			place = at
		}
	}
	if place < 0 || plan[place].Slot != plan[0].Slot {
		t.Fatal("the new slot gets no mark")
	}
	return place + 1
}

// checkOldOrNew cuts a plan behind each of its writes, and gives the stores that are left (P60, and of a whole plan P61).
func checkOldOrNew(t *testing.T, rom impl.HoldRom, data []byte) []impl.HoldRom {
	t.Helper()
	old, was := impl.HoldNow(rom)
	plan := checkHoldPlan(t, rom, data)
	marked := holdNewMark(t, plan)
	left := []impl.HoldRom{rom}
	for _, w := range plan {
		left = append(left, impl.HoldDo(left[len(left)-1], w))
	}
	for n, store := range left {
		want, keeps := old, was
		if n >= marked {
			want, keeps = data, true
		}
		if kept, ok := impl.HoldNow(store); ok != keeps || !bytes.Equal(kept, want) {
			t.Fatalf("%s, %d bytes to keep: cut behind %d writes it keeps %d bytes, %v", holdText(rom), len(data), n, len(kept), ok)
		}
	}
	checkOneGood(t, left[len(left)-1])
	return left
}

// checkOneGood is asked of a store behind a whole plan (P61).
func checkOneGood(t *testing.T, rom impl.HoldRom) {
	t.Helper()
	if (holdGoodAs(rom.A) == "-") == (holdGoodAs(rom.B) == "-") {
		t.Fatalf("behind a whole plan there is not just one good slot: %s", holdText(rom))
	}
}

// holdSlots are slots of each mark and turn, with each of these bytes.
func holdSlots(datas ...[]byte) []impl.HoldSlot {
	slots := []impl.HoldSlot{}
	for _, mark := range holdMarks {
		for _, turn := range holdTurns {
			for _, data := range datas {
				slots = append(slots, holdSlot(mark, turn, data...))
			}
		}
	}
	return slots
}

// holdPairs are stores of each two of these slots.
func holdPairs(slots []impl.HoldSlot) []impl.HoldRom {
	roms := []impl.HoldRom{}
	for _, a := range slots {
		for _, b := range slots {
			roms = append(roms, holdOf(a, b))
		}
	}
	return roms
}

// holdOrdinary are stores that are left by plans, wholly written or not, and an empty one.
func holdOrdinary() []impl.HoldRom {
	return []impl.HoldRom{
		{},
		holdOf(holdSlot(165, 0, 7, 8), impl.HoldSlot{}),
		holdOf(holdSlot(0, 0, 7, 8), holdSlot(165, 1, 9)),
		holdOf(holdSlot(165, 2, 1, 2, 3), holdSlot(0, 1, 9)),
		holdOf(holdSlot(165, 1, 1), holdSlot(165, 2, 2)),
		holdOf(holdSlot(165, 0, 1), holdSlot(165, 2, 2)),
		holdOf(holdSlot(0, 0, 1), holdSlot(0, 2)),
	}
}

// holdLarge are stores at the bound of what a slot has room for.
func holdLarge() []impl.HoldRom {
	roms := []impl.HoldRom{}
	for _, count := range []int{20099, 20100, 20101, 25000} {
		large := holdPattern(count, count)
		roms = append(roms,
			holdOf(holdSlot(165, 0, large...), impl.HoldSlot{}),
			holdOf(holdSlot(165, 2, 5), holdSlot(165, 0, large...)),
			holdOf(holdSlot(165, 1, large...), holdSlot(165, 0, holdPattern(20100, 3)...)),
			holdOf(holdSlot(0, 1, large...), holdSlot(164, 2, large...)))
	}
	return roms
}

// holdAnyByte is a byte that is often at an edge.
func holdAnyByte(r *rand.Rand, edges []byte) byte {
	if r.Intn(8) == 0 {
		return byte(r.Intn(256))
	}
	return edges[r.Intn(len(edges))]
}

// holdAnySlot is a slot that holds anything; it is good rather often.
func holdAnySlot(r *rand.Rand, most int) impl.HoldSlot {
	marks := append([]byte{165, 165, 165, 165, 165}, holdMarks...)
	return holdSlot(holdAnyByte(r, marks), holdAnyByte(r, append([]byte{0, 1, 2}, holdTurns...)), holdPattern(r.Intn(most+1), r.Intn(256))...)
}

// holdAnyWrite is a write, one in four of which is to no slot or of no kind.
func holdAnyWrite(r *rand.Rand) impl.HoldWrite {
	w := impl.HoldWrite{Kind: 1 + r.Intn(4), Slot: r.Intn(2), Byte: byte(r.Intn(256))}
	switch r.Intn(8) {
	case 0:
		w.Kind = []int{-1, 0, 5, holdWide[r.Intn(len(holdWide))]}[r.Intn(4)]
	case 1:
		w.Slot = []int{-1, 2, 3, holdWide[r.Intn(len(holdWide))]}[r.Intn(4)]
	}
	return w
}

// holdAnyWrites are so many writes.
func holdAnyWrites(r *rand.Rand, count int) []impl.HoldWrite {
	writes := make([]impl.HoldWrite, count)
	for at := range writes {
		writes[at] = holdAnyWrite(r)
	}
	return writes
}

func TestHoldConstants(t *testing.T) {
	numbers := []int{impl.HoldMark, impl.HoldTurn, impl.HoldWipe, impl.HoldPut, impl.HoldGood, impl.HoldMaxData}
	if !slices.Equal(numbers, []int{1, 2, 3, 4, 165, 20100}) {
		t.Error(numbers)
	}
}

// Writes of each kind, right and wrong, one behind the other on one store, as they are written out in the chapter.
func TestHoldWritesWrittenOut(t *testing.T) {
	rom := impl.HoldRom{}
	for _, row := range []struct {
		kind, slot int
		b          byte
		text       string
	}{
		{1, 0, 165, "165/0/0: 0/0/0:"},
		{2, 1, 2, "165/0/0: 0/2/0:"},
		{4, 1, 7, "165/0/0: 0/2/1:07"},
		{4, 1, 9, "165/0/0: 0/2/2:0709"},
		{4, 0, 9, "165/0/1:09 0/2/2:0709"},
		{0, 0, 5, "165/0/1:09 0/2/2:0709"},
		{5, 0, 5, "165/0/1:09 0/2/2:0709"},
		{-1, 0, 5, "165/0/1:09 0/2/2:0709"},
		{1, -1, 5, "165/0/1:09 0/2/2:0709"},
		{4, 2, 5, "165/0/1:09 0/2/2:0709"},
		{3, 2, 5, "165/0/1:09 0/2/2:0709"},
		{1, 1, 255, "165/0/1:09 255/2/2:0709"},
		{2, 0, 255, "165/255/1:09 255/2/2:0709"},
		{3, 1, 77, "165/255/1:09 255/2/0:"},
		{3, 1, 77, "165/255/1:09 255/2/0:"},
		{4, 1, 0, "165/255/1:09 255/2/1:00"},
		{3, 0, 0, "165/255/0: 255/2/1:00"},
	} {
		rom = impl.HoldDo(rom, impl.HoldWrite{Kind: row.kind, Slot: row.slot, Byte: row.b})
		if text := holdText(rom); text != row.text {
			t.Fatalf("%v leaves %s", row, text)
		}
	}
}

// checkHoldDo holds a write against the second reading, and says whether it writes anything.
func checkHoldDo(t *testing.T, rom impl.HoldRom, w impl.HoldWrite) bool {
	t.Helper()
	is, want := impl.HoldDo(rom, w), holdDone(rom, w)
	if !sameRom(is, want) {
		t.Fatalf("%s, %v leaves %s", holdText(rom), w, holdText(is))
	}
	return !sameRom(is, rom)
}

func TestHoldDoOfEachWrite(t *testing.T) {
	places := append([]int{0, 1, 2, 3, 4}, holdWide...)
	written := 0
	for _, rom := range holdOrdinary() {
		for _, kind := range places {
			for _, slot := range places {
				for b := range 256 {
					if checkHoldDo(t, rom, impl.HoldWrite{Kind: kind, Slot: slot, Byte: byte(b)}) {
						written++
					}
				}
			}
		}
	}
	// Of 14 slots each: 256 marks, turns and puts, less one mark and one turn that are there; the 10 that have bytes are wiped by 256.
	if want := 14*(255+255+256) + 10*256; written != want {
		t.Errorf("%d writes wrote, not %d", written, want)
	}
}

// Kinds and slots that are told apart by their low bits alone would be taken for others.
func TestHoldDoOfAnyWrites(t *testing.T) {
	r := rand.New(rand.NewSource(181))
	written := 0
	for range 200000 {
		rom := holdOf(holdAnySlot(r, 3), holdAnySlot(r, 3))
		w := holdAnyWrite(r)
		if r.Intn(4) == 0 {
			w.Kind += r.Intn(3) << (4 * r.Intn(15))
			w.Slot += r.Intn(3) << (4 * r.Intn(15))
		}
		if checkHoldDo(t, rom, w) {
			written++
		}
	}
	if written < 100000 || written > 150000 {
		t.Errorf("%d writes wrote", written)
	}
}

func TestHoldDoOfLargeSlots(t *testing.T) {
	for _, rom := range holdLarge() {
		for kind := -1; kind <= 5; kind++ {
			for slot := -1; slot <= 2; slot++ {
				for _, b := range []byte{0, 1, 165, 255} {
					checkHoldDo(t, rom, impl.HoldWrite{Kind: kind, Slot: slot, Byte: b})
				}
			}
		}
	}
}

// A byte is put behind HoldMaxData - 1 bytes, and not behind HoldMaxData or more; the other slot is as it was.
func TestHoldPutAtTheBound(t *testing.T) {
	for _, row := range [][3]int{{0, 1, 2}, {20098, 20099, 20100}, {20099, 20100, 20100}, {20100, 20100, 20100}, {20101, 20101, 20101}, {30000, 30000, 30000}} {
		for slot := range 2 {
			data := holdPattern(row[0], 1)
			rom := holdOf(holdSlot(1, 2, data...), holdSlot(3, 4, data...))
			for put := 1; put <= 2; put++ {
				rom = impl.HoldDo(rom, impl.HoldWrite{Kind: impl.HoldPut, Slot: slot, Byte: byte(100 + put)})
				want := append(slices.Clone(data), 101, 102)[:row[put]]
				is := [][]byte{rom.A.Data, rom.B.Data}
				if row[put] == row[0] {
					want = data
				}
				if !bytes.Equal(is[slot], want) || !bytes.Equal(is[1-slot], data) {
					t.Fatalf("%v, slot %d: %d and %d bytes behind put %d", row, slot, len(is[0]), len(is[1]), put)
				}
			}
			if rom.A.Mark != 1 || rom.A.Turn != 2 || rom.B.Mark != 3 || rom.B.Turn != 4 {
				t.Fatal(holdText(rom))
			}
		}
	}
}

// checkHoldPlay holds the first n of writes against HoldDo of each, and against the second reading (P62).
func checkHoldPlay(t *testing.T, rom impl.HoldRom, writes []impl.HoldWrite, n int) {
	t.Helper()
	done, want := rom, rom
	for at, w := range writes {
		if at < n {
			done, want = impl.HoldDo(done, w), holdDone(want, w)
		}
	}
	is := impl.HoldPlay(rom, writes, n)
	if !sameRom(is, done) || !sameRom(is, want) {
		t.Fatalf("%s, the first %d of %v: %s, not %s", holdText(rom), n, holdLines(writes[:min(len(writes), 20)]), holdText(is), holdText(want))
	}
}

func TestHoldPlayOfAnyWrites(t *testing.T) {
	r := rand.New(rand.NewSource(182))
	for range 4000 {
		rom := holdOf(holdAnySlot(r, 3), holdAnySlot(r, 3))
		writes := holdAnyWrites(r, r.Intn(14))
		for n := -2; n <= len(writes)+2; n++ {
			checkHoldPlay(t, rom, writes, n)
		}
		for _, n := range holdWide {
			checkHoldPlay(t, rom, writes, n)
		}
	}
}

// Writes that come to one place: the last one counts, and bytes lie in the order in which they were put.
func TestHoldPlayInOrder(t *testing.T) {
	writes := []impl.HoldWrite{
		{Kind: 1, Byte: 1}, {Kind: 1, Byte: 2}, {Kind: 2, Slot: 1, Byte: 3}, {Kind: 2, Slot: 1, Byte: 4},
		{Kind: 4, Byte: 5}, {Kind: 3}, {Kind: 4, Byte: 6}, {Kind: 4, Byte: 7}, {Kind: 4, Slot: 1, Byte: 8}, {Kind: 9}, {Kind: 4, Byte: 9},
	}
	want := []string{
		"0/0/0: 0/0/0:", "1/0/0: 0/0/0:", "2/0/0: 0/0/0:", "2/0/0: 0/3/0:", "2/0/0: 0/4/0:",
		"2/0/1:05 0/4/0:", "2/0/0: 0/4/0:", "2/0/1:06 0/4/0:", "2/0/2:0607 0/4/0:", "2/0/2:0607 0/4/1:08", "2/0/2:0607 0/4/1:08", "2/0/3:060709 0/4/1:08",
	}
	for n, text := range want {
		if is := holdText(impl.HoldPlay(impl.HoldRom{}, writes, n)); is != text {
			t.Errorf("%d writes leave %s", n, is)
		}
	}
	for _, n := range []int{-1, math.MinInt} {
		if is := holdText(impl.HoldPlay(impl.HoldRom{}, writes, n)); is != want[0] {
			t.Errorf("%d writes leave %s", n, is)
		}
	}
	for _, n := range []int{12, 13, math.MaxInt} {
		if is := holdText(impl.HoldPlay(impl.HoldRom{}, writes, n)); is != want[11] {
			t.Errorf("%d writes leave %s", n, is)
		}
	}
}

func TestHoldPlayOfNoWrites(t *testing.T) {
	for _, rom := range append(holdOrdinary(), holdLarge()...) {
		for _, writes := range [][]impl.HoldWrite{nil, {}, make([]impl.HoldWrite, 0, 4), {{}}, {{Kind: 5, Byte: 1}, {Kind: 4, Slot: 2}}} {
			for _, n := range append([]int{0, 1, 2}, holdWide...) {
				if is := impl.HoldPlay(rom, writes, n); !sameRom(is, rom) {
					t.Fatalf("%s, %d of %v: %s", holdText(rom), n, writes, holdText(is))
				}
			}
		}
	}
}

// What is put beyond the room of a slot is lost, and what comes behind is written (P62).
func TestHoldPlayOfMoreThanHasRoom(t *testing.T) {
	writes := []impl.HoldWrite{}
	for at := range 20200 {
		writes = append(writes, impl.HoldWrite{Kind: 4, Slot: 1, Byte: byte(at * 3)})
	}
	writes = append(writes, impl.HoldWrite{Kind: 2, Slot: 1, Byte: 7}, impl.HoldWrite{Kind: 4, Byte: 8})
	for _, n := range []int{20099, 20100, 20101, 20199, 20200, 20201, 20202, 30000} {
		rom := impl.HoldPlay(impl.HoldRom{}, writes, n)
		want := make([]byte, min(n, 20100))
		for at := range want {
			want[at] = byte(at * 3)
		}
		turn := map[bool]byte{true: 7}[n > 20200]
		if !bytes.Equal(rom.B.Data, want) || rom.B.Turn != turn || len(rom.A.Data) != min(max(n-20201, 0), 1) {
			t.Errorf("%d writes leave %s", n, holdText(rom))
		}
	}
	rom := impl.HoldRom{}
	for at, w := range writes {
		rom = impl.HoldDo(rom, w)
		if at%1111 == 0 && !sameRom(rom, impl.HoldPlay(impl.HoldRom{}, writes, at+1)) {
			t.Fatalf("HoldDo and HoldPlay part behind %d writes", at+1)
		}
	}
	if !sameRom(rom, impl.HoldPlay(impl.HoldRom{}, writes, len(writes))) {
		t.Error("HoldDo and HoldPlay part behind all writes")
	}
}

// Which of two good slots counts, for each pair of turns, as it is written out.
func TestHoldSlotNowWrittenOut(t *testing.T) {
	for _, row := range []struct{ a, b, slot int }{
		{0, 0, 0}, {0, 1, 1}, {0, 2, 0}, {1, 0, 0}, {1, 1, 0}, {1, 2, 1}, {2, 0, 1}, {2, 1, 0}, {2, 2, 0},
		{3, 0, 1}, {3, 1, 1}, {3, 2, 1}, {0, 3, 0}, {1, 3, 0}, {2, 3, 0}, {3, 3, -1},
		{255, 0, 1}, {255, 1, 1}, {255, 2, 1}, {0, 255, 0}, {1, 255, 0}, {2, 255, 0}, {255, 255, -1}, {3, 255, -1},
	} {
		rom := holdOf(holdSlot(165, byte(row.a), 1), holdSlot(165, byte(row.b), 2))
		if slot := impl.HoldSlotNow(rom); slot != row.slot {
			t.Errorf("%v: slot %d counts", row, slot)
		}
		data, ok := impl.HoldNow(rom)
		want := [][]byte{{}, {1}, {2}}[row.slot+1]
		if !bytes.Equal(data, want) || ok != (row.slot >= 0) {
			t.Errorf("%v: %v is kept, %v", row, data, ok)
		}
	}
}

func TestHoldSlotNowOfEachTurn(t *testing.T) {
	counts := map[int]int{}
	for a := range 256 {
		for b := range 256 {
			counts[checkHoldNow(t, holdOf(holdSlot(165, byte(a), 1), holdSlot(165, byte(b), 2)))]++
		}
	}
	if counts[0] != 3*253+6 || counts[1] != 3*253+3 || counts[-1] != 253*253 {
		t.Error(counts)
	}
}

func TestHoldSlotNowOfEachMark(t *testing.T) {
	counts := map[int]int{}
	for a := range 256 {
		for b := range 256 {
			for turn := range 3 {
				counts[checkHoldNow(t, holdOf(holdSlot(byte(a), byte(turn), 1), holdSlot(byte(b), 1, 2)))]++
			}
		}
	}
	if counts[0] != 3*255+2 || counts[1] != 3*255+1 || counts[-1] != 3*255*255 {
		t.Error(counts)
	}
}

// A slot with more than HoldMaxData bytes is not good, one with as many is; one without bytes keeps these, and does count.
func TestHoldSlotNowOfEachLength(t *testing.T) {
	lengths := []int{0, 1, 255, 256, 20099, 20100, 20101, 20102, 65536, 85636}
	for _, a := range lengths {
		for _, b := range lengths {
			for turns := range 9 {
				rom := holdOf(holdSlot(165, byte(turns/3), holdPattern(a, 1)...), holdSlot(165, byte(turns%3), holdPattern(b, 2)...))
				slot := checkHoldNow(t, rom)
				if a > 20100 && slot == 0 || b > 20100 && slot == 1 || slot < 0 && min(a, b) <= 20100 {
					t.Fatalf("%s: slot %d counts", holdText(rom), slot)
				}
			}
		}
	}
	data, ok := impl.HoldNow(holdOf(impl.HoldSlot{}, holdSlot(165, 2)))
	if len(data) != 0 || !ok {
		t.Error(data, ok)
	}
}

func TestHoldSlotNowOfEachStore(t *testing.T) {
	counts := map[int]int{}
	for _, rom := range holdPairs(holdSlots(nil, []byte{1}, []byte{2, 3})) {
		counts[checkHoldNow(t, rom)]++
	}
	for _, rom := range append(holdOrdinary(), holdLarge()...) {
		checkHoldNow(t, rom)
	}
	// Of the 75 slots 9 are good, 3 of each turn.
	if counts[0] != 9*66+54 || counts[1] != 9*66+27 || counts[-1] != 66*66 {
		t.Error(counts)
	}
}

// Plans as the chapter writes them out: what is written first and last, and with which turn.
func TestHoldPlansWrittenOut(t *testing.T) {
	good := func(turn byte) impl.HoldSlot { return holdSlot(165, turn, 5) }
	for _, row := range []struct {
		rom  impl.HoldRom
		data string
		want string
	}{
		{impl.HoldRom{}, "", "m0=0 w0=0 t0=0 m0=165"},
		{impl.HoldRom{}, "ab", "m0=0 w0=0 p0=97 p0=98 t0=0 m0=165"},
		{holdOf(holdSlot(165, 3, 5), holdSlot(165, 4, 5)), "a", "m0=0 w0=0 p0=97 t0=0 m0=165"},
		{holdOf(holdSlot(164, 1, 5), holdSlot(166, 2, 5)), "a", "m0=0 w0=0 p0=97 t0=0 m0=165"},
		{holdOf(good(0), impl.HoldSlot{}), "", "m1=0 w1=0 t1=1 m1=165 m0=0"},
		{holdOf(good(0), impl.HoldSlot{}), "a", "m1=0 w1=0 p1=97 t1=1 m1=165 m0=0"},
		{holdOf(good(1), impl.HoldSlot{}), "a", "m1=0 w1=0 p1=97 t1=2 m1=165 m0=0"},
		{holdOf(good(2), holdSlot(0, 9, 9, 9)), "aa", "m1=0 w1=0 p1=97 p1=97 t1=0 m1=165 m0=0"},
		{holdOf(impl.HoldSlot{}, good(0)), "", "m0=0 w0=0 t0=1 m0=165 m1=0"},
		{holdOf(impl.HoldSlot{}, good(1)), "a", "m0=0 w0=0 p0=97 t0=2 m0=165 m1=0"},
		{holdOf(holdSlot(165, 3), good(2)), "ba", "m0=0 w0=0 p0=98 p0=97 t0=0 m0=165 m1=0"},
		{holdOf(good(0), good(0)), "a", "m1=0 w1=0 p1=97 t1=1 m1=165 m0=0"},
		{holdOf(good(0), good(1)), "a", "m0=0 w0=0 p0=97 t0=2 m0=165 m1=0"},
		{holdOf(good(0), good(2)), "a", "m1=0 w1=0 p1=97 t1=1 m1=165 m0=0"},
		{holdOf(good(1), good(0)), "a", "m1=0 w1=0 p1=97 t1=2 m1=165 m0=0"},
		{holdOf(good(1), good(1)), "a", "m1=0 w1=0 p1=97 t1=2 m1=165 m0=0"},
		{holdOf(good(1), good(2)), "a", "m0=0 w0=0 p0=97 t0=0 m0=165 m1=0"},
		{holdOf(good(2), good(0)), "a", "m0=0 w0=0 p0=97 t0=1 m0=165 m1=0"},
		{holdOf(good(2), good(1)), "a", "m1=0 w1=0 p1=97 t1=0 m1=165 m0=0"},
		{holdOf(good(2), good(2)), "a", "m1=0 w1=0 p1=97 t1=0 m1=165 m0=0"},
	} {
		plan, ok := impl.HoldPlan(row.rom, []byte(row.data))
		words := []string{}
		for _, w := range plan {
			letter := []string{1: "m", 2: "t", 3: "w", 4: "p"}[w.Kind]
			words = append(words, fmt.Sprintf("%s%d=%d", letter, w.Slot, w.Byte))
		}
		if text := strings.Join(words, " "); text != row.want || !ok {
			t.Errorf("%s, %q: %s, %v", holdText(row.rom), row.data, text, ok)
		}
	}
}

// Wherever power falls, and wherever it falls once more while the next plan is written, the old bytes are kept or the new ones (P60, P61).
func TestHoldOldOrNewOfEachStore(t *testing.T) {
	datas := [][]byte{nil, {1}, {165, 0, 165}}
	counts := map[int]int{}
	for at, rom := range holdPairs(holdSlots(nil, []byte{4, 5})) {
		for _, data := range datas {
			left := checkOldOrNew(t, rom, data)
			counts[len(left)]++
			for _, fallen := range left {
				checkOldOrNew(t, fallen, datas[at%3])
			}
		}
	}
	// Of the 50 slots 6 are good, so of 2500 stores 1936 have none that counts; their plans are a write shorter.
	if counts[5] != 1936 || counts[6] != 564+1936 || counts[7] != 564 || counts[8] != 1936 || counts[9] != 564 {
		t.Error(counts)
	}
}

// A fall on a fall on a fall, at each write of each of three plans, with the bytes of each plan its own.
func TestHoldThreeFalls(t *testing.T) {
	for _, rom := range holdOrdinary() {
		for _, once := range checkOldOrNew(t, rom, []byte{11, 12}) {
			for _, twice := range checkOldOrNew(t, once, []byte{13}) {
				for _, thrice := range checkOldOrNew(t, twice, []byte{14, 15, 16}) {
					checkOldOrNew(t, thrice, nil)
				}
			}
		}
	}
}

// A plan is not spoilt by a fall between two plans: what was kept is what the next one starts from, with its turn (P61).
func TestHoldTurnsGoRound(t *testing.T) {
	rom := impl.HoldRom{}
	for round := range 30 {
		data := []byte{byte(round), byte(round + 1)}
		rom = impl.HoldPlay(rom, checkHoldPlan(t, rom, data), math.MaxInt)
		slots := []impl.HoldSlot{rom.A, rom.B}
		is, other := slots[round%2], slots[1-round%2]
		if !sameSlot(is, holdSlot(165, byte(round%3), data...)) || other.Mark != 0 {
			t.Fatalf("round %d leaves %s", round, holdText(rom))
		}
	}
}

// Each cut of a plan of as many bytes as have room, on slots with as many bytes, fewer and more (P60).
func TestHoldOldOrNewAtTheBound(t *testing.T) {
	for at, rom := range holdLarge() {
		if at%4 == 3 || at < 8 {
			checkOldOrNew(t, rom, []byte{1, 2, 3})
			continue
		}
		old, was := holdKeeps(rom)
		data := holdPattern(20100, at)
		plan := checkHoldPlan(t, rom, data)
		marked := holdNewMark(t, plan)
		for n := 0; n <= len(plan); n++ {
			if n > 0 {
				rom = impl.HoldDo(rom, plan[n-1])
			}
			want, keeps := old, was
			if n >= marked {
				want, keeps = data, true
			}
			if kept, ok := impl.HoldNow(rom); ok != keeps || !bytes.Equal(kept, want) {
				t.Fatalf("store %d, cut behind %d writes: it keeps %d bytes, %v", at, n, len(kept), ok)
			}
			if n < 4 || n%5000 == 0 || n > 20100 {
				checkOldOrNew(t, rom, []byte{4, 5})
			}
		}
		checkOneGood(t, rom)
	}
}

// As many bytes as have room are kept, one more are not, whatever the store holds.
func TestHoldPlanOfTooManyBytes(t *testing.T) {
	for _, rom := range append(holdOrdinary(), holdLarge()...) {
		for _, count := range []int{0, 1, 2, 255, 256, 20099, 20100, 20101, 20102, 65536, 85636, 1000000} {
			data := holdPattern(count, 9)
			plan := checkHoldPlan(t, rom, data)
			if count > 20100 {
				if len(plan) != 0 {
					t.Fatalf("%d bytes have a plan", count)
				}
				continue
			}
			left := impl.HoldPlay(rom, plan, len(plan))
			if kept, ok := impl.HoldNow(left); !ok || !bytes.Equal(kept, data) {
				t.Fatalf("%s, %d bytes: %d bytes are kept, %v", holdText(rom), count, len(kept), ok)
			}
			checkOneGood(t, left)
		}
	}
}

// Stores with anything at all in them: what counts, the plan, and each cut of it (P60, P61).
func TestHoldOldOrNewOfAnyStores(t *testing.T) {
	r := rand.New(rand.NewSource(183))
	counts := map[int]int{}
	for range 20000 {
		rom := holdOf(holdAnySlot(r, 9), holdAnySlot(r, 9))
		counts[checkHoldNow(t, rom)]++
		left := checkOldOrNew(t, rom, holdPattern(r.Intn(9), r.Intn(256)))
		checkOldOrNew(t, left[r.Intn(len(left))], holdPattern(r.Intn(9), r.Intn(256)))
	}
	for _, slot := range []int{-1, 0, 1} {
		if counts[slot] < 4000 {
			t.Error(counts)
		}
	}
}

func TestHoldPlanOfAnyLargeStores(t *testing.T) {
	r := rand.New(rand.NewSource(184))
	kept := 0
	for range 150 {
		rom := holdOf(holdAnySlot(r, 21000), holdAnySlot(r, 21000))
		data := holdPattern(r.Intn(20800), r.Intn(256))
		old, was := holdKeeps(rom)
		checkHoldNow(t, rom)
		plan := checkHoldPlan(t, rom, data)
		if len(plan) == 0 {
			continue
		}
		kept++
		n := r.Intn(len(plan) + 1)
		if n >= holdNewMark(t, plan) || r.Intn(3) == 0 {
			n, old, was = len(plan), data, true
		}
		if is, ok := impl.HoldNow(impl.HoldPlay(rom, plan, n)); ok != was || !bytes.Equal(is, old) {
			t.Fatalf("%s, %d bytes, cut behind %d: %d bytes, %v", holdText(rom), len(data), n, len(is), ok)
		}
	}
	if kept < 100 || kept == 150 {
		t.Errorf("%d plans", kept)
	}
}

// One store through very many plans, falls and writes that belong to none: what it keeps is told at each step (P60, P61).
func TestHoldThroughManyFalls(t *testing.T) {
	r := rand.New(rand.NewSource(185))
	rom, whole, cut := impl.HoldRom{}, 0, 0
	for round := range 30000 {
		old, was := impl.HoldNow(rom)
		data := holdPattern(r.Intn(5), round)
		plan := checkHoldPlan(t, rom, data)
		n := r.Intn(len(plan) + 3)
		if n >= holdNewMark(t, plan) {
			old, was = data, true
			whole++
		} else {
			cut++
		}
		rom = impl.HoldPlay(rom, plan, n)
		if kept, ok := impl.HoldNow(rom); ok != was || !bytes.Equal(kept, old) {
			t.Fatalf("round %d, cut behind %d: %s", round, n, holdText(rom))
		}
		if r.Intn(50) == 0 {
			rom = impl.HoldPlay(rom, holdAnyWrites(r, 3), 3)
		}
	}
	if whole < 8000 || cut < 8000 {
		t.Error(whole, cut)
	}
}

// holdShared are stores whose slots share memory, or lie in each other's spare room.
func holdShared() []impl.HoldRom {
	both := []byte{1, 2, 3, 4, 5, 6}
	return []impl.HoldRom{
		holdOf(holdSlot(165, 0, both...), holdSlot(165, 1, both...)),
		holdOf(holdSlot(165, 0, both[:2]...), holdSlot(165, 2, both[2:]...)),
		holdOf(holdSlot(165, 2, both[3:]...), holdSlot(165, 0, both[:3]...)),
		holdOf(holdSlot(0, 0, both[:0]...), holdSlot(0, 0, both[1:4]...)),
		holdOf(holdSlot(165, 0, both[:0]...), holdSlot(0, 0, both[:0]...)),
	}
}

// holdRooms is a store with all the room behind its bytes.
func holdRooms(rom impl.HoldRom) string {
	return fmt.Sprint(rom.A.Data[:cap(rom.A.Data)], rom.B.Data[:cap(rom.B.Data)])
}

// No store is written into, nor behind the end of its bytes, by any of the functions; nor are the writes and the bytes.
func TestHoldWritesIntoNoArgument(t *testing.T) {
	roms := holdShared()
	for _, rom := range holdOrdinary() {
		rom.A.Data, rom.B.Data = roomy(rom.A.Data, 77), roomy(rom.B.Data, 78)
		roms = append(roms, rom)
	}
	for _, rom := range roms {
		was, rooms := holdCopy(rom), holdRooms(rom)
		for kind := range 6 {
			for slot := range 3 {
				impl.HoldDo(rom, impl.HoldWrite{Kind: kind, Slot: slot, Byte: 99})
				writes := roomy([]impl.HoldWrite{{Kind: kind, Slot: slot, Byte: 98}, {Kind: kind, Slot: slot, Byte: 97}}, impl.HoldWrite{Kind: 7})
				all := holdLines(writes[:4])
				impl.HoldPlay(rom, writes, 2)
				if !slices.Equal(holdLines(writes[:4]), all) {
					t.Fatal("writes are written into")
				}
			}
		}
		data := roomy([]byte{1, 2}, 79)
		impl.HoldSlotNow(rom)
		impl.HoldNow(rom)
		impl.HoldPlan(rom, data)
		if !sameRom(rom, was) || holdRooms(rom) != rooms || !bytes.Equal(data[:4], []byte{1, 2, 79, 79}) {
			t.Fatalf("%s: %s", holdText(was), holdRooms(rom))
		}
	}
}

// What shares memory in the argument is written as if it did not, and shares none in the answer, spare room included.
func TestHoldStoresAreNewMemory(t *testing.T) {
	roms := append(holdShared(), holdOrdinary()...)
	for _, rom := range append(roms, holdLarge()[:3]...) {
		for kind := range 6 {
			for slot := -1; slot <= 2; slot++ {
				w := impl.HoldWrite{Kind: kind, Slot: slot, Byte: 9}
				was, want := holdCopy(rom), holdCopy(holdDone(rom, w))
				done, played, none := impl.HoldDo(rom, w), impl.HoldPlay(rom, []impl.HoldWrite{w}, 1), impl.HoldPlay(rom, nil, 1)
				for _, is := range []impl.HoldRom{none, done, played} {
					scribbled(is.A.Data)
				}
				if !bytes.Equal(done.B.Data, want.B.Data) || !bytes.Equal(played.B.Data, want.B.Data) || !bytes.Equal(none.B.Data, was.B.Data) {
					t.Fatalf("%s, %v: the slots of the answer share memory", holdText(was), w)
				}
				for _, is := range []impl.HoldRom{none, done, played} {
					scribbled(is.B.Data)
				}
				if again := impl.HoldDo(rom, w); !sameRom(rom, was) || !sameRom(again, want) {
					t.Fatalf("%s, %v: the answer shares memory with the store", holdText(was), w)
				}
			}
		}
	}
}

func TestHoldNowIsNewMemory(t *testing.T) {
	for _, rom := range append(append(holdShared(), holdOrdinary()...), holdLarge()...) {
		rom.A.Data, rom.B.Data = roomy(rom.A.Data, 77), roomy(rom.B.Data, 78)
		was, rooms := holdCopy(rom), holdRooms(rom)
		first, ok := impl.HoldNow(rom)
		scribbled(first)
		second, again := impl.HoldNow(rom)
		want, kept := holdKeeps(was)
		if ok != kept || again != kept || !bytes.Equal(second, want) || holdRooms(rom) != rooms {
			t.Fatalf("%s: what is kept shares memory with the store", holdText(was))
		}
	}
}

func TestHoldPlanIsNewMemory(t *testing.T) {
	for _, rom := range holdOrdinary() {
		first := checkHoldPlan(t, rom, []byte{1, 2, 3})
		for at := range first[:cap(first)] {
			first[:cap(first)][at] = impl.HoldWrite{Kind: 4, Slot: 1, Byte: 77}
		}
		checkHoldPlan(t, rom, []byte{1, 2, 3})
	}
}

// What one call writes no other one waits for or sees, however many there are at once.
func TestHoldAtOnce(t *testing.T) {
	rom := holdOf(holdSlot(165, 1, 1, 2), holdSlot(0, 0, 3))
	var all sync.WaitGroup
	for worker := range 16 {
		all.Go(func() {
			data := holdPattern(50, worker)
			for range 50 {
				plan, ok := impl.HoldPlan(rom, data)
				left := impl.HoldPlay(rom, plan, len(plan))
				if kept, is := impl.HoldNow(left); !ok || !is || !bytes.Equal(kept, data) {
					t.Errorf("worker %d: %s", worker, holdText(left))
				}
			}
		})
	}
	all.Wait()
	if holdText(rom) != "165/1/2:0102 0/0/1:03" {
		t.Error(holdText(rom))
	}
}

func TestHoldOfVeryLargeArguments(t *testing.T) {
	huge := holdPattern(20000000, 1)
	rom := holdOf(holdSlot(165, 0, huge...), holdSlot(165, 1, 5))
	if slot := impl.HoldSlotNow(rom); slot != 1 {
		t.Error(slot)
	}
	if plan, ok := impl.HoldPlan(rom, huge); ok || len(plan) != 0 {
		t.Error(len(plan), ok)
	}
	checkOldOrNew(t, holdOf(holdSlot(165, 0, holdPattern(200000, 1)...), holdSlot(165, 1, 5)), []byte{6})
	left := impl.HoldPlay(rom, []impl.HoldWrite{{Kind: 4, Byte: 1}, {Kind: 3}, {Kind: 4, Byte: 2}}, math.MaxInt)
	if text := holdText(left); text != "165/0/1:02 165/1/1:05" {
		t.Error(text)
	}
	r := rand.New(rand.NewSource(186))
	writes := holdAnyWrites(r, 2000000)
	want := impl.HoldRom{}
	for _, w := range writes {
		want = holdDone(want, w)
	}
	if is := impl.HoldPlay(impl.HoldRom{}, writes, len(writes)); !sameRom(is, want) {
		t.Error(holdText(is))
	}
}
