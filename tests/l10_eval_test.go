package tests

import (
	"fmt"
	"math"
	"math/rand"
	"runtime"
	"slices"
	"strings"
	"sync"
	"testing"
	"time"

	"loop.example/stile/impl"
)

// contactsAsked, verdict, readNet, readArm and readScan are a second reading of chapter 10: all contacts of a net are asked ahead, and what the net says is reckoned from what they said.

// contactsAsked are the contacts that a net asks, in order.
func contactsAsked(n impl.Net) []impl.Elem {
	switch {
	case n.Kind == 1:
		return []impl.Elem{n.One}
	case n.Kind < 2 || n.Kind > 4 || len(n.Kids) == 0:
		return nil
	case n.Kind == 4:
		return contactsAsked(n.Kids[0])
	}
	list := []impl.Elem{}
	for _, kid := range n.Kids {
		list = append(list, contactsAsked(kid)...)
	}
	return list
}

// verdict is what a net says, and what is left of what its contacts have said.
func verdict(n impl.Net, said []bool) (bool, []bool) {
	if n.Kind == 1 {
		return said[0], said[1:]
	}
	if n.Kind < 2 || n.Kind > 4 {
		return true, said
	}
	kids, b := []bool{}, false
	for i, kid := range n.Kids {
		if n.Kind != 4 || i == 0 {
			b, said = verdict(kid, said)
			kids = append(kids, b)
		}
	}
	switch n.Kind {
	case 2:
		return !slices.Contains(kids, false), said
	case 3:
		return slices.Contains(kids, true), said
	}
	return slices.Equal(kids, []bool{false}), said
}

func readNet(m impl.Mem, n impl.Net) (impl.Mem, bool) {
	said, b := []bool{}, false
	for _, e := range contactsAsked(n) {
		m, b = impl.ActTest(m, e)
		said = append(said, b)
	}
	b, _ = verdict(n, said)
	return m, b
}

// readArm goes through all arms in the order in which they are written, each with what came behind the net of the one it hangs on.
func readArm(m impl.Mem, a impl.Arm, v bool, dt uint16) impl.Mem {
	arms, current := []impl.Arm{a}, []bool{v}
	for i := 0; i < len(arms); i++ {
		behind, b := readNet(m, arms[i].Net)
		m, b = behind, b && current[i]
		for _, coil := range arms[i].Coils {
			m = impl.ActDo(m, coil, b, dt)
		}
		arms = slices.Insert(arms, i+1, arms[i].Kids...)
		current = slices.Insert(current, i+1, slices.Repeat([]bool{b}, len(arms)-len(current))...)
	}
	return m
}

// readScan does not ask whether the ladder is accepted.
func readScan(rungs []impl.Arm, m impl.Mem, s impl.ActSample) impl.Mem {
	m = impl.ActStart(m, s)
	for _, rung := range rungs {
		m = readArm(m, rung, true, s.Dt)
	}
	return impl.ActEnd(m)
}

// checkEvalNet holds a net against the second reading, and gives what is behind it.
func checkEvalNet(t *testing.T, m impl.Mem, n impl.Net) (impl.Mem, bool) {
	t.Helper()
	want, lets := readNet(m, n)
	got, b := impl.EvalNet(m, n)
	if b != lets || !sameMem(got, want) {
		t.Errorf("%s of %q: %v and %q, not %v and %q", brief(fmt.Sprint(n)), impl.MemText(m), b, impl.MemText(got), lets, impl.MemText(want))
	}
	return got, b
}

func checkEvalArm(t *testing.T, m impl.Mem, a impl.Arm, v bool, dt uint16) impl.Mem {
	t.Helper()
	want := readArm(m, a, v, dt)
	got := impl.EvalArm(m, a, v, dt)
	if !sameMem(got, want) {
		t.Errorf("%s with %v and %d of %q: %q, not %q", brief(fmt.Sprint(a)), v, dt, impl.MemText(m), impl.MemText(got), impl.MemText(want))
	}
	return got
}

// checkEvalRun holds scans by an accepted ladder against the second reading: each alone, and all at once.
func checkEvalRun(t *testing.T, rungs []impl.Arm, m impl.Mem, samples []impl.ActSample) impl.Mem {
	t.Helper()
	behind := m
	for i, s := range samples {
		want := readScan(rungs, behind, s)
		got, one := impl.EvalScan(rungs, behind, s), impl.EvalRun(rungs, behind, samples[i:i+1])
		if !sameMem(got, want) || !sameMem(one, want) {
			t.Errorf("%s: scan %d with %v of %q: %q and %q, not %q", brief(spelt(rungs)), i, s, impl.MemText(behind), impl.MemText(got), impl.MemText(one), impl.MemText(want))
		}
		behind = want
	}
	if got := impl.EvalRun(rungs, m, samples); !sameMem(got, behind) {
		t.Errorf("%s: %d scans of %q: %q, not %q", brief(spelt(rungs)), len(samples), impl.MemText(m), impl.MemText(got), impl.MemText(behind))
	}
	return behind
}

// ticksOf are samples with these X and so many ticks each.
func ticksOf(dt uint16, xs ...uint32) []impl.ActSample {
	list := []impl.ActSample{}
	for _, x := range xs {
		list = append(list, impl.ActSample{X: x, Dt: dt})
	}
	return list
}

// anySamples are samples by chance, with few inputs on and few ticks, so that what is asked turns often.
func anySamples(r *rand.Rand, count int) []impl.ActSample {
	reals := []float64{0, negZero(), 1.5, -2, 40000, math.NaN(), math.Inf(1), math.Inf(-1)}
	list := []impl.ActSample{}
	for range count {
		s := impl.ActSample{X: r.Uint32() & 3, Dt: []uint16{0, 1, 2, 3, 250, 65535}[r.Intn(6)]}
		if r.Intn(8) == 0 {
			s.X = r.Uint32()
		}
		for i := range s.In {
			s.In[i] = reals[r.Intn(len(reals))]
		}
		list = append(list, s)
	}
	return list
}

// closeContacts and closeCoils have few devices, so that much of a ladder asks what another part of it has changed.
func closeContacts() []string {
	return strings.Fields("X0 X1 /X0 /X1 Y0 /Y0 Y1 M0 /M0 M1 S0 S1 /S8 T0 /T0 T1 C0 /C0 C1 G0 G1 G2 G3 G4 +X0:E0 -X0:E0 +X1:E0 -X1:E1 +M0:E1 -Y0:E2 +T0:E3 -C0:E3 +G4:E4 D0<D1 D0<=3 D1=2 D1<>T0 C0>=2 D0>-3 R0<R12 R0<=1.5 R1=R13 R1<>nan R14>=0.0 R0>-0.0")
}

func closeCoils() []string {
	return strings.Fields("out:Y0 out:M0 out:Y1 set:M0 set:Y0 set:S0 set:S9 reset:M0 reset:Y1 reset:S1 reset:T0 reset:C0 pulse:M1,E4 pulse:Y0,E2 step:S0 step:S1 step:S8 timer:T0,5 timer:T1,0 hold:T0,7 hold:T1,9 late:T0,4 late:T1,600 count:C0,2 count:C1,3 move:D0,5 move:D1,C0 move:R0,R12 add:D0,D0,1 sub:D1,D1,3 mul:D0,D0,D1 div:D1,D0,D1 rem:D0,D0,D1 add:R0,R0,1.5 div:R1,R0,R15 real:R0,C0 whole:D0,R0 move:R13,R0")
}

// closeNet and closeArm are right nets and arms by chance, of always the same chances.
func closeNet(r *rand.Rand, deep int) impl.Net {
	if deep == 0 || r.Intn(3) == 0 {
		contacts := closeContacts()
		return contactOf(contacts[r.Intn(len(contacts))])
	}
	n := impl.Net{Kind: 2 + r.Intn(3)}
	for range 1 + r.Intn(3) {
		n.Kids = append(n.Kids, closeNet(r, deep-1))
	}
	if n.Kind == 4 {
		n.Kids = n.Kids[:1]
	}
	return n
}

func closeArm(r *rand.Rand, deep int, rung bool) impl.Arm {
	a, coils := impl.Arm{}, closeCoils()
	if rung || r.Intn(2) == 0 {
		a.Net = closeNet(r, r.Intn(4))
	}
	for range r.Intn(4) {
		a.Coils = append(a.Coils, elemSure(coils[r.Intn(len(coils))]))
	}
	for range r.Intn(4) {
		if deep > 0 {
			a.Kids = append(a.Kids, closeArm(r, deep-1, false))
		}
	}
	if len(a.Coils)+len(a.Kids) == 0 {
		a.Coils = []impl.Elem{elemSure(coils[r.Intn(len(coils))])}
	}
	return a
}

// closeLadders are accepted ladders by chance.
func closeLadders(seed int64, count int) [][]impl.Arm {
	r, list := rand.New(rand.NewSource(seed)), [][]impl.Arm{}
	for len(list) < count {
		rungs := []impl.Arm{}
		for range 1 + r.Intn(5) {
			rungs = append(rungs, closeArm(r, r.Intn(4), true))
		}
		if faultOf(rungs).Code == 0 {
			list = append(list, rungs)
		}
	}
	return list
}

func exampleLadder() []impl.Arm {
	return ladderSure("and( X0 /M0 ) -> out:Y0 [ +X1:E0 -> count:C0,2 | C0 -> set:M0 ]\nM0 -> timer:T0,5 real:R0,C0\nT0 -> reset:M0 reset:C0")
}

// evalLadders are of all sorts: those of the chapters, with each branch, each sort of contact and coil, as large as may be, and by chance.
func evalLadders() [][]impl.Arm {
	list := append(normalLadders(), exampleLadder(), branched(), nil, []impl.Arm{})
	for _, c := range goodRungs() {
		list = append(list, c.rungs)
	}
	list = append(list, append(grown(400), grownLoose(400)...)...)
	contacts, coils := contactsAndCoils()
	coils = append(coils, closeCoils()...)
	for i, contact := range append(contacts, closeContacts()...) {
		some := coils[i%(len(coils)-4):][:5]
		list = append(list, ladderSure("or( "+contact+" X0 ) -> "+some[0]+" [ not( "+contact+" ) -> "+strings.Join(some, " ")+" ]"))
	}
	return append(list, closeLadders(100, 200)...)
}

func TestEvalBounds(t *testing.T) {
	if impl.EvalMaxScans != 100 {
		t.Error(impl.EvalMaxScans)
	}
}

// The chapter's example, scan by scan, all at once, and in normal form.
func TestEvalExample(t *testing.T) {
	rungs, samples := exampleLadder(), ticksOf(2, 1, 3, 1, 3, 3, 3, 3)
	m := impl.Mem{}
	for i, want := range []string{
		"X0 Y0 time=2 ran", "X0 X1 Y0 E0 C0=1+ time=4 ran", "X0 Y0 C0=1 time=6 ran", "X0 X1 Y0 M0 E0 T0=2 C0=2!+ R0=1*2^1 time=8 ran",
		"X0 X1 M0 E0 T0=4 C0=2! R0=1*2^1 time=10 ran", "X0 X1 E0 T0=5! R0=1*2^1 time=12 ran", "X0 X1 Y0 E0 R0=1*2^1 time=14 ran",
	} {
		m = impl.EvalScan(rungs, m, samples[i])
		if got := impl.MemText(m); got != want {
			t.Errorf("behind scan %d: %q, not %q", i, got, want)
		}
		if got := impl.MemText(impl.EvalRun(rungs, impl.Mem{}, samples[:i+1])); got != want {
			t.Errorf("behind %d scans at once: %q, not %q", i+1, got, want)
		}
		if got := impl.MemText(impl.EvalRun(impl.NormMake(rungs), impl.Mem{}, samples[:i+1])); got != want {
			t.Errorf("behind %d scans of the normal form: %q, not %q", i+1, got, want)
		}
	}
	checkEvalRun(t, rungs, impl.Mem{}, samples)
}

// netSaid is a memory, a net, what it says, and the memory behind it.
type netSaid struct {
	mem, net string
	lets     bool
	behind   string
}

func netsSaid() []netSaid {
	return []netSaid{
		// Contacts alone.
		{"X0", "X0", true, "X0"}, {"", "X0", false, ""}, {"X0", "/X0", false, "X0"}, {"", "/X0", true, ""}, {"X0", "+X0:E0", true, "X0 E0"}, {"X0 E0", "+X0:E0", false, "X0 E0"}, {"E0", "-X0:E0", true, ""}, {"D1=4", "D1<5", true, "D1=4"}, {"D1=5", "D1<5", false, "D1=5"}, {"R1=nan", "R1<>R1", true, "R1=nan"},
		// NetAnd, NetOr and NetNot.
		{"", "and( X0 X1 )", false, ""}, {"X0", "and( X0 X1 )", false, "X0"}, {"X1", "and( X0 X1 )", false, "X1"}, {"X0 X1", "and( X0 X1 )", true, "X0 X1"}, {"X0 X1", "and( X0 X1 X2 )", false, "X0 X1"}, {"X0 X1 X2", "and( X0 X1 X2 )", true, "X0 X1 X2"},
		{"", "or( X0 X1 )", false, ""}, {"X0", "or( X0 X1 )", true, "X0"}, {"X1", "or( X0 X1 )", true, "X1"}, {"X0 X1", "or( X0 X1 )", true, "X0 X1"}, {"X2", "or( X0 X1 X2 )", true, "X2"}, {"X3", "or( X0 X1 X2 )", false, "X3"},
		{"", "not( X0 )", true, ""}, {"X0", "not( X0 )", false, "X0"}, {"X0", "and( X0 )", true, "X0"}, {"", "and( X0 )", false, ""}, {"X0", "or( X0 )", true, "X0"}, {"", "or( X0 )", false, ""},
		// Within one another.
		{"", "not( not( X0 ) )", false, ""}, {"X0", "not( not( X0 ) )", true, "X0"}, {"", "not( and( X0 X1 ) )", true, ""}, {"X0 X1", "not( and( X0 X1 ) )", false, "X0 X1"}, {"", "not( or( X0 X1 ) )", true, ""}, {"X1", "not( or( X0 X1 ) )", false, "X1"},
		{"X0", "and( X0 or( X1 /M2 ) )", true, "X0"}, {"X0 M2", "and( X0 or( X1 /M2 ) )", false, "X0 M2"}, {"X0 X1 M2", "and( X0 or( X1 /M2 ) )", true, "X0 X1 M2"}, {"X1", "and( X0 or( X1 /M2 ) )", false, "X1"}, {"X2", "or( and( X0 X1 ) X2 )", true, "X2"}, {"X0", "or( and( X0 X1 ) X2 )", false, "X0"},
		{"X0", "or( and( X0 not( X1 ) ) and( X1 not( X0 ) ) )", true, "X0"}, {"X0 X1", "or( and( X0 not( X1 ) ) and( X1 not( X0 ) ) )", false, "X0 X1"}, {"X1", "or( and( X0 not( X1 ) ) and( X1 not( X0 ) ) )", true, "X1"}, {"", "or( and( X0 not( X1 ) ) and( X1 not( X0 ) ) )", false, ""},
		// P33: an edge behind a contact that lets nothing through, beside one that lets current through, and within a NetNot.
		{"X1", "and( G1 +X1:E0 )", false, "X1 E0"}, {"E0", "and( G1 +X1:E0 )", false, ""}, {"X1", "and( G1 -X1:E0 )", false, "X1 E0"}, {"E0", "and( G1 -X1:E0 )", false, ""}, {"X1", "or( G0 +X1:E0 )", true, "X1 E0"}, {"E0", "or( G0 +X1:E0 )", true, ""}, {"X1", "or( G0 -X1:E0 )", true, "X1 E0"}, {"E0", "or( G0 -X1:E0 )", true, ""},
		{"X1", "and( +X1:E0 G1 )", false, "X1 E0"}, {"X1", "or( +X1:E0 G0 )", true, "X1 E0"}, {"X1", "not( +X1:E0 )", false, "X1 E0"}, {"E0", "not( +X1:E0 )", true, ""}, {"E0", "not( -X1:E0 )", false, ""}, {"X1", "not( not( +X1:E0 ) )", true, "X1 E0"},
		{"X1", "and( G0 G1 G0 +X1:E0 )", false, "X1 E0"}, {"X1", "or( G1 G0 G1 +X1:E0 )", true, "X1 E0"}, {"X1", "and( G1 or( G0 not( +X1:E0 ) ) )", false, "X1 E0"}, {"X1", "or( G0 and( G1 not( +X1:E0 ) ) )", true, "X1 E0"}, {"X1", "not( and( G1 +X1:E0 ) )", true, "X1 E0"}, {"X1", "not( or( G0 +X1:E0 ) )", false, "X1 E0"},
		{"X1 X2", "and( G1 +X1:E0 +X2:E1 )", false, "X1 X2 E0 E1"}, {"X1 X2", "or( +X1:E0 +X2:E1 +X3:E2 )", true, "X1 X2 E0 E1"}, {"X2 E0 E2", "and( +X1:E0 +X2:E1 +X3:E2 )", false, "X2 E1"}, {"X2 E0", "or( not( and( G1 -X1:E0 ) ) +X2:E1 )", true, "X2 E1"},
		// From the left to the right, each with the memory as those ahead have left it: edges with one E.
		{"X0", "and( +X0:E0 +X0:E0 )", false, "X0 E0"}, {"X0", "or( +X0:E0 +X0:E0 )", true, "X0 E0"}, {"X0", "or( +X0:E0 +X1:E0 )", true, "X0"}, {"X0", "or( +X1:E0 +X0:E0 )", true, "X0 E0"}, {"X0", "and( +X0:E0 -X1:E0 )", true, "X0"}, {"X0", "and( -X1:E0 +X0:E0 )", false, "X0 E0"},
		{"X0", "not( and( +X0:E0 -X1:E0 ) )", false, "X0"}, {"X0", "and( or( G0 +X0:E0 ) -X1:E0 )", true, "X0"}, {"X0", "and( not( -X0:E0 ) -X1:E0 )", true, "X0"}, {"X0", "or( and( G1 +X0:E0 ) -X1:E0 )", true, "X0"}, {"X0", "or( -X1:E0 and( G1 +X0:E0 ) )", false, "X0 E0"}, {"X0", "and( +X0:E0 +X1:E0 +X0:E0 )", false, "X0 E0"}, {"X0", "or( +X1:E0 -X0:E0 and( +X0:E0 -X1:E0 ) )", false, "X0"},
	}
}

// Nets that are written out here: alone, as the net of an arm to which current comes or not, and of a rung and a kid.
func TestNetsSaid(t *testing.T) {
	for _, c := range netsSaid() {
		m, n := memRead(t, c.mem), netSure(c.net)
		if got, b := checkEvalNet(t, m, n); b != c.lets || impl.MemText(got) != c.behind {
			t.Errorf("%s of %q: %v and %q, not %v and %q", c.net, c.mem, b, impl.MemText(got), c.lets, c.behind)
		}
		for _, v := range []bool{false, true} {
			want := impl.MemPut(memRead(t, c.behind), operand(2, 9, 0), v && c.lets)
			for _, a := range []impl.Arm{armOf(n, "out:Y9"), armOf(n, "", armOf(impl.Net{}, "out:Y9")), armOf(impl.Net{}, "", armOf(n, "out:Y9")), armOf(contactOf("G0"), "", armOf(impl.Net{}, "", armOf(n, "", armOf(contactOf("G0"), "out:Y9"))))} {
				if got := checkEvalArm(t, m, a, v, 5); !sameMem(got, want) {
					t.Errorf("%v with %v of %q: %q, not %q", a, v, c.mem, impl.MemText(got), impl.MemText(want))
				}
			}
			want.Ran = true
			gate := map[bool]string{false: "G1", true: "G0"}[v]
			rungs := ladderSure("G1 -> out:Y8\n" + gate + " -> [ " + c.net + " -> out:Y9 ]")
			if got := impl.EvalScan(rungs, m, impl.ActSample{X: m.X}); !sameMem(got, want) {
				t.Errorf("%s of %q: %q, not %q", spelt(rungs), c.mem, impl.MemText(got), impl.MemText(want))
			}
		}
	}
}

// Every net of up to six nets on every input, of open and shut contacts; and of edges, each of which remembers its bit.
func TestEachShapeIsAsked(t *testing.T) {
	known, met := map[int][]impl.Net{}, 0
	for count := 1; count <= 6; count++ {
		for _, n := range shapes(count, known) {
			open := numbered([]impl.Arm{armOf(n, "out:Y0")})[0].Net
			contacts := len(contactsAsked(open))
			edges := cloneArms([]impl.Arm{{Net: open}})
			for _, e := range elemPlaces(edges) {
				if e.Op == 1 {
					*e = elemSure(fmt.Sprintf("+X%d:E%d", e.Args[0].N, e.Args[0].N))
				}
			}
			for x := range uint32(1) << contacts {
				met++
				got, b := checkEvalNet(t, impl.Mem{X: x, M: 7}, open)
				if got != (impl.Mem{X: x, M: 7}) {
					t.Errorf("%s: changes %q", speltNet(open), impl.MemText(got))
				}
				if got, edge := checkEvalNet(t, impl.Mem{X: x}, edges[0].Net); got != (impl.Mem{X: x, E: x}) || edge != b {
					t.Errorf("%s of X %b: %v, with edges %v and %q", speltNet(open), x, b, edge, impl.MemText(got))
				}
			}
		}
	}
	if met < 3000 {
		t.Errorf("%d nets and inputs", met)
	}
}

// P33: a net behind one that lets nothing through, or beside one that lets current through, leaves the memory as it does alone; and so does it at the end of an arm without current.
func TestEachContactIsAsked(t *testing.T) {
	r, changes := rand.New(rand.NewSource(33)), 0
	shut, open := []impl.Net{contactOf("G1"), contactOf("/G0"), orOf(), notOf(), notOf(impl.Net{}), contactOf("1<0")}, []impl.Net{contactOf("G0"), contactOf("/G1"), andOf(), {}, notOf(orOf()), contactOf("nan<>nan")}
	for i, m := range slices.Concat(actMems(), anyMems(40)) {
		for range 20 {
			n := closeNet(r, 3)
			alone, lets := checkEvalNet(t, m, n)
			if !sameMem(alone, m) {
				changes++
			}
			z, w := shut[i%len(shut)], open[i%len(open)]
			for _, c := range []struct {
				net  impl.Net
				lets bool
			}{
				{andOf(z, n), false}, {andOf(n, z), false}, {orOf(w, n), true}, {orOf(n, w), true}, {andOf(w, n), lets}, {orOf(z, n), lets}, {notOf(n), !lets}, {andOf(z, z, orOf(w, notOf(n))), false}, {orOf(w, andOf(z, n), z), true}, {notOf(andOf(z, n)), true}, {notOf(orOf(w, n)), false},
			} {
				if got, b := checkEvalNet(t, m, c.net); b != c.lets || !sameMem(got, alone) {
					t.Errorf("%v of %q: %v and %q, not %v and %q", c.net, impl.MemText(m), b, impl.MemText(got), c.lets, impl.MemText(alone))
				}
			}
			other := closeNet(r, 2)
			ahead, _ := impl.EvalNet(m, other)
			both, _ := impl.EvalNet(ahead, n)
			for _, net := range []impl.Net{andOf(other, n), orOf(other, n), andOf(notOf(other), n), orOf(other, z, notOf(n))} {
				if got, _ := checkEvalNet(t, m, net); !sameMem(got, both) {
					t.Errorf("%v of %q: %q, but one behind the other %q", net, impl.MemText(m), impl.MemText(got), impl.MemText(both))
				}
			}
			for _, a := range []impl.Arm{armOf(n, ""), armOf(n, "set:Y30 add:D30,D30,1 hold:T15,9"), armOf(z, "", armOf(n, "set:Y30")), armOf(impl.Net{}, "", armOf(impl.Net{}, "", armOf(n, "")))} {
				if got := checkEvalArm(t, m, a, false, 3); !sameMem(got, alone) {
					t.Errorf("%v without current of %q: %q, not %q", a, impl.MemText(m), impl.MemText(got), impl.MemText(alone))
				}
			}
		}
	}
	if changes < 100 {
		t.Errorf("%d nets change the memory", changes)
	}
}

// oddKinds are none of the five.
func oddKinds() []int {
	return []int{-1, 5, 6, -2, -4, 255, 257, 258, 259, 260, 1<<32 + 1, 1<<32 + 2, 1<<32 + 3, 1<<32 + 4, math.MinInt, math.MaxInt}
}

// Nets that are not right: One is looked at for a NetContact alone, Kids for the other three alone.
func TestOddNets(t *testing.T) {
	up, other := elemSure("+X0:E0"), contactOf("+X1:E1")
	x, none := contactOf("X0"), impl.Net{}
	for _, c := range []struct {
		net    impl.Net
		lets   bool
		behind string
	}{
		{impl.Net{Kind: 2}, true, "X0 X1"}, {impl.Net{Kind: 3}, false, "X0 X1"}, {impl.Net{Kind: 4}, false, "X0 X1"}, {andOf([]impl.Net{}...), true, "X0 X1"}, {impl.Net{Kind: 4, Kids: []impl.Net{}}, false, "X0 X1"}, {none, true, "X0 X1"}, {impl.Net{Kind: 3, Kids: []impl.Net{}}, false, "X0 X1"},
		{impl.Net{Kind: 1, One: up}, true, "X0 X1 E0"}, {impl.Net{Kind: 1, One: up, Kids: []impl.Net{other}}, true, "X0 X1 E0"}, {impl.Net{Kind: 1, One: elemSure("/X0"), Kids: []impl.Net{other, x}}, false, "X0 X1"}, {impl.Net{Kind: 1, Kids: []impl.Net{other}}, false, "X0 X1"}, {impl.Net{Kind: 1}, false, "X0 X1"}, {impl.Net{Kind: 1, One: elemSure("out:Y0")}, false, "X0 X1"},
		{impl.Net{Kind: 1, One: impl.Elem{Op: 1, Args: []impl.DevArg{operand(1, 33, 5)}}}, true, "X0 X1"}, {impl.Net{Kind: 1, One: impl.Elem{Op: 3, Args: []impl.DevArg{operand(1, 0, 0)}}}, true, "X0 X1"}, {impl.Net{Kind: 1, One: impl.Elem{Op: 2}}, true, "X0 X1"}, {impl.Net{Kind: 1, One: impl.Elem{Op: 11, Args: up.Args}}, false, "X0 X1"},
		{impl.Net{Kind: 0, One: up, Kids: []impl.Net{other}}, true, "X0 X1"}, {impl.Net{Kind: 0, One: elemSure("/X0")}, true, "X0 X1"}, {impl.Net{Kind: 0, Kids: []impl.Net{contactOf("/X0")}}, true, "X0 X1"},
		{impl.Net{Kind: 2, One: up}, true, "X0 X1"}, {impl.Net{Kind: 2, One: elemSure("/X0"), Kids: []impl.Net{other}}, true, "X0 X1 E1"}, {impl.Net{Kind: 3, One: up}, false, "X0 X1"}, {impl.Net{Kind: 3, One: up, Kids: []impl.Net{contactOf("/X0")}}, false, "X0 X1"}, {impl.Net{Kind: 4, One: up}, false, "X0 X1"}, {impl.Net{Kind: 4, One: up, Kids: []impl.Net{x}}, false, "X0 X1"}, {impl.Net{Kind: 4, One: up, Kids: []impl.Net{other}}, false, "X0 X1 E1"},
		{notOf(x, other), false, "X0 X1"}, {notOf(contactOf("/X0"), other), true, "X0 X1"}, {notOf(contactOf("/X0"), x, x), true, "X0 X1"}, {notOf(other, impl.Net{Kind: 1, One: up}), false, "X0 X1 E1"}, {notOf(none, other), false, "X0 X1"}, {notOf(notOf(), other), true, "X0 X1"}, {notOf(orOf(), other), true, "X0 X1"}, {notOf(andOf(), other), false, "X0 X1"},
		{andOf(none), true, "X0 X1"}, {andOf(none, none, other), true, "X0 X1 E1"}, {andOf(orOf(), other), false, "X0 X1 E1"}, {andOf(andOf(), x), true, "X0 X1"}, {orOf(none), true, "X0 X1"}, {orOf(orOf(), none), true, "X0 X1"}, {orOf(orOf(), notOf()), false, "X0 X1"}, {orOf(none, other), true, "X0 X1 E1"}, {andOf(notOf(other, x), x), false, "X0 X1 E1"}, {orOf(notOf(x, other), other), true, "X0 X1 E1"},
	} {
		if got, b := checkEvalNet(t, impl.Mem{X: 3}, c.net); b != c.lets || impl.MemText(got) != c.behind {
			t.Errorf("%v: %v and %q, not %v and %q", c.net, b, impl.MemText(got), c.lets, c.behind)
		}
		for _, v := range []bool{false, true} {
			want := impl.MemPut(memRead(t, c.behind), operand(2, 9, 0), v && c.lets)
			if got := checkEvalArm(t, impl.Mem{X: 3}, armOf(c.net, "out:Y9"), v, 0); !sameMem(got, want) {
				t.Errorf("%v as the net of an arm with %v: %q, not %q", c.net, v, impl.MemText(got), impl.MemText(want))
			}
		}
	}
	for _, kind := range oddKinds() {
		for _, n := range []impl.Net{{Kind: kind}, {Kind: kind, One: up}, {Kind: kind, One: up, Kids: []impl.Net{other, orOf()}}, {Kind: kind, Kids: []impl.Net{notOf(), contactOf("/X0")}}} {
			for _, c := range []struct {
				net  impl.Net
				lets bool
			}{{n, true}, {andOf(n, n), true}, {orOf(orOf(), n), true}, {notOf(n), false}, {notOf(notOf(n), other), true}} {
				if got, b := checkEvalNet(t, impl.Mem{X: 3}, c.net); b != c.lets || got != (impl.Mem{X: 3}) {
					t.Errorf("%v: %v and %q", c.net, b, impl.MemText(got))
				}
			}
		}
	}
}

// Every small net of any Kind, with anything in One and Kids, alone and in an arm.
func TestSmallNetsAreAsked(t *testing.T) {
	x, edge := contactOf("X0"), contactOf("+X1:E1")
	kids := [][]impl.Net{nil, {}}
	for _, a := range []impl.Net{{}, x, {Kind: 1}, edge, notOf(x), notOf(edge, x), andOf(), orOf(), orOf(edge, impl.Net{}), {Kind: 9, Kids: []impl.Net{edge}}, {Kind: 1, One: edge.One, Kids: []impl.Net{x}}} {
		kids = append(kids, []impl.Net{a}, []impl.Net{a, edge}, []impl.Net{edge, a}, []impl.Net{x, a, edge})
	}
	for _, n := range smallNets(kids) {
		for _, m := range []impl.Mem{{}, {X: 1}, {X: 2}, {X: 3, E: 2}, {E: 2}, {X: 1, E: 2}} {
			checkEvalNet(t, m, n)
			n := impl.Net{Kind: n.Kind, One: edge.One, Kids: n.Kids}
			checkEvalNet(t, m, n)
			for _, v := range []bool{false, true} {
				checkEvalArm(t, m, armOf(n, "out:Y0 timer:T0,9", armOf(edge, "out:Y1"), armOf(impl.Net{}, "pulse:Y2,E1")), v, 4)
			}
		}
	}
}

// armDone is a memory, a rung, whether current comes to it, the ticks, and the memory behind.
type armDone struct {
	mem, rung string
	v         bool
	dt        uint16
	behind    string
}

func armsDone() []armDone {
	return []armDone{
		{"X0", "X0 -> out:Y0", true, 0, "X0 Y0"}, {"X0", "X0 -> out:Y0", false, 0, "X0"}, {"X0 Y0", "X0 -> out:Y0", false, 0, "X0"}, {"Y0", "X0 -> out:Y0", true, 0, ""}, {"", "not( X0 ) -> out:Y0", true, 0, "Y0"}, {"Y0", "not( X0 ) -> out:Y0", false, 0, ""},
		// Several coils, in order.
		{"X0", "X0 -> move:D0,5 add:D0,D0,1 move:D1,D0", true, 0, "X0 D0=6 D1=6"}, {"X0", "X0 -> move:D1,D0 add:D0,D0,1 move:D0,5", true, 0, "X0 D0=5"}, {"X0", "X0 -> set:M0 reset:M0", true, 0, "X0"}, {"X0", "X0 -> reset:M0 set:M0", true, 0, "X0 M0"}, {"M0", "X0 -> set:M1 out:M0 out:Y1", true, 0, ""},
		// An edge in an arm to which no current comes, and in one behind a net that lets none through.
		{"X1", "+X1:E0 -> out:Y0", false, 0, "X1 E0"}, {"X1", "+X1:E0 -> out:Y0", true, 0, "X1 Y0 E0"}, {"E0", "-X1:E0 -> set:Y0", false, 0, ""}, {"X1 Y1 Y2", "G1 -> set:Y0 [ +X1:E0 -> out:Y1 | -> out:Y2 ]", true, 0, "X1 E0"}, {"X1 X2", "G1 -> [ +X1:E0 -> [ G0 -> [ +X2:E1 -> set:Y0 | -X1:E2 -> set:Y1 ] ] ]", true, 0, "X1 X2 E0 E1 E2"},
		{"X1", "G1 -> [ G1 -> set:Y0 | -> [ or( G0 +X1:E0 ) -> set:Y1 ] ]", true, 0, "X1 E0"}, {"X1", "and( G1 +X1:E0 ) -> pulse:Y0,E1 [ +X1:E2 -> pulse:Y1,E3 ]", true, 0, "X1 E0 E2"},
		// Kids of kids, with current and without.
		{"X0 X1", "X0 -> [ X1 -> out:Y0 [ X2 -> out:Y1 | /X2 -> out:Y2 ] | -> out:Y3 ]", true, 0, "X0 X1 Y0 Y2 Y3"}, {"X0", "X0 -> [ X1 -> out:Y0 [ X2 -> out:Y1 | /X2 -> out:Y2 ] | -> out:Y3 ]", true, 0, "X0 Y3"}, {"X1 Y0 Y1 Y2 Y3", "X0 -> [ X1 -> out:Y0 [ X2 -> out:Y1 | /X2 -> out:Y2 ] | -> out:Y3 ]", true, 0, "X1"}, {"X0 X1 Y0 Y3", "X0 -> [ X1 -> out:Y0 [ X2 -> out:Y1 | /X2 -> out:Y2 ] | -> out:Y3 ]", false, 0, "X0 X1"},
		// Each arm with its kids ahead of the next one.
		{"", "G0 -> move:D0,1 [ -> mul:D0,D0,3 [ -> add:D0,D0,4 [ -> mul:D0,D0,5 ] | -> sub:D0,D0,2 ] | -> mul:D0,D0,7 | -> add:D0,D0,1 [ -> mul:D0,D0,2 ] ]", true, 0, "D0=464"}, {"", "G0 -> [ -> [ -> add:D0,D0,1 | -> mul:D0,D0,10 ] | -> add:D0,D0,2 [ -> mul:D0,D0,10 | -> add:D0,D0,3 ] | -> mul:D0,D0,10 ]", true, 0, "D0=1230"},
		// A coil changes a device that the net of its own arm asks, or of a kid: kids have what came behind the net, their own nets ask the memory as it is.
		{"", "/M0 -> set:M0 out:Y0 [ -> out:Y1 | M0 -> out:Y2 | /M0 -> out:Y3 ]", true, 0, "Y0 Y1 Y2 M0"}, {"M0", "M0 -> reset:M0 out:Y0 [ -> out:Y1 | M0 -> out:Y2 | /M0 -> out:Y3 [ -> set:M0 | M0 -> out:Y4 ] | M0 -> out:Y5 ]", true, 0, "Y0 Y1 Y3 Y4 Y5 M0"},
		{"X0 M0", "and( M0 X0 ) -> out:M1 reset:M0 out:M2 [ -> out:M3 [ -> out:M4 | M0 -> out:M5 ] | -> out:M6 ]", true, 0, "X0 M1 M2 M3 M4 M6"}, {"M1", "/M0 -> out:M0 [ M0 -> reset:M0 [ -> out:Y0 | M0 -> out:Y1 ] | M0 -> out:Y2 | -> out:Y3 ]", true, 0, "Y0 Y3 M1"}, {"D0=1", "D0=1 -> add:D0,D0,1 [ -> add:D0,D0,1 | D0=1 -> set:Y0 | D0=3 -> add:D0,D0,10 [ -> out:Y1 ] | -> out:Y2 ]", true, 0, "Y1 Y2 D0=13"},
		// The ticks come to every coil, also where current does not.
		{"X0 X1 T3=9", "X0 -> timer:T0,50 [ -> timer:T1,50 [ X1 -> timer:T2,50 ] | /X0 -> timer:T3,50 ]", true, 7, "X0 X1 T0=7 T1=7 T2=7"}, {"X0 X1 T0=5 T2=50!", "X0 -> timer:T0,50 [ -> timer:T1,50 [ X1 -> timer:T2,50 ] | /X0 -> timer:T3,50 ]", false, 7, "X0 X1"}, {"T0=2! T1=60!", "X0 -> late:T0,50 [ X1 -> hold:T1,90 | -> late:T1,90 ]", true, 7, "T0=9! T1=67!"}, {"X0", "X0 -> timer:T0,3 hold:T0,65 [ -> hold:T0,32767 ]", true, 65535, "X0 T0=32767!"},
		{"X0 X1", "X0 -> count:C0,2 [ X1 -> count:C0,2 | /X1 -> count:C0,2 | -> count:C0,2 ]", true, 0, "X0 X1 C0=2!+"}, {"", "G0 -> div:D0,1,0 [ G3 -> out:Y0 | -> rem:D0,7,4 ]", true, 0, "Y0 D0=3 fault"}, {"", "G0 -> out:Y0", true, 65535, "Y0"},
	}
}

// Arms that are written out here, and behind an arm without a net of its own.
func TestArmsDone(t *testing.T) {
	for _, c := range armsDone() {
		m, a := memRead(t, c.mem), ladderSure(c.rung)[0]
		for _, arm := range []impl.Arm{a, armOf(impl.Net{}, "", a), armOf(impl.Net{}, "", armOf(impl.Net{}, "", a))} {
			if got := impl.MemText(checkEvalArm(t, m, arm, c.v, c.dt)); got != c.behind {
				t.Errorf("%s with %v and %d of %q: %q, not %q", c.rung, c.v, c.dt, c.mem, got, c.behind)
			}
		}
		want := memRead(t, c.behind)
		want.Ran, want.Time = true, uint32(c.dt)
		if c.v {
			if got := checkEvalRun(t, []impl.Arm{a}, m, []impl.ActSample{{X: m.X, Dt: c.dt}}); !sameMem(got, want) {
				t.Errorf("%s with %d, as a scan of %q: %q, not %q", c.rung, c.dt, c.mem, impl.MemText(got), impl.MemText(want))
			}
		}
	}
}

// Arms that no ladder may have as rungs, or at all: without a net, with nothing behind it, with coils that are none.
func TestOddArms(t *testing.T) {
	none, up := impl.Net{}, contactOf("+X0:E0")
	odd := []impl.Elem{{}, {Op: 21}, elemSure("X0"), up.One, {Op: 21, Args: []impl.DevArg{operand(2, 35, 1)}}, {Op: 99, Args: up.One.Args}}
	for _, c := range []struct {
		arm     impl.Arm
		on, off string
	}{
		{impl.Arm{}, "X0 Y2", "X0 Y2"}, {impl.Arm{Coils: []impl.Elem{}, Kids: []impl.Arm{}}, "X0 Y2", "X0 Y2"}, {armOf(up, ""), "X0 Y2 E0", "X0 Y2 E0"}, {armOf(none, "", armOf(up, "")), "X0 Y2 E0", "X0 Y2 E0"}, {armOf(none, "", impl.Arm{}, impl.Arm{}), "X0 Y2", "X0 Y2"},
		{armOf(none, "out:Y0 out:Y2"), "X0 Y0 Y2", "X0"}, {armOf(none, "set:Y0 reset:Y2"), "X0 Y0", "X0 Y2"}, {armOf(none, "out:Y0", armOf(none, "out:Y1"), armOf(up, "out:Y2")), "X0 Y0 Y1 Y2 E0", "X0 E0"}, {armOf(none, "", armOf(none, "out:Y1", armOf(contactOf("/X0"), "out:Y2"))), "X0 Y1", "X0"},
		{impl.Arm{Coils: odd}, "X0 Y2 Y3", "X0 Y2"}, {impl.Arm{Net: orOf(), Coils: odd, Kids: []impl.Arm{armOf(none, "out:Y2")}}, "X0", "X0"}, {impl.Arm{Net: notOf(orOf(), up), Coils: odd[1:2], Kids: []impl.Arm{armOf(none, "out:Y0")}}, "X0 Y0 Y2", "X0 Y2"}, {impl.Arm{Net: impl.Net{One: up.One, Kids: []impl.Net{up}}, Kids: []impl.Arm{armOf(none, "out:Y2")}}, "X0 Y2", "X0"},
	} {
		m := memRead(t, "X0 Y2")
		if got := impl.MemText(checkEvalArm(t, m, c.arm, true, 3)); got != c.on {
			t.Errorf("%v with current: %q, not %q", c.arm, got, c.on)
		}
		if got := impl.MemText(checkEvalArm(t, m, c.arm, false, 3)); got != c.off {
			t.Errorf("%v without current: %q, not %q", c.arm, got, c.off)
		}
	}
}

// P34: scans that are written out here: ActStart, the rungs in order, each with the memory as the one ahead has left it, ActEnd.
func TestScansWrittenOut(t *testing.T) {
	in := [4]float64{2.5, math.NaN(), negZero(), -7.75}
	for _, c := range []struct {
		mem, ladder string
		sample      impl.ActSample
		behind      string
	}{
		{"X9 Y1 fault", "", impl.ActSample{X: 1, Dt: 3}, "X0 Y1 time=3 ran"}, {"", "", impl.ActSample{}, "ran"}, {"R11=3*2^0 R12=3*2^0", "\n\n", impl.ActSample{In: in}, "R11=3*2^0 R12=5*2^-1 R13=nan R14=-0 R15=-31*2^-2 ran"},
		{"", "X0 -> out:Y0\nY0 -> out:Y1", impl.ActSample{X: 1}, "X0 Y0 Y1 ran"}, {"", "Y0 -> out:Y1\nX0 -> out:Y0", impl.ActSample{X: 1}, "X0 Y0 ran"}, {"Y0", "Y0 -> out:Y1\nX0 -> out:Y0", impl.ActSample{}, "Y1 ran"}, {"", "X0 -> out:Y0\n/X0 -> out:Y0", impl.ActSample{X: 1}, "X0 ran"}, {"", "/X0 -> out:Y0\nX0 -> out:Y0", impl.ActSample{X: 1}, "X0 Y0 ran"},
		{"M0", "M0 -> reset:M0\nM0 -> set:Y0\n/M0 -> set:M0\nM0 -> set:Y1", impl.ActSample{}, "Y1 M0 ran"}, {"", "X0 -> [ +X0:E0 -> out:Y0 ]\n+X0:E0 -> out:Y1", impl.ActSample{X: 1}, "X0 Y0 E0 ran"}, {"", "X1 -> [ +X0:E0 -> out:Y0 ]\n+X0:E0 -> out:Y1", impl.ActSample{X: 1}, "X0 E0 ran"},
		// Ran is put at the end, Fault at the beginning.
		{"", "G2 -> set:Y0\nG2 -> set:Y1", impl.ActSample{}, "Y0 Y1 ran"}, {"ran", "G2 -> set:Y0", impl.ActSample{}, "ran"}, {"", "G0 -> div:D0,1,0\nG3 -> set:Y0", impl.ActSample{}, "Y0 ran fault"}, {"fault", "G3 -> set:Y0\nG0 -> div:D0,1,0\nG3 -> set:Y1", impl.ActSample{}, "Y1 ran fault"}, {"ran fault", "G3 -> set:Y0", impl.ActSample{}, "ran"},
		// Time has gone on when the first rung begins, by as much as each timer.
		{"time=499", "G4 -> out:Y0", impl.ActSample{Dt: 1}, "Y0 time=500 ran"}, {"time=999", "G4 -> out:Y0\n/G4 -> out:Y1", impl.ActSample{Dt: 1}, "Y1 time=1000 ran"}, {"time=4294967295", "G0 -> timer:T0,9\nG0 -> timer:T1,5 hold:T2,9\nG1 -> late:T3,9", impl.ActSample{Dt: 7}, "T0=7 T1=5! T2=7 time=6 ran"}, {"T3=1!", "G1 -> late:T3,9\nG0 -> [ -> [ -> timer:T0,32767 ] ]", impl.ActSample{Dt: 7}, "T0=7 T3=8! time=7 ran"},
		{"R12=1*2^0", "R12>R15 -> move:R0,R12 move:R1,R13 whole:D0,R15\nR13<>R13 -> move:R15,1.0\nR14=0.0 -> move:R2,R14", impl.ActSample{In: in}, "D0=-7 R0=5*2^-1 R1=nan R2=-0 R12=5*2^-1 R13=nan R14=-0 R15=1*2^0 ran"},
		{"X0", "X0 -> set:Y0\nX31 -> set:Y31", impl.ActSample{X: 1 << 31}, "X31 Y31 ran"},
	} {
		rungs, m := ladderSure(c.ladder), memRead(t, c.mem)
		if got := impl.MemText(impl.EvalScan(rungs, m, c.sample)); got != c.behind {
			t.Errorf("%q with %v of %q: %q, not %q", c.ladder, c.sample, c.mem, got, c.behind)
		}
		if got := impl.MemText(impl.EvalRun(rungs, m, []impl.ActSample{c.sample})); got != c.behind {
			t.Errorf("%q with %v of %q, as a run: %q, not %q", c.ladder, c.sample, c.mem, got, c.behind)
		}
		checkEvalRun(t, rungs, m, slices.Repeat([]impl.ActSample{c.sample}, 4))
	}
}

// Runs that are written out here: each of the many scans counts.
func TestRunsWrittenOut(t *testing.T) {
	every := ladderSure("G0 -> add:D0,D0,1 hold:T0,32767\nG4 -> add:D1,D1,1\n+X0:E0 -> count:C0,3 add:D2,D2,1\n-X0:E1 -> add:D3,D3,1")
	blink := slices.Repeat(ticksOf(50, 1, 0, 0), 34)
	for _, c := range []struct {
		count  int
		behind string
	}{
		{0, ""}, {1, "X0 E0 E1 T0=50 C0=1+ D0=1 D2=1 time=50 ran"}, {2, "T0=100 C0=1 D0=2 D2=1 D3=1 time=100 ran"}, {9, "T0=450 C0=3! D0=9 D2=3 D3=3 time=450 ran"}, {10, "X0 E0 E1 T0=500 C0=4!+ D0=10 D1=1 D2=4 D3=3 time=500 ran"},
		{99, "T0=4950 C0=33! D0=99 D1=50 D2=33 D3=33 time=4950 ran"}, {100, "X0 E0 E1 T0=5000 C0=34!+ D0=100 D1=50 D2=34 D3=33 time=5000 ran"}, {101, ""}, {102, ""},
	} {
		if got := impl.MemText(impl.EvalRun(every, impl.Mem{}, blink[:c.count])); got != c.behind {
			t.Errorf("%d scans: %q, not %q", c.count, got, c.behind)
		}
		if c.count <= 100 {
			checkEvalRun(t, every, impl.Mem{}, blink[:c.count])
		}
	}
}

// P34 at the bound of scans, by ladders of all sorts, without rungs too; without samples nothing happens.
func TestEvalMaxScans(t *testing.T) {
	r := rand.New(rand.NewSource(100))
	many := anySamples(r, 1000)
	for _, rungs := range append(closeLadders(7, 6), exampleLadder(), nil, []impl.Arm{}) {
		for _, m := range []impl.Mem{{}, fullMem(), anyMems(1)[0]} {
			for _, none := range [][]impl.ActSample{nil, {}, many[:0]} {
				if got := impl.EvalRun(rungs, m, none); !sameMem(got, m) {
					t.Errorf("%s: no scans of %q: %q", spelt(rungs), impl.MemText(m), impl.MemText(got))
				}
			}
			for _, count := range []int{1, 2, 99, 100} {
				if got := checkEvalRun(t, rungs, m, many[:count]); !got.Ran || got.X != many[count-1].X {
					t.Errorf("%s: %d scans leave %q", spelt(rungs), count, impl.MemText(got))
				}
			}
			for _, count := range []int{101, 102, 200, 256, 257, 356, 1000} {
				if got := impl.EvalRun(rungs, m, many[:count]); !sameMem(got, m) {
					t.Errorf("%s: %d scans of %q: %q", spelt(rungs), count, impl.MemText(m), impl.MemText(got))
				}
			}
		}
	}
	if got := impl.EvalRun(nil, fullMem(), make([]impl.ActSample, 1<<16+1)); !sameMem(got, fullMem()) {
		t.Errorf("very many scans: %q", impl.MemText(got))
	}
}

// P34: those of some samples and then of others are those of both; the rungs of a scan are EvalArm of each, between ActStart and ActEnd.
func TestScansAreOneAfterTheOther(t *testing.T) {
	r := rand.New(rand.NewSource(34))
	mems := anyMems(30)
	for i, rungs := range closeLadders(34, 60) {
		m, samples := mems[i%len(mems)], anySamples(r, []int{3, 12, 100}[i%3])
		whole := impl.EvalRun(rungs, m, samples)
		for cut := 0; cut <= len(samples); cut += 1 + len(samples)/7 {
			first := impl.EvalRun(rungs, m, samples[:cut])
			if got := impl.EvalRun(rungs, first, samples[cut:]); !sameMem(got, whole) {
				t.Errorf("%s: %d scans and then %d: %q, not %q", spelt(rungs), cut, len(samples)-cut, impl.MemText(got), impl.MemText(whole))
			}
		}
		for j, s := range samples {
			want := impl.ActStart(m, s)
			for _, rung := range rungs {
				want = checkEvalArm(t, want, rung, true, s.Dt)
			}
			want = impl.ActEnd(want)
			if got := impl.EvalScan(rungs, m, s); !sameMem(got, want) {
				t.Errorf("%s: scan %d with %v of %q: %q, not %q", spelt(rungs), j, s, impl.MemText(m), impl.MemText(got), impl.MemText(want))
			}
			m = want
		}
		if !sameMem(m, whole) {
			t.Errorf("%s: scan by scan %q, at once %q", spelt(rungs), impl.MemText(m), impl.MemText(whole))
		}
	}
}

// Ladders of all sorts, from memories of all sorts, against the second reading.
func TestEvalOfAnyLadders(t *testing.T) {
	r, turned := rand.New(rand.NewSource(10)), 0
	mems := append(anyMems(20), actMems()...)
	for i, rungs := range evalLadders() {
		for j := range 3 {
			m, samples := mems[(i+j*5)%len(mems)], anySamples(r, 1+r.Intn(8))
			behind := checkEvalRun(t, rungs, m, samples)
			for _, s := range samples {
				m = impl.ActEnd(impl.ActStart(m, s))
			}
			if !sameMem(behind, m) {
				turned++
			}
		}
		for _, rung := range rungs {
			for _, a := range armsIn(rung) {
				checkEvalArm(t, mems[i%len(mems)], a, i%2 == 0, dtOf(i))
				checkEvalNet(t, mems[i%len(mems)], a.Net)
			}
		}
	}
	if turned < 500 {
		t.Errorf("%d runs do something", turned)
	}
}

// checkSameMeaning asks for P32: two ladders leave the same memory behind each scan.
func checkSameMeaning(t *testing.T, a, b []impl.Arm, m impl.Mem, samples []impl.ActSample) {
	t.Helper()
	for i := range samples {
		one, two := impl.EvalRun(a, m, samples[:i+1]), impl.EvalRun(b, m, samples[:i+1])
		if !sameMem(one, two) || !one.Ran {
			t.Errorf("%s and %s: behind %d scans of %q: %q and %q", brief(spelt(a)), brief(spelt(b)), i+1, impl.MemText(m), impl.MemText(one), impl.MemText(two))
			return
		}
	}
}

// P32: a ladder and its normal form, and what is loosened out of it, leave the same memory behind each scan.
func TestNormalFormMeansTheSame(t *testing.T) {
	r, unlike := rand.New(rand.NewSource(32)), 0
	mems := append(anyMems(20), actMems()...)
	for i, rungs := range append(evalLadders(), closeLadders(32, 200)...) {
		norm := impl.NormMake(rungs)
		if !impl.TreeSame(norm, rungs) {
			unlike++
		}
		for j := range 2 {
			checkSameMeaning(t, rungs, norm, mems[(i+j*7)%len(mems)], anySamples(r, 6))
		}
		if len(norm) == 0 || impl.TreeSize(norm) > 60 {
			continue
		}
		for j, loose := range loosened(norm) {
			if j%7 == i%7 && impl.TreeCheck(loose).Code == 0 {
				unlike++
				checkSameMeaning(t, loose, norm, mems[(i+j)%len(mems)], anySamples(r, 3))
			}
		}
	}
	for _, c := range normedRungs() {
		checkSameMeaning(t, ladderSure(c[0]), impl.NormMake(ladderSure(c[0])), mems[0], anySamples(r, 4))
	}
	if unlike < 500 {
		t.Errorf("%d ladders are not in normal form", unlike)
	}
}

// bare is the memory with nothing in the devices of P35 that a ladder names; Y, M, T, C, D and R below 12 alone stay at all.
func bare(m impl.Mem, rungs []impl.Arm) impl.Mem {
	left := impl.Mem{Y: m.Y, M: m.M, T: m.T, C: m.C, D: m.D}
	copy(left.R[:12], m.R[:12])
	for _, place := range argPlaces(rungs) {
		n := place.N
		switch place.Kind {
		case 2, 3:
			left = withBit(left, place.Kind, n, false)
		case 7:
			left.T[n] = impl.MemTimer{}
		case 8:
			left.C[n] = impl.MemCounter{}
		case 9:
			left.D[n] = 0
		case 10:
			left.R[n] = 0
		}
	}
	return left
}

// P35: what a ladder does not name is as it was, behind one scan and behind many.
func TestWhatIsNotNamedStays(t *testing.T) {
	r := rand.New(rand.NewSource(35))
	mems := append(anyMems(25), actMems()...)
	for i, rungs := range append(evalLadders(), closeLadders(35, 100)...) {
		for j := range 3 {
			m := mems[(i+j*3)%len(mems)]
			samples := anySamples(r, []int{1, 5, 30}[j])
			got := impl.EvalRun(rungs, m, samples)
			if !sameMem(bare(got, rungs), bare(m, rungs)) {
				t.Errorf("%s: %d scans of %q: %q", brief(spelt(rungs)), len(samples), impl.MemText(m), impl.MemText(got))
			}
		}
	}
	for _, m := range []impl.Mem{fullMem(), mems[0], {}} {
		got := impl.EvalRun(ladderSure("X0 -> out:Y0 out:M0 timer:T0,5 count:C0,5 move:D0,5 move:R0,0.5 step:S0 pulse:Y0,E0"), m, ticksOf(3, 1, 0, 1, 1))
		if got.Y|1 != m.Y|1 || got.M|1 != m.M|1 || !slices.Equal(got.T[1:], m.T[1:]) || !slices.Equal(got.C[1:], m.C[1:]) || !slices.Equal(got.D[1:], m.D[1:]) || !slices.EqualFunc(got.R[1:12], m.R[1:12], sameReal) || got.E|1 != m.E|1 || got.S&0xff00 != m.S&0xff00 {
			t.Errorf("%q: %q", impl.MemText(m), impl.MemText(got))
		}
	}
}

// checkNoScan asks that a ladder which is not accepted leaves the memory as it is, whatever the samples are.
func checkNoScan(t *testing.T, rungs []impl.Arm) {
	t.Helper()
	samples := []impl.ActSample{{X: 1, Dt: 7, In: [4]float64{1, 2, 3, 4}}, {X: 5, Dt: 600}, {}}
	for _, m := range []impl.Mem{{}, fullMem()} {
		for _, s := range samples {
			if got := impl.EvalScan(rungs, m, s); !sameMem(got, m) {
				t.Errorf("%d rungs, %v, of %q: %q", len(rungs), impl.TreeCheck(rungs), impl.MemText(m), impl.MemText(got))
			}
		}
		for count := range len(samples) + 1 {
			if got := impl.EvalRun(rungs, m, samples[:count]); !sameMem(got, m) {
				t.Errorf("%d rungs, %v, %d scans of %q: %q", len(rungs), impl.TreeCheck(rungs), count, impl.MemText(m), impl.MemText(got))
			}
		}
		if got := impl.EvalRun(rungs, m, make([]impl.ActSample, 101)); !sameMem(got, m) {
			t.Errorf("%d rungs, %v, 101 scans of %q: %q", len(rungs), impl.TreeCheck(rungs), impl.MemText(m), impl.MemText(got))
		}
	}
}

// Each code of chapter 7: no rung of such a ladder is met, the good ones ahead of it neither.
func TestEvalOfWrongLadders(t *testing.T) {
	x, good, met := contactOf("G0"), armOf(contactOf("G0"), "set:Y0 add:D0,D0,1"), map[int]bool{}
	none := []coded{{armOf(impl.Net{}, "out:Y0"), 4}, {armOf(impl.Net{}, ""), 4}, {armOf(impl.Net{Kids: []impl.Net{}}, "", good), 4}}
	for _, c := range append(wrongArms(), none...) {
		met[impl.TreeCheck([]impl.Arm{c.arm}).Code] = true
		for _, rungs := range [][]impl.Arm{{c.arm}, {good, c.arm}, {c.arm, good}} {
			checkNoScan(t, rungs)
		}
		if c.code != 4 {
			checkNoScan(t, []impl.Arm{good, armOf(x, "set:Y1", good, armOf(impl.Net{}, "", c.arm))})
		}
	}
	for _, rungs := range append(append(grown(401), grownLoose(401)...), slices.Repeat([]impl.Arm{good}, 41), make([]impl.Arm, 41), slices.Repeat([]impl.Arm{good}, 1000)) {
		met[impl.TreeCheck(rungs).Code] = true
		checkNoScan(t, rungs)
	}
	for code := 1; code <= 5; code++ {
		if !met[code] {
			t.Errorf("no ladder is wrong by code %d", code)
		}
	}
	r := rand.New(rand.NewSource(1))
	for _, count := range []int{1, 39, 40} {
		checkEvalRun(t, slices.Repeat([]impl.Arm{good}, count), impl.Mem{D: [32]int16{5}}, anySamples(r, 3))
	}
}

// P32 at the bound of parts: as large as may be, one rung or several.
func TestEvalOfLargestLadders(t *testing.T) {
	r := rand.New(rand.NewSource(400))
	for i, rungs := range append(grown(400), grownLoose(400)...) {
		if impl.TreeSize(rungs) != 400 {
			t.Fatalf("ladder %d: %d parts", i, impl.TreeSize(rungs))
		}
		for _, m := range anyMems(3) {
			checkEvalRun(t, rungs, m, anySamples(r, 4))
			checkSameMeaning(t, rungs, impl.NormMake(rungs), m, anySamples(r, 4))
		}
	}
}

// What is far too large, shares what it is made of or stands within itself is refused at once by a scan, and is not looked at where it is not asked.
func TestEvalOfVeryLargeTrees(t *testing.T) {
	net, arm := contactOf("X0"), armOf(contactOf("X0"), "out:Y0")
	for range 60 {
		net, arm = andOf(net, net), armOf(net, "", arm, arm)
	}
	endless, round := andOf(impl.Net{}), armOf(contactOf("X0"), "", impl.Arm{})
	endless.Kids[0], round.Kids[0] = endless, round
	for _, rungs := range [][]impl.Arm{{armOf(net, "out:Y0")}, {arm}, {armOf(endless, "out:Y0")}, {round}, {armOf(contactOf("G0"), "set:Y0"), round}} {
		checkNoScan(t, rungs)
	}
	for _, large := range []impl.Net{net, endless} {
		for kind, lets := range map[int]bool{0: true, 1: true, 5: true, -1: true} {
			n := impl.Net{Kind: kind, One: elemSure("X0"), Kids: []impl.Net{large, large}}
			if got, b := impl.EvalNet(impl.Mem{X: 1}, n); b != lets || got != (impl.Mem{X: 1}) {
				t.Errorf("Kind %d: %v and %q", kind, b, impl.MemText(got))
			}
		}
		if got, b := impl.EvalNet(impl.Mem{X: 1}, notOf(contactOf("/X0"), large, large)); !b || got != (impl.Mem{X: 1}) {
			t.Errorf("a not looks at its second kid: %v and %q", b, impl.MemText(got))
		}
	}
}

// Nets and arms that are nested very deep, or have very many kids, are met all the same.
func TestEvalOfDeepNets(t *testing.T) {
	const deep = 500000
	nots, ands, arms := contactOf("+X0:E0"), contactOf("+X0:E0"), armOf(contactOf("+X0:E0"), "out:Y0")
	for i := range deep {
		nots, ands, arms = notOf(nots), impl.Net{Kind: 2 + i%2, Kids: []impl.Net{ands}}, armOf(impl.Net{}, "", arms)
	}
	m, want := impl.Mem{X: 1}, impl.Mem{X: 1, E: 1}
	for _, c := range []struct {
		net  impl.Net
		lets bool
	}{{nots, true}, {notOf(nots), false}, {ands, true}, {andOf(slices.Repeat([]impl.Net{contactOf("X0"), contactOf("+X0:E0")}, 1000)...), false}, {orOf(append(slices.Repeat([]impl.Net{contactOf("X1")}, deep), contactOf("+X0:E0"))...), true}} {
		if got, b := impl.EvalNet(m, c.net); b != c.lets || got != want {
			t.Errorf("%v and %q", b, impl.MemText(got))
		}
		if got := impl.EvalArm(m, armOf(c.net, "out:Y5"), true, 0); impl.MemBit(got, operand(2, 5, 0)) != c.lets {
			t.Errorf("in an arm %q", impl.MemText(got))
		}
	}
	for _, c := range []struct {
		v    bool
		want string
	}{{true, "X0 Y0 E0"}, {false, "X0 E0"}} {
		if got := impl.MemText(impl.EvalArm(m, arms, c.v, 0)); got != c.want {
			t.Errorf("arms with %v: %q", c.v, got)
		}
	}
	wide := armOf(impl.Net{}, "", slices.Repeat([]impl.Arm{armOf(impl.Net{}, "add:D0,D0,1")}, 70000)...)
	if got := impl.MemText(impl.EvalArm(impl.Mem{}, wide, true, 0)); got != "D0=4464" {
		t.Errorf("70000 kids: %q", got)
	}
}

// No argument is written into, nor behind its end, nor kept; what stands behind an end is not met.
func TestEvalWritesIntoNothing(t *testing.T) {
	r := rand.New(rand.NewSource(11))
	mems := anyMems(5)
	for i, rungs := range append(evalLadders(), changedOnce(branched())...) {
		m, samples := mems[i%5], roomy(anySamples(r, 3), impl.ActSample{X: 1 << 9, Dt: 9})
		given, kept := withRoom(rungs), fmt.Sprint(samples[:cap(samples)])
		ahead, before := rooms(given), m
		for _, other := range [][]impl.Arm{given, withEmpties(rungs), rungs} {
			for range 2 {
				if got, want := impl.EvalRun(other, m, samples), impl.EvalRun(cloneArms(rungs), m, slices.Clone(samples)); !sameMem(got, want) {
					t.Errorf("%s: %q, not %q", brief(spelt(rungs)), impl.MemText(got), impl.MemText(want))
				}
				if got, want := impl.EvalScan(other, m, samples[0]), impl.EvalScan(cloneArms(rungs), m, samples[0]); !sameMem(got, want) {
					t.Errorf("%s: %q, not %q", brief(spelt(rungs)), impl.MemText(got), impl.MemText(want))
				}
				for j := range other {
					if got, want := impl.EvalArm(m, other[j], true, 3), readArm(m, rungs[j], true, 3); !sameMem(got, want) {
						t.Errorf("%s: rung %d: %q, not %q", brief(spelt(rungs)), j, impl.MemText(got), impl.MemText(want))
					}
					got, b := impl.EvalNet(m, other[j].Net)
					if want, lets := readNet(m, rungs[j].Net); b != lets || !sameMem(got, want) {
						t.Errorf("%s: rung %d: %v and %q", brief(spelt(rungs)), j, b, impl.MemText(got))
					}
				}
			}
		}
		if rooms(given) != ahead || fmt.Sprint(samples[:cap(samples)]) != kept || !sameMem(m, before) {
			t.Errorf("%s: written into: %s, not %s", brief(spelt(rungs)), rooms(given), ahead)
		}
	}
}

// checkRunning asks that no more goroutines run than so many that ran ahead of the calls; those that end get some time for it.
func checkRunning(t *testing.T, ahead int) {
	t.Helper()
	for i := 0; runtime.NumGoroutine() > ahead; i++ {
		if i == 1000 {
			t.Fatalf("%d run behind the calls, %d ran ahead of them", runtime.NumGoroutine(), ahead)
		}
		time.Sleep(time.Millisecond)
	}
}

// Calls at the same time answer as each alone does, and leave nothing running behind them.
func TestEvalAtTheSameTime(t *testing.T) {
	running := runtime.NumGoroutine()
	rungs, samples := exampleLadder(), anySamples(rand.New(rand.NewSource(12)), 50)
	mems := anyMems(8)
	var joined sync.WaitGroup
	for _, m := range mems {
		want := m
		for _, s := range samples {
			want = readScan(rungs, want, s)
		}
		for range 4 {
			joined.Go(func() {
				for range 5 {
					if got := impl.EvalRun(rungs, m, samples); !sameMem(got, want) {
						t.Errorf("%q: %q, not %q", impl.MemText(m), impl.MemText(got), impl.MemText(want))
					}
				}
			})
		}
	}
	joined.Wait()
	checkRunning(t, running)
}
