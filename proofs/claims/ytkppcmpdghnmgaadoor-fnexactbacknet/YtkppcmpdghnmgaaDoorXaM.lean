/- A range over a function whose iterator may itself hold such a range: what each round keeps is told where it goes on and where it stops. -/
import Derived.RangeFuncNested
import Derived.RangeFuncBound
import Derived.RangeFuncCalls
import Derived.RangeFuncLeaves
import Derived.RangeFuncKeeps
import Derived.RangeFuncFrom
import Derived.Shelf.Abstract
import Derived.Shelf.RegionOpen
import Derived.WalkKit
import Derived.OwnWalkIn
import Derived.TacticsInMore
import Derived.LoopNIn
import Derived.LoopIn
import Derived.Test.YtkppcmpdghnmgaaDoorGeM
namespace Go.Proofs.YtkppcmpdghnmgaaDoor
open Go.RowKit Go.Shelf
set_option linter.unusedVariables false

/-- What is said of a world lies below b. -/
def Dep {β : Type} (b : Nat) (J : β → World → Prop) : Prop := ∀ s W W', Below b W W' → J s W → J s W'
theorem Dep.mono {β : Type} {b b' : Nat} {J : β → World → Prop} (h : Dep b J) (hb : b ≤ b') : Dep b' J := fun s W W' g hJ => h s W W' (g.mono hb) hJ
theorem below_putObj {b l : Nat} {W : World} {o : Obj} (h : W.heap[l]? = some o) (hb : b ≤ l) (o' : Obj) : Below b W (W.putObj l o') :=
  (Below.refl b W).grown (grownBy_putObj' W l o') (by have := (Array.getElem?_eq_some_iff.1 h).1; omega) (fun k e => by cases e; exact hb)

/-- An iterator's contract: its rounds keep Kp where they go on and Kq where they stop; the caller's invariants speak of what lay ahead of the call alone. -/
def SeqN {α : Type} (n : Nat) (P : Program) (g : Nat) (lb : Array Value) (encs : α → Array Value) (Kp Kq : World → World → Prop) (S : List α → Prop) (Nx : List α → α → Prop) (w : World) : Prop :=
  ∀ (l : Nat) (J Jx : List α → World → Prop) (W : World), Below w.heap.size w W → w.heap.size + 2 ≤ W.heap.size → Dep W.heap.size J → Dep W.heap.size Jx →
    (∀ pre x W1, J pre W1 → Nx pre x → YieldAt Fence.wide (n - 1) P l (encs x) W1 fun e W' => (e = .returned (.bool true) ∧ Kp W1 W' ∧ J (pre ++ [x]) W') ∨ (e = .returned (.bool false) ∧ Kq W1 W' ∧ Jx (pre ++ [x]) W')) →
    J [] W → CallsIn Fence.wide n P g (#[.func (.yield l) #[] #[]] ++ lb) W fun e W' => (∃ v, e = .returned v) ∧ ((∃ xs, S xs ∧ J xs W') ∨ ∃ pre, Jx pre W')
/-- How a round may end. -/
def postN {α : Type} (B : Nat) (Kp Kq : World → World → Prop) (I : List α → World → Prop) (Ix : Code → List α → World → Prop) (xs : List α) (W : World) (e : Exit) (W' : World) : Prop :=
  KeepsFrom B W W' ∧ (match e with | .normal => Kp W W' ∧ I xs W' | .ret => Kq W W' ∧ Ix .ret xs W' | .exit id => Kq W W' ∧ Ix (.exit id) xs W' | .goto t => Kq W W' ∧ Ix (.goto t) xs W' | _ => False)

theorem range_n {α : Type} {P : Program} {g : Operand} {ps : Array Tmp} {assign body : Code} {Q : Exit → Act → World → Prop} {a : Act} {w : World} {n : Nat} {gf : Nat} {lb : Array Value} (hg : a.eval g = .func (.func gf) #[] lb)
    (eg : ∀ args w, (callFunc gf args).run P w = .ok (.enter gf args) w) {encs : α → Array Value} {Kp Kq : World → World → Prop} {S : List α → Prop} {Nx : List α → α → Prop} {w0 : World} (hseq : SeqN (n - 1) P gf lb encs Kp Kq S Nx w0)
    (hKt : ∀ {X Y Z : World}, Kp X Y → Kp Y Z → Kp X Z) (hKl : ∀ (W : World) (r : Loop) (o' : Obj), W.heap[w.heap.size + 1]? = some (.loop r) → Kp W (W.putObj (w.heap.size + 1) o')) (hQt : ∀ {X Y Z : World}, Kq X Y → Kq Y Z → Kq X Z) (hQl : ∀ (W : World) (r : Loop) (o' : Obj), W.heap[w.heap.size + 1]? = some (.loop r) → Kq W (W.putObj (w.heap.size + 1) o')) (hb0 : Below w0.heap.size w0 w) (hps : ∀ x, (encs x).size = ps.size)
    (I : List α → World → Prop) (Ix : Code → List α → World → Prop) (hI : Dep w.heap.size I) (hIx : ∀ c, Dep w.heap.size (Ix c)) (h0 : I [] w) (a₁ : α → Act)
    (hassign : ∀ (l : Nat) (x : α) (W : World) (K : Act → World → Prop), K (a₁ x) W →
      assign.wpIn (Fence.wide.inRound l) (n - 1 - 1) P (Exit.then K (fun _ _ _ => False)) { tmps := (ps.zip (encs x)).foldl (fun t (p, v) => t.setIfInBounds p v) a.tmps, defers := [] } W)
    (hbody : ∀ (l : Nat) (pre : List α) (x : α) (W : World), I pre W → Nx pre x → body.wpIn (Fence.wide.inRound l) (n - 1 - 1) P (fun e _ W' => postN w.heap.size Kp Kq I Ix (pre ++ [x]) W e W') (a₁ x) W)
    (hdone : ∀ (D : Nat) (xs : List α) (W : World), w.heap.size ≤ D → S xs → I xs W → W.heap[D]? = some (.deferred (some [])) → Q .normal { a with defers := { target := .collected D, args := #[] } :: a.defers } W)
    (hstop : ∀ (D : Nat) (c : Code) (pre : List α) (W : World), w.heap.size ≤ D → Ix c pre W → W.heap[D]? = some (.deferred (some [])) → c.wpIn Fence.wide n P Q { a with defers := { target := .collected D, args := #[] } :: a.defers } W) :
    (Code.rangeFunc g ps assign body).wpIn Fence.wide n P Q a w := by
  refine wpIn_rangeFunc fun fn hfn => ?_
  obtain ⟨R, hR⟩ : ∃ R : LoopState → Option Code → Loop, R = fun st pe => { state := st, pending := pe, fn, tmps := a.tmps, params := ps, assign, body, defers := w.heap.size } := ⟨_, rfl⟩
  obtain ⟨V, hV⟩ : ∃ V, V = (w.alloc (.deferred (some []))).alloc (.loop (R .ready none)) := ⟨_, rfl⟩
  have sV : V.heap.size = w.heap.size + 1 + 1 := by rw [hV]; simp
  have dV : V.heap[w.heap.size]? = some (.deferred (some [])) := by rw [hV]; exact (rows2 w _ _).1
  have lV : V.heap[w.heap.size + 1]? = some (.loop (R .ready none)) := by rw [hV]; exact (rows2 w _ _).2
  have iV : I [] V := by rw [hV]; exact hI _ _ _ (((Below.refl _ w).alloc (Nat.le_refl _) _).alloc (by simp) _) h0
  have bV : Below w0.heap.size w0 V := by rw [hV]; exact hb0.trans ((((Below.refl _ w).alloc (Nat.le_refl _) _).alloc (by simp) _).mono hb0.size)
  -- the law's two blocks beside the caller's word
  obtain ⟨Bk, hBk⟩ : ∃ Bk : Loop → World → Prop, Bk = fun r W => W.heap[w.heap.size + 1]? = some (.loop r) ∧ W.heap[w.heap.size]? = some (.deferred (some [])) := ⟨_, rfl⟩
  have depB : ∀ (r : Loop) (X Y : World), Below V.heap.size X Y → Bk r X → Bk r Y := by
    intro r X Y g h
    rw [hBk] at h ⊢
    exact ⟨(g.block _ (by omega)).trans h.1, (g.block _ (by omega)).trans h.2⟩
  have putL : ∀ {r : Loop} {X : World} (o' : Obj), X.heap[w.heap.size + 1]? = some (.loop r) → Below w.heap.size X (X.putObj (w.heap.size + 1) o') := fun o' h => below_putObj h (by omega) o'
  have turn : ∀ {r : Loop} (r' : Loop) {X : World}, Bk r X → Bk r' (X.putObj (w.heap.size + 1) (.loop r')) := by
    intro r r' X h
    rw [hBk] at h ⊢
    exact ⟨World.putObj_heap_same (Array.getElem?_eq_some_iff.1 h.1).1, (World.putObj_heap_other (by omega)).trans h.2⟩
  have atL : ∀ {r : Loop} {X : World}, Bk r X → X.heap[w.heap.size + 1]? = some (.loop r) := fun h => by rw [hBk] at h; exact h.1
  have atD : ∀ {r : Loop} {X : World}, Bk r X → X.heap[w.heap.size]? = some (.deferred (some [])) := fun h => by rw [hBk] at h; exact h.2
  have keepB : ∀ {r : Loop} {X Y : World}, Bk r X → KeepsFrom w.heap.size X Y → Bk r Y := fun h k => by
    rw [hBk] at h ⊢
    exact ⟨k.same _ _ (by omega) h.1 rfl, k.same _ _ (Nat.le_refl _) h.2 rfl⟩
  have bkV : Bk (R .ready none) V := by rw [hBk]; exact ⟨lV, dV⟩
  refine ⟨w.heap.size + 1, [{ target := .collected w.heap.size, args := #[] }], V, { target := .fn (.func gf) lb, args := #[.func (.yield (w.heap.size + 1)) #[] #[]] }, V, gf, #[.func (.yield (w.heap.size + 1)) #[] #[]] ++ lb, V, ?_, ?_, fun f' hf' => trivial, ?_, fun h => (by cases h), ?_⟩
  · rw [hV, hR]; exact run_enterLoop_outer _ _ _ _ _
  · simp only [resolve, hg]; simp [go_sem]
  · simp [invoke, go_sem, eg]
  have hc := hseq (w.heap.size + 1) (fun pre W => I pre W ∧ Bk (R .ready none) W) (fun pre W => ∃ c, Ix c pre W ∧ Bk (R .done (some c)) W) V bV (by have := hb0.size; omega)
    (fun s X Y g hs => ⟨hI s X Y (g.mono (by omega)) hs.1, depB _ X Y g hs.2⟩) (fun s X Y g hs => by obtain ⟨c, k1, k2⟩ := hs; exact ⟨c, hIx c s X Y (g.mono (by omega)) k1, depB _ X Y g k2⟩) ?_ ⟨iV, bkV⟩
  · refine hc.mono ?_
    rintro e W ⟨⟨v, rfl⟩, ⟨xs, hS, hi, hb⟩ | ⟨pre, c, hi, hb⟩⟩
    · have he := run_endLoop (P := P) (atL hb) (by rw [hR]; simp)
      have hp : (R .ready none).pending = none := by rw [hR]
      rw [hp] at he
      exact ⟨none, _, he, hdone _ xs _ (Nat.le_refl _) hS (hI _ _ _ (putL _ (atL hb)) hi) (atD (turn _ hb))⟩
    · have he := run_endLoop (P := P) (atL hb) (by rw [hR]; simp)
      have hp : (R .done (some c)).pending = some c := by rw [hR]
      rw [hp] at he
      exact ⟨some c, _, he, hstop _ c pre _ (Nat.le_refl _) (hIx c _ _ _ (putL _ (atL hb)) hi) (atD (turn _ hb))⟩
  · rintro pre x W ⟨hi, hb⟩ hlen
    have hy := run_yield (P := P) (args := encs x) (atL hb) (by rw [hR]; exact hps x)
    have hbr := run_beginRound (P := P) (atL hb) (by rw [hR])
    obtain ⟨rb, hrb⟩ : ∃ rb : Loop, rb = { R .ready none with state := .busy } := ⟨_, rfl⟩
    rw [← hrb] at hbr
    have hbb := turn rb hb
    have hib : I pre (W.putObj (w.heap.size + 1) (.loop rb)) := hI _ _ _ (putL _ (atL hb)) hi
    have e0 : (R .ready none).fn = fn ∧ (R .ready none).assign = assign ∧ (R .ready none).body = body ∧ (R .ready none).params = ps ∧ (R .ready none).tmps = a.tmps := by rw [hR]; exact ⟨rfl, rfl, rfl, rfl, rfl⟩
    rw [e0.1, e0.2.1, e0.2.2.1, e0.2.2.2.1, e0.2.2.2.2] at hy
    refine ⟨fn, _, assign, body, hy, roundIn_of_wpIn hfn (hassign _ x W _ ⟨_, hbr, ?_⟩)⟩
    refine wpIn_mono (hbody _ pre x _ hib hlen) ?_
    rintro e a3 W3 ⟨kf, he⟩
    have hb3 := keepB hbb kf
    have run : ∀ jump : Option Code, (Instr.endRound (w.heap.size + 1) jump).run P W3 = .ok (.bool jump.isNone) (W3.putObj (w.heap.size + 1) (.loop (R (if jump.isNone then .ready else .done) jump))) := fun jump => by
      have := run_endRound (P := P) jump (atL hb3)
      rw [hrb] at this
      rw [this, hR]
    cases e with
    | normal => exact ⟨_, _, run none, .inl ⟨rfl, hKt (hKt (hKl _ _ _ (atL hb)) he.1) (hKl _ _ _ (atL hb3)), hI _ _ _ (putL _ (atL hb3)) he.2, turn _ hb3⟩⟩
    | ret => exact ⟨_, _, run (some .ret), .inr ⟨rfl, hQt (hQt (hQl _ _ _ (atL hb)) he.1) (hQl _ _ _ (atL hb3)), _, hIx _ _ _ _ (putL _ (atL hb3)) he.2, turn _ hb3⟩⟩
    | exit id => exact ⟨_, _, run (some (.exit id)), .inr ⟨rfl, hQt (hQt (hQl _ _ _ (atL hb)) he.1) (hQl _ _ _ (atL hb3)), _, hIx _ _ _ _ (putL _ (atL hb3)) he.2, turn _ hb3⟩⟩
    | goto t => exact ⟨_, _, run (some (.goto t)), .inr ⟨rfl, hQt (hQt (hQl _ _ _ (atL hb)) he.1) (hQl _ _ _ (atL hb3)), _, hIx _ _ _ _ (putL _ (atL hb3)) he.2, turn _ hb3⟩⟩
    | panic ch => exact he.elim
    | outgrown => exact he.elim
end Go.Proofs.YtkppcmpdghnmgaaDoor
/- The parts of a ladder, one by one: what is handed to a round; the closure over nets. -/
namespace Go.Proofs.YtkppcmpdghnmgaaDoor
open Go.RowKit Go.Shelf
set_option linter.unusedVariables false
attribute [local go_sem] Oper.semAt_some

/-- Where no depth is asked, a round serves at any. -/
theorem yield_any {m : Nat} (m' : Nat) {P : Program} {l : Nat} {args : Array Value} {W : World} {R : Ending → World → Prop} (h : YieldAt Fence.wide m P l args W R) : YieldAt Fence.wide m' P l args W R := by
  obtain ⟨fn, tmps, assign, body, hy, hR⟩ := h
  exact ⟨fn, tmps, assign, body, hy, hR.1, fun c cs _ => hR.2 c cs (fun d h => by cases h)⟩

abbrev PartT := NetT ⊕ (ArmT × Bool)
def pNet : Nat → NetT → List PartT
  | 0, _ => []
  | m + 1, .mk k e kids => .inl (.mk k e kids) :: kids.flatMap (pNet m)
def noneT : NetT → Bool
  | .mk k e kids => decide (k = 0) && decide (e.op = 0) && e.args.isEmpty && kids.isEmpty
def pArm : Nat → Bool → ArmT → List PartT
  | 0, _, _ => []
  | m + 1, r, .mk net coils kids => (if noneT net then [] else pNet m net) ++ .inr (.mk net coils kids, r) :: kids.flatMap (pArm m false)

/-- A part as it is handed to a round; its memory as it lay in the world w. -/
def POk (w : World) (x : Value × PartT) : Prop :=
  match x.2 with
  | .inl t => ∃ m cs, NetIs w 0 m t cs ∧ wN m t ≤ 1048576 ∧ x.1 = .iface 99 (.agg cs.toArray)
  | .inr a => False
abbrev PartW (w : World) := { x : Value × PartT // POk w x }
def ghosts {w : World} (ys : List (PartW w)) : List PartT := ys.map (fun y => y.1.2)
/-- What comes next is what stands next in the whole list. -/
def Fit {w : World} (L : List PartT) (pre : List (PartW w)) (ps : List PartT) : Prop := (ghosts pre ++ ps) <+: L
theorem Fit.go {w : World} {L : List PartT} {pre : List (PartW w)} {A : List PartT} (h : Fit L pre A) (ys : List (PartW w)) (B Z : List PartT) (e : A = ghosts ys ++ (B ++ Z)) : Fit L (pre ++ ys) B :=
  List.IsPrefix.trans ⟨Z, by rw [e]; simp [ghosts]⟩ h
theorem flat_at {α β : Type} (f : α → List β) (xs : List α) (c : Nat) (x : α) (h : xs[c]? = some x) : xs.flatMap f = (xs.take c).flatMap f ++ (f x ++ (xs.drop (c + 1)).flatMap f) := by
  have h1 : xs = xs.take c ++ x :: xs.drop (c + 1) := by
    obtain ⟨hc, rfl⟩ := List.getElem?_eq_some_iff.1 h
    rw [← List.drop_eq_getElem_cons hc, List.take_append_drop]
  conv => lhs; rw [h1]
  simp

/-- What a round keeps: all rows of cells but one. -/
def KC (n₀ B : Nat) (W W' : World) : Prop := Below n₀ W W' ∧ ∀ b C t f, b ≠ B → W.heap[b]? = some (.cells C t f) → W'.heap[b]? = some (.cells C t f)
theorem KC.refl (n₀ B : Nat) (W : World) : KC n₀ B W W := ⟨Below.refl _ _, fun _ _ _ _ _ h => h⟩
theorem KC.trans {n₀ B : Nat} {W W' W'' : World} (h : KC n₀ B W W') (h' : KC n₀ B W' W'') : KC n₀ B W W'' := ⟨h.1.trans h'.1, fun b C t f hb hc => h'.2 b C t f hb (h.2 b C t f hb hc)⟩
theorem KC.of_below {n₀ B : Nat} {W W' : World} (g : Below W.heap.size W W') (hn : n₀ ≤ W.heap.size) : KC n₀ B W W' := ⟨g.mono hn, fun b C t f _ h => (g.block _ (Array.getElem?_eq_some_iff.1 h).1).trans h⟩
theorem KC.alloc {n₀ B : Nat} {W : World} (hn : n₀ ≤ W.heap.size) (o : Obj) : KC n₀ B W (W.alloc o) := KC.of_below ((Below.refl _ _).alloc (Nat.le_refl _) _) hn
theorem KC.row {n₀ B : Nat} {W W' : World} (h : KC n₀ B W W') {b : Nat} {C : Array Value} {t : TypeId} (hb : b ≠ B) (hr : W.heap[b]? = some (.cells C t (0, 0))) : W'.heap[b]? = some (.cells C t (0, 0)) := h.2 _ _ _ _ hb hr
theorem KC.cell {n₀ B : Nat} {W W' : World} (h : KC n₀ B W W') {b o : Nat} {v : Value} (hb : b ≠ B) (hc : W.cell? ⟨b, o, none⟩ = some v) : W'.cell? ⟨b, o, none⟩ = some v := by
  unfold World.cell? at hc ⊢
  cases hh : W.heap[b]? with
  | none => simp [hh] at hc
  | some ob =>
    cases ob with
    | cells C t f => rw [h.2 b C t f hb hh]; rw [hh] at hc; exact hc
    | _ => simp [hh] at hc

/-- A slice whose elements lie anywhere but in one block. -/
def RowB {α : Type} (W : World) (B z : Nat) (R : α → List Value → Prop) (v : Value) (xs : List α) : Prop :=
  ∃ (a : Option Addr) (cap : Nat), v = .slice a xs.length cap ∧ xs.length ≤ 9223372036854775807 ∧ ∀ j x, xs[j]? = some x → ∃ b o cs, a = some ⟨b, o, none⟩ ∧ b ≠ B ∧ cs.length = z ∧ W.rangeAt b (o + j * z) cs ∧ R x cs
theorem RowB.keep {α : Type} {n₀ : Nat} {W W' : World} {B z : Nat} {R : α → List Value → Prop} {v : Value} {xs : List α} (h : RowB W B z R v xs) (k : KC n₀ B W W') : RowB W' B z R v xs := by
  obtain ⟨a, cap, hv, hl, hx⟩ := h
  refine ⟨a, cap, hv, hl, fun j x hj => ?_⟩
  obtain ⟨b, o, cs, ha, hb, hc, hr, hRx⟩ := hx j x hj
  exact ⟨b, o, cs, ha, hb, hc, fun i c hi => k.cell hb (hr i c hi), hRx⟩
theorem RowIs.rowB {α : Type} {w W : World} {z : Nat} {R : α → List Value → Prop} {v : Value} {xs : List α} (h : RowIs w 0 z R v xs) (hz : 0 < z) (g : Below w.heap.size w W) {B : Nat} (hB : w.heap.size ≤ B) : RowB W B z R v xs := by
  obtain ⟨a, cap, hv, hl, hx⟩ := h
  refine ⟨a, cap, hv, hl, fun j x hj => ?_⟩
  obtain ⟨b, o, cs, ha, hb, hc, hr, hRx⟩ := hx j x hj
  have hlt : b < w.heap.size := by
    have := hr 0 _ (List.getElem?_eq_getElem (by omega))
    exact World.block_lt_of_cell? _ _ this
  exact ⟨b, o, cs, ha, by omega, hc, fun i c hi => (Keeps.of_below g 0) _ _ _ (Nat.zero_le _) (hr i c hi), hRx⟩

def YB (W : World) (By l : Nat) : Prop := W.heap[By]? = some (.cells #[.func (.yield l) #[] #[]] 97 (0, 0))
def NB (W : World) (By Bn : Nat) : Prop := W.heap[Bn]? = some (.cells #[.func (.func 64) #[] #[.pointer (some ⟨By, 0, none⟩), .pointer (some ⟨Bn, 0, none⟩)]] 98 (0, 0))

theorem flat_take_le {α β : Type} (f : α → List β) : ∀ (xs : List α) (i : Nat), ((xs.take i).flatMap f).length ≤ (xs.flatMap f).length
  | [], i => by simp
  | y :: ys, 0 => by simp
  | y :: ys, i + 1 => by
    have := flat_take_le f ys i
    simp only [List.take_succ_cons, List.flatMap_cons, List.length_append]; omega

set_option maxRecDepth 100000 in
set_option maxHeartbeats 4000000 in
theorem nets_step (w : World) (B l By Bn : Nat) (L : List PartT) (hBw : w.heap.size ≤ B) (hBy : By ≠ B) (hBn : Bn ≠ B) (J Jx : List (PartW w) → World → Prop) (hJa : ∀ pre W o, J pre W → J pre (W.alloc o))
    (hY : ∀ pre (x : PartW w) W, J pre W → Fit L pre [x.1.2] → YieldAt Fence.wide 0 Tryd.prog l #[x.1.1] W fun e W' => (e = .returned (.bool true) ∧ J (pre ++ [x]) W' ∧ KC w.heap.size B W W') ∨ (e = .returned (.bool false) ∧ Jx (pre ++ [x]) W'))
    (R : NetT → List Value → Prop) (PK : NetT → List PartT) (n : Nat) (v : Value) (kids : List NetT) (pre : List (PartW w)) (W : World) (hb : Below w.heap.size w W) (hBW : B < W.heap.size) (hyb : YB W By l) (hnb : NB W By Bn) (hr : RowB W B 4 R v kids) (hJ : J pre W) (hN : Fit L pre (kids.flatMap (fun t => .inl t :: PK t)))
    (HR : Hid (∀ t cs, t ∈ kids → R t cs → ∃ k op a1 l1 c1 a2 l2 c2, cs = [.int .i64 k, .int .i64 op, .slice a1 l1 c1, .slice a2 l2 c2] ∧ POk w (.iface 99 (.agg cs.toArray), .inl t) ∧
      ∀ n pre W, Below w.heap.size w W → B < W.heap.size → YB W By l → NB W By Bn → J pre W → Fit L pre (PK t) →
        CallsIn Fence.wide n Tryd.prog 64 #[.slice a2 l2 c2, .pointer (some ⟨By, 0, none⟩), .pointer (some ⟨Bn, 0, none⟩)] W fun e W' =>
          (e = .returned (.bool true) ∧ (∃ ys, ghosts ys = PK t ∧ J (pre ++ ys) W') ∧ KC w.heap.size B W W') ∨ (e = .returned (.bool false) ∧ ∃ q, Jx q W'))) :
      CallsIn Fence.wide n Tryd.prog 64 #[v, .pointer (some ⟨By, 0, none⟩), .pointer (some ⟨Bn, 0, none⟩)] W fun e W' =>
        (e = .returned (.bool true) ∧ (∃ ys, ghosts ys = kids.flatMap (fun t => .inl t :: PK t) ∧ J (pre ++ ys) W') ∧ KC w.heap.size B W W') ∨ (e = .returned (.bool false) ∧ ∃ q, Jx q W') := by
  have hr0 := hr
  obtain ⟨a, cap, rfl, hl, _⟩ := hr
  have HRow : Hid (RowB W B 4 R (.slice a kids.length cap) kids) := hr0
  have HJ0 : Hid (J pre W) := hJ
  have HYb : Hid (YB W By l ∧ NB W By Bn ∧ Below w.heap.size w W ∧ B < W.heap.size) := ⟨hyb, hnb, hb, hBW⟩
  have HN : Hid (Fit L pre (kids.flatMap (fun t => .inl t :: PK t))) := hN
  have HJa : Hid (∀ pre W o, J pre W → J pre (W.alloc o)) := hJa
  have HY : Hid (∀ pre (x : PartW w) W, J pre W → Fit L pre [x.1.2] → YieldAt Fence.wide 0 Tryd.prog l #[x.1.1] W fun e W' => (e = .returned (.bool true) ∧ J (pre ++ [x]) W' ∧ KC w.heap.size B W W') ∨ (e = .returned (.bool false) ∧ Jx (pre ++ [x]) W')) := hY
  obtain ⟨len, HL⟩ : ∃ len, Hid (len = kids.length) := ⟨_, rfl⟩
  rw [← HL.out] at hl HRow ⊢
  have hdd : ∀ k : Nat, (Fence.wide.depth.isSome = true → 1 ≤ k) := fun k h => by cases h
  clear hr0 hJ hyb hnb hb hBW hN hJa hY
  refine callsIn_of_wp Tryd.func64 rfl trivial ?_ rfl
  simp only [Tryd.ntmps64, List.size_toArray, List.length_cons, List.length_nil, Nat.reduceAdd, Nat.reduceSub, Array.replicate_succ, Array.replicate_zero, List.push_toArray, List.append_toArray, List.nil_append, List.cons_append]
  gi_wp2
  gi_loopw [9] (fun i wr => ∃ (c : Nat) (ys : List (PartW w)), i = .int .i64 c ∧ c ≤ len ∧ Hid (ghosts ys = (kids.take c).flatMap (fun t => .inl t :: PK t)) ∧ Hid (J (pre ++ ys) wr) ∧ Hid (KC w.heap.size B W wr))
    (fun i _ => len - (RowKit.intOf i).toNat)
  case atStart => exact ⟨0, [], rfl, Nat.zero_le _, rfl, (by simpa using HJ0.out : J (pre ++ []) W), KC.refl _ _ _⟩
  case round =>
    obtain ⟨c, ys, rfl, hc, HG, HJ, HK⟩ := hrel
    by_cases hlt : c < len
    · have i1 : (c : Int) < (len : Int) := by omega
      have i3 : (0 : Int) ≤ (c : Int) := by omega
      obtain ⟨t, ht⟩ : ∃ t, kids[c]? = some t := ⟨_, List.getElem?_eq_getElem (by have := HL.out; omega)⟩
      obtain ⟨a', cap', hv', hl', hx⟩ := HRow.out.keep HK.out
      simp only [Value.slice.injEq] at hv'
      obtain ⟨ea, ea1, ea2⟩ := hv'
      subst ea
      clear ea1 ea2
      obtain ⟨b, o, cs, rfl, hbB, hcs, hrg, hRt⟩ := hx c t ht
      obtain ⟨k, op, a1, l1, c1, a2, l2, c2, rfl, hpok, hrec⟩ := HR.out t cs (List.mem_of_getElem? ht) hRt
      have x0 : wr.cell? ⟨b, o + c * 4, none⟩ = some (.int .i64 k) := hrg 0 _ rfl
      have x1 : wr.cell? ⟨b, o + c * 4 + 1, none⟩ = some (.int .i64 op) := hrg 1 _ rfl
      have x2 : wr.cell? ⟨b, o + c * 4 + 2, none⟩ = some (.slice a1 l1 c1) := hrg 2 _ rfl
      have x3 : wr.cell? ⟨b, o + c * 4 + 3, none⟩ = some (.slice a2 l2 c2) := hrg 3 _ rfl
      obtain ⟨W1, hW1⟩ : ∃ W1, W1 = wr.alloc (.cells #[.int .i64 k, .int .i64 op, .slice a1 l1 c1, .slice a2 l2 c2] 29) := ⟨_, rfl⟩
      have hgs : (kids.take (c + 1)).flatMap (fun t => Sum.inl t :: PK t) = (kids.take c).flatMap (fun t => .inl t :: PK t) ++ .inl t :: PK t := by
        rw [List.take_add_one, ht]; simp
      have hflat : kids.flatMap (fun t => Sum.inl (β := ArmT × Bool) t :: PK t) = ghosts ys ++ (Sum.inl t :: (PK t ++ (kids.drop (c + 1)).flatMap (fun t => Sum.inl t :: PK t))) := by
        rw [HG.out, flat_at _ _ _ _ ht]; rfl
      have HF : Hid (kids.flatMap (fun t => Sum.inl (β := ArmT × Bool) t :: PK t) = ghosts ys ++ (Sum.inl t :: (PK t ++ (kids.drop (c + 1)).flatMap (fun t => Sum.inl t :: PK t)))) := hflat
      clear hflat
      have hKW1 : KC w.heap.size B W W1 := by rw [hW1]; exact HK.out.trans (KC.alloc (Nat.le_trans HYb.out.2.2.1.size HK.out.1.size) _)
      have hJ1 : J (pre ++ ys) W1 := by rw [hW1]; exact HJa.out _ _ _ HJ.out
      have yb1 : W1.heap[By]? = _ := hKW1.row hBy HYb.out.1
      have cy1 : W1.cell? ⟨By, 0, none⟩ = some (.func (.yield l) #[] #[]) := (cell_of_row _ _ _ _ _ _ yb1).trans rfl
      obtain ⟨fn, tmps, assign, body, hy, hR⟩ := yield_any (n - 1) (HY.out (pre ++ ys) ⟨(.iface 99 (.agg #[.int .i64 k, .int .i64 op, .slice a1 l1 c1, .slice a2 l2 c2]), .inl t), hpok⟩ W1 hJ1 (HN.out.go ys _ _ HF.out))
      rw [hW1] at hy hR cy1
      gi_wp2
      refine ⟨hdd _, ?_⟩
      refine hR.mono ?_
      rintro e W3 (⟨rfl, hJ3, hk3⟩ | ⟨rfl, hx3⟩)
      rotate_left
      · clear hy hR yb1 cy1 hJ1 hKW1 hW1 x0 x1 x2 x3 hrg hx hrec
        gi_wp2
        refine ⟨fun _ h => (by cases h), ?_⟩
        gi_wp2
        go_ret
        exact .inr ⟨rfl, _, hx3⟩
      rw [← hW1] at hk3
      have hK3 : KC w.heap.size B W W3 := hKW1.trans hk3
      have yb3 : YB W3 By l := hK3.row hBy HYb.out.1
      have nb3 : NB W3 By Bn := hK3.row hBn HYb.out.2.1
      have szw : B < wr.heap.size := Nat.lt_of_lt_of_le HYb.out.2.2.2 HK.out.1.size
      have cn3 : W3.cell? ⟨Bn, 0, none⟩ = some (.func (.func 64) #[] #[.pointer (some ⟨By, 0, none⟩), .pointer (some ⟨Bn, 0, none⟩)]) := (cell_of_row _ _ _ _ _ _ nb3).trans rfl
      have bx3 : W3.heap[wr.heap.size]? = some (.cells #[.int .i64 k, .int .i64 op, .slice a1 l1 c1, .slice a2 l2 c2] 29 (0, 0)) := hk3.row (by omega) (by rw [hW1]; exact heap_alloc_last wr _)
      have c33 : W3.cell? ⟨wr.heap.size, 3, none⟩ = some (.slice a2 l2 c2) := (cell_of_row _ _ _ _ _ _ bx3).trans rfl
      have hrc := hrec (n - 1) _ W3 (HYb.out.2.2.1.trans hK3.1) (Nat.lt_of_lt_of_le HYb.out.2.2.2 hK3.1.size) yb3 nb3 hJ3 (by rw [List.append_assoc]; exact HN.out.go _ _ ((kids.drop (c + 1)).flatMap (fun t => Sum.inl t :: PK t)) (by rw [HF.out]; simp [ghosts]))
      have HK3 : Hid (KC w.heap.size B W W3) := hK3
      clear hy hR hk3 yb3 nb3 bx3 hK3 hJ3 hrec yb1 cy1 hJ1 hKW1 hW1 x0 x1 x2 x3 hrg hx
      gi_wp2
      refine ⟨trivial, hdd _, ?_⟩
      refine hrc.mono ?_
      rintro e W4 (⟨rfl, ⟨zs, hzs, hJ4⟩, hk4⟩ | ⟨rfl, qx, hx4⟩)
      rotate_left
      · clear hrc
        gi_wp2
        go_ret
        exact .inr ⟨rfl, qx, hx4⟩
      clear hrc
      gi_wp2
      go_roundw
      case rel =>
        refine ⟨c + 1, ys ++ (⟨(.iface 99 (.agg #[.int .i64 k, .int .i64 op, .slice a1 l1 c1, .slice a2 l2 c2]), .inl t), hpok⟩ : PartW w) :: zs, by simp, by omega, ?_, ?_, HK3.out.trans hk4⟩
        · show ghosts _ = _
          rw [hgs, ← HG.out, ← hzs]; simp [ghosts]
        · show J _ W4
          simpa [List.append_assoc] using hJ4
      case measure => simp [RowKit.intOf]; omega
    · have i1 : ¬ ((c : Int) < (len : Int)) := by omega
      gi_wp2
      go_ret
      refine .inl ⟨rfl, ⟨ys, ?_, HJ.out⟩, HK.out⟩
      rw [HG.out, List.take_of_length_le (by have := HL.out; omega)]

theorem sum_le_mem {α : Type} (f : α → Nat) (xs : List α) (x : α) (h : x ∈ xs) {k : Nat} (hk : (xs.map f).sum ≤ k) : f x ≤ k := Nat.le_trans (sum_mem f xs x h) hk

theorem nets_in (w : World) (B l By Bn : Nat) (L : List PartT) (hBw : w.heap.size ≤ B) (hBy : By ≠ B) (hBn : Bn ≠ B) (J Jx : List (PartW w) → World → Prop) (hJa : ∀ pre W o, J pre W → J pre (W.alloc o))
    (hY : ∀ pre (x : PartW w) W, J pre W → Fit L pre [x.1.2] → YieldAt Fence.wide 0 Tryd.prog l #[x.1.1] W fun e W' => (e = .returned (.bool true) ∧ J (pre ++ [x]) W' ∧ KC w.heap.size B W W') ∨ (e = .returned (.bool false) ∧ Jx (pre ++ [x]) W')) :
    ∀ (m n : Nat) (v : Value) (kids : List NetT) (pre : List (PartW w)) (W : World), Below w.heap.size w W → B < W.heap.size → YB W By l → NB W By Bn → RowB W B 4 (NetIs w 0 m) v kids → (kids.map (wN m)).sum ≤ 1048576 → J pre W → Fit L pre (kids.flatMap (pNet m)) →
      CallsIn Fence.wide n Tryd.prog 64 #[v, .pointer (some ⟨By, 0, none⟩), .pointer (some ⟨Bn, 0, none⟩)] W fun e W' =>
        (e = .returned (.bool true) ∧ (∃ ys, ghosts ys = kids.flatMap (pNet m) ∧ J (pre ++ ys) W') ∧ KC w.heap.size B W W') ∨ (e = .returned (.bool false) ∧ ∃ q, Jx q W') := by
  intro m
  induction m with
  | zero =>
    intro n v kids pre W hb hBW hyb hnb hr hw hJ hN
    have hk : kids = [] := by
      obtain ⟨a, cap, rfl, hl, hx⟩ := hr
      cases kids with
      | nil => rfl
      | cons k r => obtain ⟨_, _, _, _, _, _, _, h⟩ := hx 0 k rfl; exact h.elim
    subst hk
    exact nets_step w B l By Bn L hBw hBy hBn J Jx hJa hY (NetIs w 0 0) (fun _ => []) n v [] pre W hb hBW hyb hnb hr hJ hN (fun t cs h => by simp at h)
  | succ m ih =>
    intro n v kids pre W hb hBW hyb hnb hr hw hJ hN
    have e : kids.flatMap (pNet (m + 1)) = kids.flatMap (fun t => Sum.inl t :: (match t with | .mk k e ks => ks.flatMap (pNet m))) := by
      congr 1; funext t; cases t; rfl
    rw [e] at hN ⊢
    refine nets_step w B l By Bn L hBw hBy hBn J Jx hJa hY (NetIs w 0 (m + 1)) _ n v kids pre W hb hBW hyb hnb hr hJ hN ?_
    intro t cs ht hR
    have hwt : wN (m + 1) t ≤ 1048576 := sum_le_mem _ _ _ ht hw
    cases t with
    | mk k e ks =>
      have hR' := hR
      obtain ⟨v1, v2, rfl, ha, hk⟩ := hR
      obtain ⟨a1, c1, rfl, _, _⟩ := id ha
      obtain ⟨a2, c2, rfl, _, _⟩ := id hk
      refine ⟨k, e.op, a1, _, c1, a2, _, c2, rfl, ⟨m + 1, _, hR', hwt, rfl⟩, ?_⟩
      intro n' pre' W' hb' hBW' hyb' hnb' hJ' hN'
      simp only [wN] at hwt
      exact ih n' _ ks pre' W' hb' hBW' hyb' hnb' (RowIs.rowB hk (by omega) hb' hBw) (by omega) hJ' hN'

theorem kc_dep {β : Type} {n₀ B B1 : Nat} {W0 : World} (hn : n₀ ≤ B1) (hW : W0.heap.size ≤ B1) : Dep B1 (fun (_ : β) W => KC n₀ B W0 W) := fun s W W' g hs =>
  ⟨hs.1.trans (g.mono hn), fun b C t f hb hc => (g.block b (by have := (Array.getElem?_eq_some_iff.1 hc).1; omega)).trans (hs.2 b C t f hb hc)⟩
theorem kc_b {n₀ B : Nat} {w : World} (hn : n₀ ≤ w.heap.size) (W : World) (l : Nat) (o o' : Obj) (hl : w.heap.size ≤ l) (h : W.heap[l]? = some o) (hc : o.isCells = false) (hw : o.isWalk = false) : KC n₀ B W (W.putObj l o') :=
  ⟨belowK_b hn W l o o' hl h hc hw, fun b C t f _ hb => by
    have hne : b ≠ l := fun e => by subst e; rw [h] at hb; cases hb; cases hc
    rw [World.putObj_heap_other hne]; exact hb⟩
set_option maxHeartbeats 2000000 in
theorem nets1_in (w : World) (B Bx l m : Nat) (L : List PartT) (hBw : w.heap.size ≤ B) (J Jx : List (PartW w) → World → Prop) (hJg : ∀ pre W W', Below W.heap.size W W' → J pre W → J pre W')
    (n : Nat) (hY : ∀ pre (x : PartW w) W, J pre W → Fit L pre [x.1.2] → YieldAt Fence.wide (n - 1) Tryd.prog l #[x.1.1] W fun e W' => (e = .returned (.bool true) ∧ J (pre ++ [x]) W' ∧ KC w.heap.size B W W') ∨ (e = .returned (.bool false) ∧ Jx (pre ++ [x]) W'))
    (v : Value) (kids : List NetT) (W : World) (hb : Below w.heap.size w W) (hBW : B < W.heap.size) (hc : W.cell? ⟨Bx, 0, none⟩ = some v) (hr : RowB W B 4 (NetIs w 0 m) v kids) (hw : (kids.map (wN m)).sum ≤ 1048576) (hJ : J [] W) (hN : Fit (w := w) L [] (kids.flatMap (pNet m))) :
      CallsIn Fence.wide n Tryd.prog 63 #[.func (.yield l) #[] #[], .pointer (some ⟨Bx, 0, none⟩)] W fun e W' =>
        (∃ v, e = .returned v) ∧ ((∃ ys, ghosts ys = kids.flatMap (pNet m) ∧ J ys W') ∨ (∃ q, Jx q W')) := by
  have hdd : ∀ k : Nat, (Fence.wide.depth.isSome = true → 1 ≤ k) := fun k h => by cases h
  have hmf : ∀ (fn : Fn) (first cap : Array Value) (w : World), (Instr.makeFunc fn first cap).run Tryd.prog w = .ok (.func fn first cap) w := fun _ _ _ _ => rfl
  have stf : ∀ (fn : Fn) (first cap : Array Value) (w : World) (a : Addr) (m : Mode), (store a (.func fn first cap) m).run Tryd.prog w = stored Tryd.prog w a (.func fn first cap) m := fun _ _ _ w a m => run_store Tryd.prog w a _ m rfl
  have hr0 := hr
  obtain ⟨a, cap, rfl, _, _⟩ := hr0
  have lx : Bx < W.heap.size := World.block_lt_of_cell? _ _ hc
  obtain ⟨W1, hW1⟩ : ∃ W1, W1 = ((W.alloc (.cells #[.func (.yield l) #[] #[]] 97)).alloc (.cells #[.func (.func 64) #[] #[.pointer (some ⟨W.heap.size, 0, none⟩), .pointer (some ⟨W.heap.size + 1, 0, none⟩)]] 98)) := ⟨_, rfl⟩
  have g1 : Below W.heap.size W W1 := by rw [hW1]; exact ((Below.refl _ _).alloc (Nat.le_refl _) _).alloc (by simp) _
  have hk := rows2 W (.cells #[.func (.yield l) #[] #[]] 97) (.cells #[.func (.func 64) #[] #[.pointer (some ⟨W.heap.size, 0, none⟩), .pointer (some ⟨W.heap.size + 1, 0, none⟩)]] 98)
  rw [← hW1] at hk
  have hca := nets_in w B l W.heap.size (W.heap.size + 1) L hBw (by omega) (by omega) J Jx (fun pre W o h => hJg pre W _ ((Below.refl _ _).alloc (Nat.le_refl _) _) h) (fun pre x W h hl => yield_any 0 (hY pre x W h hl)) m (n - 1) _ kids [] W1 (hb.trans (g1.mono hb.size)) (Nat.lt_of_lt_of_le hBW g1.size) hk.1 hk.2 (hr.keep (KC.of_below (n₀ := w.heap.size) g1 hb.size)) hw (hJg _ _ _ g1 hJ) hN
  have cx : W1.cell? ⟨Bx, 0, none⟩ = some (.slice a kids.length cap) := (Keeps.of_below g1 0) _ _ _ (Nat.zero_le _) hc
  rw [hW1] at hca cx
  clear hk g1 hW1 hY hJg
  refine callsIn_of_wp Tryd.func63 rfl trivial ?_ rfl
  simp only [Tryd.ntmps63, List.size_toArray, List.length_cons, List.length_nil, Nat.reduceAdd, Nat.reduceSub, Array.replicate_succ, Array.replicate_zero, List.push_toArray, List.append_toArray, List.nil_append, List.cons_append]
  gi_wp2
  refine ⟨trivial, hdd _, ?_⟩
  refine hca.mono ?_
  rintro e W3 (⟨rfl, ⟨ys, hys, hJ3⟩, _⟩ | ⟨rfl, q, hx⟩)
  · gi_wp2
    go_end0
    exact ⟨⟨_, rfl⟩, .inl ⟨ys, hys, by simpa using hJ3⟩⟩
  · gi_wp2
    go_end0
    exact ⟨⟨_, rfl⟩, .inr ⟨q, hx⟩⟩
set_option maxHeartbeats 1000000 in
theorem nets_call (a : Option Addr) (l c : Nat) (w : World) : Calls Tryd.prog 45 #[.slice a l c] w fun e w' => e = .returned (.func (.func 63) #[] #[.pointer (some ⟨w.heap.size, 0, none⟩)]) ∧ w' = w.alloc (.cells #[.slice a l c] 27) := by
  have hmf : ∀ (fn : Fn) (first cap : Array Value) (w : World), (Instr.makeFunc fn first cap).run Tryd.prog w = .ok (.func fn first cap) w := fun _ _ _ _ => rfl
  go_enter Tryd.func45, Tryd.ntmps45
  go_wp2
  go_ret
  exact ⟨rfl, rfl⟩
end Go.Proofs.YtkppcmpdghnmgaaDoor
/- The parts of a ladder: the closure over arms. -/
namespace Go.Proofs.YtkppcmpdghnmgaaDoor
open Go.RowKit Go.Shelf
set_option linter.unusedVariables false

set_option maxHeartbeats 1000000 in
theorem nothing_g (op : Int) (a : Option Addr) (l c : Nat) (w : World) (hl : l ≤ 9223372036854775807) :
    Calls Tryd.prog 40 #[.agg #[.int .i64 op, .slice a l c]] w fun e w' => e = .returned (.bool (decide (op = 0) && decide (l = 0))) ∧ Below w.heap.size w w' := by
  have b0 : ∀ A, Below w.heap.size w (w.alloc A) := fun A => (Below.refl _ _).alloc (Nat.le_refl _) _
  by_cases h1 : op = 0
  · subst h1
    by_cases h2 : l = 0
    · subst h2
      go_enter Tryd.func40, Tryd.ntmps40
      go_wp2
      go_ret
      exact ⟨by simp, b0 _⟩
    · have e1 : ((l : Int) == 0) = false := by simp; omega
      go_enter Tryd.func40, Tryd.ntmps40
      go_wp2
      go_ret
      exact ⟨by simp [h2], b0 _⟩
  · have e1 : (op == 0) = false := by simp [h1]
    go_enter Tryd.func40, Tryd.ntmps40
    go_wp2
    go_ret
    exact ⟨by simp [h1], b0 _⟩

set_option maxHeartbeats 1000000 in
theorem none_i (k op : Int) (a1 : Option Addr) (l1 c1 : Nat) (a2 : Option Addr) (l2 c2 : Nat) (w : World) (h1 : l1 ≤ 9223372036854775807) (h2 : l2 ≤ 9223372036854775807) :
    Calls Tryd.prog 61 #[.agg #[.int .i64 k, .int .i64 op, .slice a1 l1 c1, .slice a2 l2 c2]] w fun e w' => e = .returned (.bool (decide (k = 0) && decide (op = 0) && decide (l1 = 0) && decide (l2 = 0))) ∧ Below w.heap.size w w' := by
  have HN : Hid (∀ W, Calls Tryd.prog 40 #[.agg #[.int .i64 op, .slice a1 l1 c1]] W fun e w' => e = .returned (.bool (decide (op = 0) && decide (l1 = 0))) ∧ Below W.heap.size W w') := fun W => nothing_g op a1 l1 c1 W h1
  rw [Bool.and_assoc (decide (k = 0)) (decide (op = 0)) (decide (l1 = 0))]
  generalize (decide (op = 0) && decide (l1 = 0)) = r at HN ⊢
  have b0 : Below w.heap.size w (w.alloc (.cells #[.int .i64 k, .int .i64 op, .slice a1 l1 c1, .slice a2 l2 c2] 29)) := (Below.refl _ _).alloc (Nat.le_refl _) _
  by_cases hk : k = 0
  · subst hk
    have k0 := heap_alloc_last w (.cells #[.int .i64 0, .int .i64 op, .slice a1 l1 c1, .slice a2 l2 c2] 29)
    have K0 : Hid ((w.alloc (.cells #[.int .i64 0, .int .i64 op, .slice a1 l1 c1, .slice a2 l2 c2] 29)).heap[w.heap.size]? = some (.cells #[.int .i64 0, .int .i64 op, .slice a1 l1 c1, .slice a2 l2 c2] 29 (0, 0))) := k0
    clear k0
    go_enter Tryd.func61, Tryd.ntmps61
    go_wp2_with fail
    refine (HN.out _).mono ?_
    rintro e w1 ⟨rfl, g1⟩
    have c3 : w1.cell? ⟨w.heap.size, 3, none⟩ = some (.slice a2 l2 c2) := (cell_of_row _ _ _ _ _ _ ((g1.block _ (by simp)).trans K0.out)).trans rfl
    have b1 := b0.trans (g1.mono b0.size)
    clear g1 b0 K0
    cases r with
    | false =>
      clear c3
      go_wp2
      go_ret
      exact ⟨by simp, b1⟩
    | true =>
      by_cases hl : l2 = 0
      · subst hl
        go_wp2
        go_ret
        exact ⟨by simp, b1⟩
      · have e1 : ((l2 : Int) == 0) = false := by simp; omega
        go_wp2
        go_ret
        exact ⟨by simp [hl], b1⟩
  · have e1 : (k == 0) = false := by simp [hk]
    go_enter Tryd.func61, Tryd.ntmps61
    go_wp2
    go_ret
    exact ⟨by simp [hk], b0⟩

end Go.Proofs.YtkppcmpdghnmgaaDoor
/- The parts of a net, handed on by a range within the iterator over a ladder. -/
namespace Go.Proofs.YtkppcmpdghnmgaaDoor
open Go.RowKit Go.Shelf
set_option linter.unusedVariables false
attribute [local go_sem] Oper.semAt_some

/-- What a round keeps: all rows of cells but one, and what is no cells from b0 on. -/
def KD (n₀ B b0 : Nat) (W W' : World) : Prop := KC n₀ B W W' ∧ KeepsFrom b0 W W'
theorem KD.trans {n₀ B b0 : Nat} {W W' W'' : World} (h : KD n₀ B b0 W W') (h' : KD n₀ B b0 W' W'') : KD n₀ B b0 W W'' := ⟨h.1.trans h'.1, h.2.trans h'.2⟩
/-- What a round that stops keeps: what lies from b0 on. -/
def KQ (b0 : Nat) (W W' : World) : Prop := (∀ b C t f, b0 ≤ b → W.heap[b]? = some (.cells C t f) → W'.heap[b]? = some (.cells C t f)) ∧ KeepsFrom b0 W W'
theorem KQ.trans {b0 : Nat} {W W' W'' : World} (h : KQ b0 W W') (h' : KQ b0 W' W'') : KQ b0 W W'' := ⟨fun b C t f hb hc => h'.1 b C t f hb (h.1 b C t f hb hc), h.2.trans h'.2⟩
theorem rows4 (w : World) (o0 o1 o2 o3 : Obj) : ((((w.alloc o0).alloc o1).alloc o2).alloc o3).heap[w.heap.size]? = some o0 ∧ ((((w.alloc o0).alloc o1).alloc o2).alloc o3).heap[w.heap.size + 1]? = some o1 ∧ ((((w.alloc o0).alloc o1).alloc o2).alloc o3).heap[w.heap.size + 1 + 1]? = some o2 ∧ ((((w.alloc o0).alloc o1).alloc o2).alloc o3).heap[w.heap.size + 1 + 1 + 1]? = some o3 := by
  have h3 := rows3 w o0 o1 o2
  have hz : (((w.alloc o0).alloc o1).alloc o2).heap.size = w.heap.size + 1 + 1 + 1 := by simp
  refine ⟨(heap_alloc_old _ _ (h := by omega)).trans h3.1, (heap_alloc_old _ _ (h := by omega)).trans h3.2.1, (heap_alloc_old _ _ (h := by omega)).trans h3.2.2, ?_⟩
  rw [← hz]; exact heap_alloc_last _ _
/-- The list that one net makes. -/
theorem rowB_one {R : NetT → List Value → Prop} {W : World} {B : Nat} {c0 c1 c2 c3 : Value} {t : NetT} (hB : B < W.heap.size) (hR : R t [c0, c1, c2, c3]) :
    RowB (W.alloc (.cells #[c0, c1, c2, c3] 29)) B 4 R (.slice (some ⟨W.heap.size, 0, none⟩) 1 1) [t] := by
  refine ⟨some ⟨W.heap.size, 0, none⟩, 1, rfl, by simp, fun j x hj => ?_⟩
  have hj0 : j = 0 := by have := (List.getElem?_eq_some_iff.1 hj).1; simpa using this
  subst hj0
  simp only [List.getElem?_cons_zero, Option.some.injEq] at hj
  subst hj
  refine ⟨W.heap.size, 0, [c0, c1, c2, c3], rfl, by omega, rfl, fun i c hi => ?_, hR⟩
  rw [cell_of_row _ _ _ _ _ _ (heap_alloc_last W _)]
  simpa using hi

end Go.Proofs.YtkppcmpdghnmgaaDoor
/- The parts of a ladder: the closure over arms, a round. -/
namespace Go.Proofs.YtkppcmpdghnmgaaDoor
open Go.RowKit Go.Shelf
set_option linter.unusedVariables false
attribute [local go_sem] Oper.semAt_some

end Go.Proofs.YtkppcmpdghnmgaaDoor
/- The parts of a ladder: the iterator's contract. -/
namespace Go.Proofs.YtkppcmpdghnmgaaDoor
open Go.RowKit Go.Shelf
set_option linter.unusedVariables false
attribute [local go_sem] Oper.semAt_some

theorem noneT_len (k : Int) (e : ElemT) (kids : List NetT) : noneT (.mk k e kids) = (decide (k = 0) && decide (e.op = 0) && decide (e.args.length = 0) && decide (kids.length = 0)) := by
  cases e with
  | mk op args => cases args <;> cases kids <;> simp [noneT]

end Go.Proofs.YtkppcmpdghnmgaaDoor
/- TreeSize of the program. -/
namespace Go.Proofs.YtkppcmpdghnmgaaDoor
open Go.RowKit Go.Shelf
set_option linter.unusedVariables false
attribute [local go_sem] Oper.semAt_some

def pSize : PartT → Nat
  | .inl _ => 1
  | .inr (.mk _ coils _, _) => 1 + coils.length
def sizes {w : World} (ys : List (PartW w)) : Nat := ((ghosts ys).map pSize).sum
theorem sizes_snoc {w : World} (ys : List (PartW w)) (x : PartW w) : sizes (ys ++ [x]) = sizes ys + pSize x.1.2 := by simp [sizes, ghosts]
theorem frozen_keep {W W' : World} (g : Below W.heap.size W W') {b o : Nat} {v : Value} (hf : W.frozen? ⟨b, o, none⟩ = false) (hc : W.cell? ⟨b, o, none⟩ = some v) : W'.frozen? ⟨b, o, none⟩ = false := by
  have hh := g.block b (World.block_lt_of_cell? _ _ hc)
  unfold World.frozen? at hf ⊢
  rw [hh]; exact hf
theorem kd_l {n₀ B : Nat} {W0 : World} (hn : n₀ ≤ W0.heap.size) (W : World) (r : Loop) (o' : Obj) (h : W.heap[W0.heap.size + 1]? = some (.loop r)) : KD n₀ B (W0.heap.size + 2) W (W.putObj (W0.heap.size + 1) o') :=
  ⟨kc_b (w := W0) hn W _ _ o' (by omega) h rfl rfl, KeepsFrom.of_grownBy (grownBy_putObj' W _ o') (fun j e => by cases e; omega)⟩
theorem kq_l {b0 : Nat} {W0 : World} (hb : b0 ≤ W0.heap.size + 2) (W : World) (r : Loop) (o' : Obj) (h : W.heap[W0.heap.size + 1]? = some (.loop r)) : KQ (W0.heap.size + 2) W (W.putObj (W0.heap.size + 1) o') :=
  ⟨fun b C t f hb' hc => by rw [World.putObj_heap_other (by omega)]; exact hc, KeepsFrom.of_grownBy (grownBy_putObj' W _ o') (fun j e => by cases e; omega)⟩
theorem dep_below {β : Type} {n₀ b : Nat} {w : World} (h : n₀ ≤ b) : Dep b (fun (_ : β) W => Below n₀ w W) := fun s W W' g hs => hs.trans (g.mono h)
theorem dep_cell {b k o : Nat} {v : Value} {W W' : World} (g : Below b W W') (h : k < b) (hc : W.cell? ⟨k, o, none⟩ = some v) : W'.cell? ⟨k, o, none⟩ = some v := by
  have e := g.block k h
  unfold World.cell? at hc ⊢
  rw [e]; exact hc
theorem dep_frozen {b k o : Nat} {v : Bool} {W W' : World} (g : Below b W W') (h : k < b) (hc : W.frozen? ⟨k, o, none⟩ = v) : W'.frozen? ⟨k, o, none⟩ = v := by
  have e := g.block k h
  unfold World.frozen? at hc ⊢
  rw [e]; exact hc
theorem wrap_small64 {x : Int} (h0 : 0 ≤ x) (h1 : x ≤ 9223372036854775807) : IntKind.i64.wrap x = x := by rw [IntKind.wrap_i64]; omega
/-- A round ends: one cell is put. -/
theorem round_end {n₀ B : Nat} {W W1 w' : World} (hn : n₀ ≤ B) (hW : n₀ ≤ W.heap.size) (e1 : W1 = W ∨ W1 = W.drew) (g : Below W1.heap.size W1 w') {x : Value} (hc : w'.cell? ⟨B, 0, none⟩ = some x) (hf : w'.frozen? ⟨B, 0, none⟩ = false) (v : Value) :
    KeepsOthers W (w'.setCell ⟨B, 0, none⟩ v) ∧ KC n₀ B W (w'.setCell ⟨B, 0, none⟩ v) ∧ (w'.setCell ⟨B, 0, none⟩ v).cell? ⟨B, 0, none⟩ = some v ∧ (w'.setCell ⟨B, 0, none⟩ v).frozen? ⟨B, 0, none⟩ = false := by
  have k1 : KeepsOthers W W1 ∧ Below n₀ W W1 ∧ W1.heap = W.heap := by
    rcases e1 with rfl | rfl
    · exact ⟨KeepsOthers.refl _, Below.refl _ _, rfl⟩
    · exact ⟨KeepsOthers.drew _, (Below.refl _ _).drew, rfl⟩
  have hg : W1.grownBy w' none := ⟨g.os, g.tape, g.output, g.size, fun k hk _ => g.block k hk⟩
  refine ⟨(k1.1.trans (KeepsOthers.of_grownBy hg (fun j o e => by cases e))).trans (KeepsOthers.setCell _ _ _), ⟨(k1.2.1.trans (g.mono (by rw [k1.2.2]; exact hW))).setCell (p := ⟨B, 0, none⟩) hn _, fun b C t f hb hr => ?_⟩, World.cell?_setCell_same' _ _ _ (by rw [hc]; rfl), by rw [World.frozen?_setCell]; exact hf⟩
  have h2 : w'.heap[b]? = some (.cells C t f) := (g.block b (by rw [k1.2.2]; exact (Array.getElem?_eq_some_iff.1 hr).1)).trans (by rw [k1.2.2]; exact hr)
  exact row_other h2 B 0 (fun e => hb e.symm) v

end Go.Proofs.YtkppcmpdghnmgaaDoor
/- The specification's TreeSize. -/
namespace Go.Proofs.YtkppcmpdghnmgaaDoor
open Go.RowKit
set_option linter.unusedVariables false

def szP (ps : List PartT) : Nat := (ps.map pSize).sum
theorem szP_flat {α : Type} (f : α → List PartT) : ∀ xs : List α, szP (xs.flatMap f) = (xs.map fun x => szP (f x)).sum
  | [] => rfl
  | x :: xs => by
    have h := szP_flat f xs
    simp only [szP, List.flatMap_cons, List.map_append, List.sum_append, List.map_cons, List.sum_cons] at h ⊢
    rw [h]
theorem szP_len : ∀ ps : List PartT, ps.length ≤ szP ps
  | [] => Nat.le_refl _
  | p :: ps => by
    have h := szP_len ps
    have h1 : 1 ≤ pSize p := by
      cases p with
      | inl t => exact Nat.le_refl _
      | inr a => obtain ⟨a, r⟩ := a; cases a; show 1 ≤ 1 + _; omega
    simp only [szP, List.map_cons, List.sum_cons, List.length_cons] at h ⊢
    omega
theorem sum_le_sum {α : Type} (f g : α → Nat) : ∀ xs : List α, (∀ x ∈ xs, f x ≤ g x) → (xs.map f).sum ≤ (xs.map g).sum
  | [], _ => Nat.le_refl _
  | x :: xs, h => by
    have h1 := sum_le_sum f g xs (fun y hy => h y (List.mem_cons_of_mem _ hy))
    have h2 := h x (List.mem_cons_self ..)
    simp only [List.map_cons, List.sum_cons]; omega
theorem sum_add_one {α : Type} (g : α → Nat) : ∀ xs : List α, (xs.map fun x => 1 + g x).sum = xs.length + (xs.map g).sum
  | [] => rfl
  | x :: xs => by
    have := sum_add_one g xs
    simp only [List.map_cons, List.sum_cons, List.length_cons]; omega
theorem sum_twice {α : Type} (g : α → Nat) : ∀ xs : List α, (xs.map fun x => 2 + 2 * g x).sum = 2 * (xs.length + (xs.map g).sum)
  | [] => rfl
  | x :: xs => by
    have := sum_twice g xs
    simp only [List.map_cons, List.sum_cons, List.length_cons]; omega
theorem szNet_le : ∀ (m : Nat) (t : NetT), szP (pNet m t) ≤ 1 + wN m t
  | 0, _ => Nat.zero_le _
  | m + 1, .mk k e kids => by
    have h := sum_le_sum (fun x => szP (pNet m x)) (fun x => 1 + wN m x) kids (fun x _ => szNet_le m x)
    rw [sum_add_one, ← szP_flat] at h
    show 1 + szP (kids.flatMap (pNet m)) ≤ 1 + (wE e + (kids.length + (kids.map (wN m)).sum))
    omega
theorem szP_flag (m : Nat) (r : Bool) (t : ArmT) : szP (pArm m r t) = szP (pArm m false t) := by
  cases m with
  | zero => rfl
  | succ m => cases t; simp [pArm, szP, pSize]
theorem szP_app (a b : List PartT) : szP (a ++ b) = szP a + szP b := by simp [szP]
theorem szArm_le : ∀ (m : Nat) (t : ArmT), szP (pArm m false t) ≤ 2 + 2 * wA m t
  | 0, _ => Nat.zero_le _
  | m + 1, .mk net coils kids => by
    have h := sum_le_sum (fun x => szP (pArm m false x)) (fun x => 2 + 2 * wA m x) kids (fun x _ => szArm_le m x)
    rw [sum_twice, ← szP_flat] at h
    have h2 := szNet_le m net
    have h3 : szP (if noneT net then ([] : List PartT) else pNet m net) ≤ 1 + wN m net := by
      cases noneT net
      · exact h2
      · exact Nat.zero_le _
    have e1 : szP (pArm (m + 1) false (.mk net coils kids)) = szP (if noneT net then ([] : List PartT) else pNet m net) + ((1 + coils.length) + szP (kids.flatMap (pArm m false))) := by
      show szP ((if noneT net then ([] : List PartT) else pNet m net) ++ .inr (.mk net coils kids, false) :: kids.flatMap (pArm m false)) = _
      rw [szP_app]; rfl
    rw [e1, show wA (m + 1) (ArmT.mk net coils kids) = wN m net + (coils.length + (coils.map wE).sum) + (kids.length + (kids.map (wA m)).sum) from rfl]
    omega
theorem szArms_le (m : Nat) (xs : List ArmT) : szP (xs.flatMap (pArm m false)) ≤ 2 * (xs.length + (xs.map (wA m)).sum) := by
  have h := sum_le_sum (fun x => szP (pArm m false x)) (fun x => 2 + 2 * wA m x) xs (fun x _ => szArm_le m x)
  rw [sum_twice, ← szP_flat] at h
  exact h

set_option maxRecDepth 10000 in
set_option maxHeartbeats 2000000 in
theorem ss_net_step (m : Nat) (k op : Int) (v1 : Value) (p1 : v1.oneCell' = true) (v : Value) (xs : List NetT) (w : World) (lo : Nat) (hv : RowIs w lo 4 (NetIs w lo m) v xs)
    (HC : Hid (∀ x cs, x ∈ xs → ∀ (W : World), (NetIs W lo m) x cs → Calls Tryd.prog 17 #[.agg cs.toArray] W fun r w' => r = .returned (.int .i64 (((fun x => szP (pNet m x)) x : Nat) : Int)) ∧ Below W.heap.size W w'))
    (HM : Hid (∀ x cs (W : World), Below w.heap.size w W → (NetIs w lo m) x cs → (NetIs W lo m) x cs)) (hbig : 1 + (xs.map (fun x => szP (pNet m x))).sum ≤ 4194304) :
    Calls Tryd.prog 17 #[.agg #[.int .i64 k, .int .i64 op, v1, v]] w fun r w' => r = .returned (.int .i64 ((1 + (xs.map (fun x => szP (pNet m x))).sum : Nat) : Int)) ∧ Below w.heap.size w w' := by
  obtain ⟨a, cap, rfl, hl, hx⟩ := hv
  have HX : Hid (∀ j x, xs[j]? = some x → ∃ b o cs, a = some ⟨b, o, none⟩ ∧ lo ≤ b ∧ cs.length = 4 ∧ w.rangeAt b (o + j * 4) cs ∧ (NetIs w lo m) x cs) := hx
  have HTot : Hid (∀ n, ((xs.take n).map (fun x => szP (pNet m x))).sum ≤ (xs.map (fun x => szP (pNet m x))).sum) := fun n => sum_take_le _ _ _
  obtain ⟨len, HL⟩ : ∃ len, Hid (len = xs.length) := ⟨_, rfl⟩
  rw [← HL.out] at hl ⊢
  clear hx
  obtain ⟨A0, hA0⟩ : ∃ A0 : Nat, A0 = 1 := ⟨_, rfl⟩
  have HBig : A0 + (xs.map (fun x => szP (pNet m x))).sum ≤ 4194304 := by omega
  obtain ⟨RES, HRES⟩ : ∃ r, Hid (r = A0 + (xs.map (fun x => szP (pNet m x))).sum) := ⟨_, rfl⟩
  rw [show 1 + (xs.map (fun x => szP (pNet m x))).sum = RES by rw [HRES.out]; omega]
  have hk := heap_alloc_last w (.cells #[.int .i64 k, .int .i64 op, v1, .slice a len cap] 29)
  have HKb : Hid ((w.alloc (.cells #[.int .i64 k, .int .i64 op, v1, .slice a len cap] 29)).heap[w.heap.size]? = some (.cells #[.int .i64 k, .int .i64 op, v1, .slice a len cap] 29 (0, 0))) := hk
  clear hk
  go_enter Tryd.func17, Tryd.ntmps17
  go_wp2
  go_loopg [3, 4] len (fun g s i wr => ∃ n S : Nat, n + g = len ∧ i = .int .i64 n ∧ s = .int .i64 (((A0 + S : Nat)) : Int) ∧ Hid (S = ((xs.take n).map ((fun x => szP (pNet m x)))).sum) ∧ A0 + S ≤ 4194304 ∧ Below w.heap.size w wr ∧ wr.heap[w.heap.size]? = some (.cells #[.int .i64 k, .int .i64 op, v1, .slice a len cap] 29 (0, 0)))
  case atStart => exact ⟨0, 0, by omega, rfl, by rw [hA0]; rfl, (by simp : (0 : Nat) = ((xs.take 0).map ((fun x => szP (pNet m x)))).sum), by omega, (Below.refl _ _).alloc (Nat.le_refl _) _, HKb.out⟩
  case round =>
    obtain ⟨n, S, hn, rfl, rfl, HS, hS, hb, hk0⟩ := hrel
    have c0 : wr.cell? ⟨w.heap.size, 3, none⟩ = some (.slice a len cap) := (cell_of_row _ _ _ _ _ _ hk0).trans rfl
    by_cases hlt : n < len
    · have i2 : (n : Int) < (len : Int) := by omega
      have i3 : (0 : Int) ≤ (n : Int) := by omega
      obtain ⟨x, hxn⟩ : ∃ x, xs[n]? = some x := ⟨_, List.getElem?_eq_getElem (by have := HL.out; omega)⟩
      obtain ⟨b, o, cs, rfl, hlo, hcs, hrg, hR⟩ := HX.out n x hxn
      have HB : Hid (Below w.heap.size w wr) := hb
      have HLd : Hid ((loadVar 29 ⟨b, o + n * 4, none⟩).run Tryd.prog wr = .ok (.agg cs.toArray) wr) := run_loadVar_mid wr b (o + n * 4) 29 cs _ (fun i c hi => (Keeps.of_below hb 0) _ _ _ (Nat.zero_le _) (hrg i c hi)) Tryd.underlying29 rfl (by rw [hcs]; kernel_rfl)
      have HCx : Hid (Calls Tryd.prog 17 #[.agg cs.toArray] wr fun r w' => r = .returned (.int .i64 (((fun x => szP (pNet m x)) x : Nat) : Int)) ∧ Below wr.heap.size wr w') := HC.out x cs (List.mem_of_getElem? hxn) wr (HM.out x cs wr hb hR)
      have HS' : Hid (S + (fun x => szP (pNet m x)) x = ((xs.take (n + 1)).map ((fun x => szP (pNet m x)))).sum) := (by rw [sum_take _ _ _ _ hxn, HS.out] : S + (fun x => szP (pNet m x)) x = ((xs.take (n + 1)).map ((fun x => szP (pNet m x)))).sum)
      have hle : A0 + (S + (fun x => szP (pNet m x)) x) ≤ 4194304 := by rw [HS'.out]; have := HTot.out (n + 1); omega
      obtain ⟨q, Hq⟩ : ∃ q, Hid (q = (fun x => szP (pNet m x)) x) := ⟨_, rfl⟩
      rw [← Hq.out] at HCx HS' hle
      have w1 : ((A0 + S : Nat) : Int) + (q : Int) ≤ 4194304 := by omega
      have w0 : (0 : Int) ≤ ((A0 + S : Nat) : Int) + (q : Int) := by omega
      have HK : Hid (wr.heap[w.heap.size]? = some (.cells #[.int .i64 k, .int .i64 op, v1, .slice (some ⟨b, o, none⟩) len cap] 29 (0, 0))) := hk0
      clear hb hrg hcs hR HS hlo hk0
      go_wp2_with (first | (refine wpL_load rfl 29 _ rfl _ _ rfl _ HLd.out ?_) | fail)
      refine HCx.out.mono ?_
      rintro r w1 ⟨rfl, g1⟩
      have b1 : Below w.heap.size w w1 := HB.out.trans (g1.mono HB.out.size)
      have k1 : Hid (w1.heap[w.heap.size]? = some (.cells #[.int .i64 k, .int .i64 op, v1, .slice (some ⟨b, o, none⟩) len cap] 29 (0, 0))) := (g1.block _ (Array.getElem?_eq_some_iff.1 HK.out).1).trans HK.out
      clear g1 HCx HLd c0
      go_wp2
      go_roundg (gk - 1)
      case measure => omega
      case rel => exact ⟨n + 1, S + q, by omega, by simp, congrArg (Value.int .i64) (by omega), HS', hle, b1, k1.out⟩
    · have i2 : ¬ ((n : Int) < (len : Int)) := by omega
      have hSt : S = (xs.map ((fun x => szP (pNet m x)))).sum := by rw [HS.out, List.take_of_length_le (by have := HL.out; omega)]
      have HSt : Hid (S = (xs.map ((fun x => szP (pNet m x)))).sum) := hSt
      clear hSt
      go_wp2
      go_ret
      exact ⟨by rw [HRES.out, ← HSt.out]; exact congrArg (fun z => Ending.returned (Value.int .i64 z)) (by omega), hb⟩


theorem ss_net : ∀ (m : Nat) (t : NetT) (cs : List Value) (w : World) (lo : Nat) (hv : NetIs w lo m t cs) (hbig : szP (pNet m t) ≤ 4194304),
    Calls Tryd.prog 17 #[.agg cs.toArray] w fun r w' => r = .returned (.int .i64 (szP (pNet m t) : Nat)) ∧ Below w.heap.size w w'
  | 0, _, _, _, _, h, _ => h.elim
  | m + 1, .mk k e kids, cs, w, lo, hv, hbig => by
    obtain ⟨v, v', rfl, ha, hk⟩ := hv
    have e1 : szP (pNet (m + 1) (.mk k e kids)) = 1 + (kids.map fun x => szP (pNet m x)).sum := by
      rw [← szP_flat]; rfl
    rw [e1] at hbig ⊢
    exact ss_net_step m k e.op v ha.one v' kids w lo hk (fun x cs hx W h => ss_net m x cs W lo h (by have := sum_mem (fun x => szP (pNet m x)) kids x hx; omega)) (fun x cs W g h => NetIs.move (Keeps.of_below g lo) (Nat.le_refl _) _ _ (Nat.le_refl _) _ _ h) hbig
end Go.Proofs.YtkppcmpdghnmgaaDoor
