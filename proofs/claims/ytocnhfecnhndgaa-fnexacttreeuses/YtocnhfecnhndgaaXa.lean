/- A range over a function whose iterator may itself hold such a range: what each round keeps is told where it goes on and where it stops. -/
import Derived.RangeFuncNested
import Derived.RangeFuncBound
import Derived.RangeFuncCalls
import Derived.RangeFuncLeaves
import Derived.RangeFuncKeeps
import Derived.RangeFuncFrom
import Derived.Shelf.Abstract
import Derived.Shelf.RegionOpen
import Derived.WalkKit
import Derived.OwnWalkIn
import Derived.TacticsInMore
import Derived.LoopNIn
import Derived.LoopIn
import Derived.Test.YtocnhfecnhndgaaGf
namespace Go.Proofs.Ytocnhfecnhndgaa
open Go.RowKit Go.Shelf
set_option linter.unusedVariables false

/-- What is said of a world lies below b. -/
def Dep {β : Type} (b : Nat) (J : β → World → Prop) : Prop := ∀ s W W', Below b W W' → J s W → J s W'
theorem Dep.mono {β : Type} {b b' : Nat} {J : β → World → Prop} (h : Dep b J) (hb : b ≤ b') : Dep b' J := fun s W W' g hJ => h s W W' (g.mono hb) hJ
theorem below_putObj {b l : Nat} {W : World} {o : Obj} (h : W.heap[l]? = some o) (hb : b ≤ l) (o' : Obj) : Below b W (W.putObj l o') :=
  (Below.refl b W).grown (grownBy_putObj' W l o') (by have := (Array.getElem?_eq_some_iff.1 h).1; omega) (fun k e => by cases e; exact hb)

/-- An iterator's contract: its rounds keep Kp where they go on and Kq where they stop; the caller's invariants speak of what lay ahead of the call alone. -/
def SeqN {α : Type} (n : Nat) (P : Program) (g : Nat) (lb : Array Value) (encs : α → Array Value) (Kp Kq : World → World → Prop) (S : List α → Prop) (N : Nat) (w : World) : Prop :=
  ∀ (l : Nat) (J Jx : List α → World → Prop) (W : World), Below w.heap.size w W → w.heap.size + 2 ≤ W.heap.size → Dep W.heap.size J → Dep W.heap.size Jx →
    (∀ pre x W1, J pre W1 → pre.length < N → YieldAt Fence.wide (n - 1) P l (encs x) W1 fun e W' => (e = .returned (.bool true) ∧ Kp W1 W' ∧ J (pre ++ [x]) W') ∨ (e = .returned (.bool false) ∧ Kq W1 W' ∧ Jx (pre ++ [x]) W')) →
    J [] W → CallsIn Fence.wide n P g (#[.func (.yield l) #[] #[]] ++ lb) W fun e W' => (∃ v, e = .returned v) ∧ ((∃ xs, S xs ∧ J xs W') ∨ ∃ pre, Jx pre W')
/-- How a round may end. -/
def postN {α : Type} (B : Nat) (Kp Kq : World → World → Prop) (I : List α → World → Prop) (Ix : Code → List α → World → Prop) (xs : List α) (W : World) (e : Exit) (W' : World) : Prop :=
  KeepsFrom B W W' ∧ (match e with | .normal => Kp W W' ∧ I xs W' | .ret => Kq W W' ∧ Ix .ret xs W' | .exit id => Kq W W' ∧ Ix (.exit id) xs W' | .goto t => Kq W W' ∧ Ix (.goto t) xs W' | _ => False)

theorem range_n {α : Type} {P : Program} {g : Operand} {ps : Array Tmp} {assign body : Code} {Q : Exit → Act → World → Prop} {a : Act} {w : World} {n : Nat} {gf : Nat} {lb : Array Value} (hg : a.eval g = .func (.func gf) #[] lb)
    (eg : ∀ args w, (callFunc gf args).run P w = .ok (.enter gf args) w) {encs : α → Array Value} {Kp Kq : World → World → Prop} {S : List α → Prop} {N : Nat} {w0 : World} (hseq : SeqN (n - 1) P gf lb encs Kp Kq S N w0)
    (hKt : ∀ {X Y Z : World}, Kp X Y → Kp Y Z → Kp X Z) (hKl : ∀ (W : World) (r : Loop) (o' : Obj), W.heap[w.heap.size + 1]? = some (.loop r) → Kp W (W.putObj (w.heap.size + 1) o')) (hQt : ∀ {X Y Z : World}, Kq X Y → Kq Y Z → Kq X Z) (hQl : ∀ (W : World) (r : Loop) (o' : Obj), W.heap[w.heap.size + 1]? = some (.loop r) → Kq W (W.putObj (w.heap.size + 1) o')) (hb0 : Below w0.heap.size w0 w) (hps : ∀ x, (encs x).size = ps.size)
    (I : List α → World → Prop) (Ix : Code → List α → World → Prop) (hI : Dep w.heap.size I) (hIx : ∀ c, Dep w.heap.size (Ix c)) (h0 : I [] w) (a₁ : α → Act)
    (hassign : ∀ (l : Nat) (x : α) (W : World) (K : Act → World → Prop), K (a₁ x) W →
      assign.wpIn (Fence.wide.inRound l) (n - 1 - 1) P (Exit.then K (fun _ _ _ => False)) { tmps := (ps.zip (encs x)).foldl (fun t (p, v) => t.setIfInBounds p v) a.tmps, defers := [] } W)
    (hbody : ∀ (l : Nat) (pre : List α) (x : α) (W : World), I pre W → pre.length < N → body.wpIn (Fence.wide.inRound l) (n - 1 - 1) P (fun e _ W' => postN w.heap.size Kp Kq I Ix (pre ++ [x]) W e W') (a₁ x) W)
    (hdone : ∀ (D : Nat) (xs : List α) (W : World), w.heap.size ≤ D → S xs → I xs W → W.heap[D]? = some (.deferred (some [])) → Q .normal { a with defers := { target := .collected D, args := #[] } :: a.defers } W)
    (hstop : ∀ (D : Nat) (c : Code) (pre : List α) (W : World), w.heap.size ≤ D → Ix c pre W → W.heap[D]? = some (.deferred (some [])) → c.wpIn Fence.wide n P Q { a with defers := { target := .collected D, args := #[] } :: a.defers } W) :
    (Code.rangeFunc g ps assign body).wpIn Fence.wide n P Q a w := by
  refine wpIn_rangeFunc fun fn hfn => ?_
  obtain ⟨R, hR⟩ : ∃ R : LoopState → Option Code → Loop, R = fun st pe => { state := st, pending := pe, fn, tmps := a.tmps, params := ps, assign, body, defers := w.heap.size } := ⟨_, rfl⟩
  obtain ⟨V, hV⟩ : ∃ V, V = (w.alloc (.deferred (some []))).alloc (.loop (R .ready none)) := ⟨_, rfl⟩
  have sV : V.heap.size = w.heap.size + 1 + 1 := by rw [hV]; simp
  have dV : V.heap[w.heap.size]? = some (.deferred (some [])) := by rw [hV]; exact (rows2 w _ _).1
  have lV : V.heap[w.heap.size + 1]? = some (.loop (R .ready none)) := by rw [hV]; exact (rows2 w _ _).2
  have iV : I [] V := by rw [hV]; exact hI _ _ _ (((Below.refl _ w).alloc (Nat.le_refl _) _).alloc (by simp) _) h0
  have bV : Below w0.heap.size w0 V := by rw [hV]; exact hb0.trans ((((Below.refl _ w).alloc (Nat.le_refl _) _).alloc (by simp) _).mono hb0.size)
  -- the law's two blocks beside the caller's word
  obtain ⟨Bk, hBk⟩ : ∃ Bk : Loop → World → Prop, Bk = fun r W => W.heap[w.heap.size + 1]? = some (.loop r) ∧ W.heap[w.heap.size]? = some (.deferred (some [])) := ⟨_, rfl⟩
  have depB : ∀ (r : Loop) (X Y : World), Below V.heap.size X Y → Bk r X → Bk r Y := by
    intro r X Y g h
    rw [hBk] at h ⊢
    exact ⟨(g.block _ (by omega)).trans h.1, (g.block _ (by omega)).trans h.2⟩
  have putL : ∀ {r : Loop} {X : World} (o' : Obj), X.heap[w.heap.size + 1]? = some (.loop r) → Below w.heap.size X (X.putObj (w.heap.size + 1) o') := fun o' h => below_putObj h (by omega) o'
  have turn : ∀ {r : Loop} (r' : Loop) {X : World}, Bk r X → Bk r' (X.putObj (w.heap.size + 1) (.loop r')) := by
    intro r r' X h
    rw [hBk] at h ⊢
    exact ⟨World.putObj_heap_same (Array.getElem?_eq_some_iff.1 h.1).1, (World.putObj_heap_other (by omega)).trans h.2⟩
  have atL : ∀ {r : Loop} {X : World}, Bk r X → X.heap[w.heap.size + 1]? = some (.loop r) := fun h => by rw [hBk] at h; exact h.1
  have atD : ∀ {r : Loop} {X : World}, Bk r X → X.heap[w.heap.size]? = some (.deferred (some [])) := fun h => by rw [hBk] at h; exact h.2
  have keepB : ∀ {r : Loop} {X Y : World}, Bk r X → KeepsFrom w.heap.size X Y → Bk r Y := fun h k => by
    rw [hBk] at h ⊢
    exact ⟨k.same _ _ (by omega) h.1 rfl, k.same _ _ (Nat.le_refl _) h.2 rfl⟩
  have bkV : Bk (R .ready none) V := by rw [hBk]; exact ⟨lV, dV⟩
  refine ⟨w.heap.size + 1, [{ target := .collected w.heap.size, args := #[] }], V, { target := .fn (.func gf) lb, args := #[.func (.yield (w.heap.size + 1)) #[] #[]] }, V, gf, #[.func (.yield (w.heap.size + 1)) #[] #[]] ++ lb, V, ?_, ?_, fun f' hf' => trivial, ?_, fun h => (by cases h), ?_⟩
  · rw [hV, hR]; exact run_enterLoop_outer _ _ _ _ _
  · simp only [resolve, hg]; simp [go_sem]
  · simp [invoke, go_sem, eg]
  have hc := hseq (w.heap.size + 1) (fun pre W => I pre W ∧ Bk (R .ready none) W) (fun pre W => ∃ c, Ix c pre W ∧ Bk (R .done (some c)) W) V bV (by have := hb0.size; omega)
    (fun s X Y g hs => ⟨hI s X Y (g.mono (by omega)) hs.1, depB _ X Y g hs.2⟩) (fun s X Y g hs => by obtain ⟨c, k1, k2⟩ := hs; exact ⟨c, hIx c s X Y (g.mono (by omega)) k1, depB _ X Y g k2⟩) ?_ ⟨iV, bkV⟩
  · refine hc.mono ?_
    rintro e W ⟨⟨v, rfl⟩, ⟨xs, hS, hi, hb⟩ | ⟨pre, c, hi, hb⟩⟩
    · have he := run_endLoop (P := P) (atL hb) (by rw [hR]; simp)
      have hp : (R .ready none).pending = none := by rw [hR]
      rw [hp] at he
      exact ⟨none, _, he, hdone _ xs _ (Nat.le_refl _) hS (hI _ _ _ (putL _ (atL hb)) hi) (atD (turn _ hb))⟩
    · have he := run_endLoop (P := P) (atL hb) (by rw [hR]; simp)
      have hp : (R .done (some c)).pending = some c := by rw [hR]
      rw [hp] at he
      exact ⟨some c, _, he, hstop _ c pre _ (Nat.le_refl _) (hIx c _ _ _ (putL _ (atL hb)) hi) (atD (turn _ hb))⟩
  · rintro pre x W ⟨hi, hb⟩ hlen
    have hy := run_yield (P := P) (args := encs x) (atL hb) (by rw [hR]; exact hps x)
    have hbr := run_beginRound (P := P) (atL hb) (by rw [hR])
    obtain ⟨rb, hrb⟩ : ∃ rb : Loop, rb = { R .ready none with state := .busy } := ⟨_, rfl⟩
    rw [← hrb] at hbr
    have hbb := turn rb hb
    have hib : I pre (W.putObj (w.heap.size + 1) (.loop rb)) := hI _ _ _ (putL _ (atL hb)) hi
    have e0 : (R .ready none).fn = fn ∧ (R .ready none).assign = assign ∧ (R .ready none).body = body ∧ (R .ready none).params = ps ∧ (R .ready none).tmps = a.tmps := by rw [hR]; exact ⟨rfl, rfl, rfl, rfl, rfl⟩
    rw [e0.1, e0.2.1, e0.2.2.1, e0.2.2.2.1, e0.2.2.2.2] at hy
    refine ⟨fn, _, assign, body, hy, roundIn_of_wpIn hfn (hassign _ x W _ ⟨_, hbr, ?_⟩)⟩
    refine wpIn_mono (hbody _ pre x _ hib hlen) ?_
    rintro e a3 W3 ⟨kf, he⟩
    have hb3 := keepB hbb kf
    have run : ∀ jump : Option Code, (Instr.endRound (w.heap.size + 1) jump).run P W3 = .ok (.bool jump.isNone) (W3.putObj (w.heap.size + 1) (.loop (R (if jump.isNone then .ready else .done) jump))) := fun jump => by
      have := run_endRound (P := P) jump (atL hb3)
      rw [hrb] at this
      rw [this, hR]
    cases e with
    | normal => exact ⟨_, _, run none, .inl ⟨rfl, hKt (hKt (hKl _ _ _ (atL hb)) he.1) (hKl _ _ _ (atL hb3)), hI _ _ _ (putL _ (atL hb3)) he.2, turn _ hb3⟩⟩
    | ret => exact ⟨_, _, run (some .ret), .inr ⟨rfl, hQt (hQt (hQl _ _ _ (atL hb)) he.1) (hQl _ _ _ (atL hb3)), _, hIx _ _ _ _ (putL _ (atL hb3)) he.2, turn _ hb3⟩⟩
    | exit id => exact ⟨_, _, run (some (.exit id)), .inr ⟨rfl, hQt (hQt (hQl _ _ _ (atL hb)) he.1) (hQl _ _ _ (atL hb3)), _, hIx _ _ _ _ (putL _ (atL hb3)) he.2, turn _ hb3⟩⟩
    | goto t => exact ⟨_, _, run (some (.goto t)), .inr ⟨rfl, hQt (hQt (hQl _ _ _ (atL hb)) he.1) (hQl _ _ _ (atL hb3)), _, hIx _ _ _ _ (putL _ (atL hb3)) he.2, turn _ hb3⟩⟩
    | panic ch => exact he.elim
    | outgrown => exact he.elim
end Go.Proofs.Ytocnhfecnhndgaa
