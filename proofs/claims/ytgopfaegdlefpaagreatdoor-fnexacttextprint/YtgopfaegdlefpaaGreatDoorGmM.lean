/- The parts of a ladder, one by one: what is handed to a round; the closure over nets. -/
import Derived.Test.YtgopfaegdlefpaaGreatDoorGfM
namespace Go.Proofs.YtgopfaegdlefpaaGreatDoor
open Go.RowKit Go.Shelf
set_option linter.unusedVariables false
attribute [local go_sem] Oper.semAt_some

/-- Where no depth is asked, a round serves at any. -/
theorem yield_any {m : Nat} (m' : Nat) {P : Program} {l : Nat} {args : Array Value} {W : World} {R : Ending → World → Prop} (h : YieldAt Fence.wide m P l args W R) : YieldAt Fence.wide m' P l args W R := by
  obtain ⟨fn, tmps, assign, body, hy, hR⟩ := h
  exact ⟨fn, tmps, assign, body, hy, hR.1, fun c cs _ => hR.2 c cs (fun d h => by cases h)⟩

abbrev PartT := NetT ⊕ (ArmT × Bool)
def pNet : Nat → NetT → List PartT
  | 0, _ => []
  | m + 1, .mk k e kids => .inl (.mk k e kids) :: kids.flatMap (pNet m)
def noneT : NetT → Bool
  | .mk k e kids => decide (k = 0) && decide (e.op = 0) && e.args.isEmpty && kids.isEmpty
def pArm : Nat → Bool → ArmT → List PartT
  | 0, _, _ => []
  | m + 1, r, .mk net coils kids => (if noneT net then [] else pNet m net) ++ .inr (.mk net coils kids, r) :: kids.flatMap (pArm m false)

/-- A part as it is handed to a round; its memory as it lay in the world w. -/
def POk (w : World) (x : Value × PartT) : Prop :=
  match x.2 with
  | .inl t => ∃ m cs, NetIs w 0 m t cs ∧ wN m t ≤ 1048576 ∧ x.1 = .iface 205 (.agg cs.toArray)
  | .inr a => ∃ m cs, ArmIs w 0 m a.1 cs ∧ wA m a.1 ≤ 1048576 ∧ x.1 = .iface 172 (.agg (cs ++ [Value.bool a.2]).toArray)
abbrev PartW (w : World) := { x : Value × PartT // POk w x }
def ghosts {w : World} (ys : List (PartW w)) : List PartT := ys.map (fun y => y.1.2)
/-- What comes next is what stands next in the whole list. -/
def Fit {w : World} (L : List PartT) (pre : List (PartW w)) (ps : List PartT) : Prop := (ghosts pre ++ ps) <+: L
theorem Fit.go {w : World} {L : List PartT} {pre : List (PartW w)} {A : List PartT} (h : Fit L pre A) (ys : List (PartW w)) (B Z : List PartT) (e : A = ghosts ys ++ (B ++ Z)) : Fit L (pre ++ ys) B :=
  List.IsPrefix.trans ⟨Z, by rw [e]; simp [ghosts]⟩ h
theorem flat_at {α β : Type} (f : α → List β) (xs : List α) (c : Nat) (x : α) (h : xs[c]? = some x) : xs.flatMap f = (xs.take c).flatMap f ++ (f x ++ (xs.drop (c + 1)).flatMap f) := by
  have h1 : xs = xs.take c ++ x :: xs.drop (c + 1) := by
    obtain ⟨hc, rfl⟩ := List.getElem?_eq_some_iff.1 h
    rw [← List.drop_eq_getElem_cons hc, List.take_append_drop]
  conv => lhs; rw [h1]
  simp

/-- What a round keeps: all rows of cells but one. -/
def KC (n₀ B : Nat) (W W' : World) : Prop := Below n₀ W W' ∧ ∀ b C t f, b ≠ B → W.heap[b]? = some (.cells C t f) → W'.heap[b]? = some (.cells C t f)
theorem KC.refl (n₀ B : Nat) (W : World) : KC n₀ B W W := ⟨Below.refl _ _, fun _ _ _ _ _ h => h⟩
theorem KC.trans {n₀ B : Nat} {W W' W'' : World} (h : KC n₀ B W W') (h' : KC n₀ B W' W'') : KC n₀ B W W'' := ⟨h.1.trans h'.1, fun b C t f hb hc => h'.2 b C t f hb (h.2 b C t f hb hc)⟩
theorem KC.of_below {n₀ B : Nat} {W W' : World} (g : Below W.heap.size W W') (hn : n₀ ≤ W.heap.size) : KC n₀ B W W' := ⟨g.mono hn, fun b C t f _ h => (g.block _ (Array.getElem?_eq_some_iff.1 h).1).trans h⟩
theorem KC.alloc {n₀ B : Nat} {W : World} (hn : n₀ ≤ W.heap.size) (o : Obj) : KC n₀ B W (W.alloc o) := KC.of_below ((Below.refl _ _).alloc (Nat.le_refl _) _) hn
theorem KC.row {n₀ B : Nat} {W W' : World} (h : KC n₀ B W W') {b : Nat} {C : Array Value} {t : TypeId} (hb : b ≠ B) (hr : W.heap[b]? = some (.cells C t (0, 0))) : W'.heap[b]? = some (.cells C t (0, 0)) := h.2 _ _ _ _ hb hr
theorem KC.cell {n₀ B : Nat} {W W' : World} (h : KC n₀ B W W') {b o : Nat} {v : Value} (hb : b ≠ B) (hc : W.cell? ⟨b, o, none⟩ = some v) : W'.cell? ⟨b, o, none⟩ = some v := by
  unfold World.cell? at hc ⊢
  cases hh : W.heap[b]? with
  | none => simp [hh] at hc
  | some ob =>
    cases ob with
    | cells C t f => rw [h.2 b C t f hb hh]; rw [hh] at hc; exact hc
    | _ => simp [hh] at hc

/-- A slice whose elements lie anywhere but in one block. -/
def RowB {α : Type} (W : World) (B z : Nat) (R : α → List Value → Prop) (v : Value) (xs : List α) : Prop :=
  ∃ (a : Option Addr) (cap : Nat), v = .slice a xs.length cap ∧ xs.length ≤ 9223372036854775807 ∧ ∀ j x, xs[j]? = some x → ∃ b o cs, a = some ⟨b, o, none⟩ ∧ b ≠ B ∧ cs.length = z ∧ W.rangeAt b (o + j * z) cs ∧ R x cs
theorem RowB.keep {α : Type} {n₀ : Nat} {W W' : World} {B z : Nat} {R : α → List Value → Prop} {v : Value} {xs : List α} (h : RowB W B z R v xs) (k : KC n₀ B W W') : RowB W' B z R v xs := by
  obtain ⟨a, cap, hv, hl, hx⟩ := h
  refine ⟨a, cap, hv, hl, fun j x hj => ?_⟩
  obtain ⟨b, o, cs, ha, hb, hc, hr, hRx⟩ := hx j x hj
  exact ⟨b, o, cs, ha, hb, hc, fun i c hi => k.cell hb (hr i c hi), hRx⟩
theorem RowIs.rowB {α : Type} {w W : World} {z : Nat} {R : α → List Value → Prop} {v : Value} {xs : List α} (h : RowIs w 0 z R v xs) (hz : 0 < z) (g : Below w.heap.size w W) {B : Nat} (hB : w.heap.size ≤ B) : RowB W B z R v xs := by
  obtain ⟨a, cap, hv, hl, hx⟩ := h
  refine ⟨a, cap, hv, hl, fun j x hj => ?_⟩
  obtain ⟨b, o, cs, ha, hb, hc, hr, hRx⟩ := hx j x hj
  have hlt : b < w.heap.size := by
    have := hr 0 _ (List.getElem?_eq_getElem (by omega))
    exact World.block_lt_of_cell? _ _ this
  exact ⟨b, o, cs, ha, by omega, hc, fun i c hi => (Keeps.of_below g 0) _ _ _ (Nat.zero_le _) (hr i c hi), hRx⟩

def YB (W : World) (By l : Nat) : Prop := W.heap[By]? = some (.cells #[.func (.yield l) #[] #[]] 168 (0, 0))
def NB (W : World) (By Bn : Nat) : Prop := W.heap[Bn]? = some (.cells #[.func (.func 134) #[] #[.pointer (some ⟨By, 0, none⟩), .pointer (some ⟨Bn, 0, none⟩)]] 204 (0, 0))

theorem flat_take_le {α β : Type} (f : α → List β) : ∀ (xs : List α) (i : Nat), ((xs.take i).flatMap f).length ≤ (xs.flatMap f).length
  | [], i => by simp
  | y :: ys, 0 => by simp
  | y :: ys, i + 1 => by
    have := flat_take_le f ys i
    simp only [List.take_succ_cons, List.flatMap_cons, List.length_append]; omega

set_option maxRecDepth 100000 in
set_option maxHeartbeats 4000000 in
theorem nets_step (w : World) (B l By Bn : Nat) (L : List PartT) (hBw : w.heap.size ≤ B) (hBy : By ≠ B) (hBn : Bn ≠ B) (J Jx : List (PartW w) → World → Prop) (hJa : ∀ pre W o, J pre W → J pre (W.alloc o))
    (hY : ∀ pre (x : PartW w) W, J pre W → Fit L pre [x.1.2] → YieldAt Fence.wide 0 Tryz.prog l #[x.1.1] W fun e W' => (e = .returned (.bool true) ∧ J (pre ++ [x]) W' ∧ KC w.heap.size B W W') ∨ (e = .returned (.bool false) ∧ Jx (pre ++ [x]) W'))
    (R : NetT → List Value → Prop) (PK : NetT → List PartT) (n : Nat) (v : Value) (kids : List NetT) (pre : List (PartW w)) (W : World) (hb : Below w.heap.size w W) (hBW : B < W.heap.size) (hyb : YB W By l) (hnb : NB W By Bn) (hr : RowB W B 4 R v kids) (hJ : J pre W) (hN : Fit L pre (kids.flatMap (fun t => .inl t :: PK t)))
    (HR : Hid (∀ t cs, t ∈ kids → R t cs → ∃ k op a1 l1 c1 a2 l2 c2, cs = [.int .i64 k, .int .i64 op, .slice a1 l1 c1, .slice a2 l2 c2] ∧ POk w (.iface 205 (.agg cs.toArray), .inl t) ∧
      ∀ n pre W, Below w.heap.size w W → B < W.heap.size → YB W By l → NB W By Bn → J pre W → Fit L pre (PK t) →
        CallsIn Fence.wide n Tryz.prog 134 #[.slice a2 l2 c2, .pointer (some ⟨By, 0, none⟩), .pointer (some ⟨Bn, 0, none⟩)] W fun e W' =>
          (e = .returned (.bool true) ∧ (∃ ys, ghosts ys = PK t ∧ J (pre ++ ys) W') ∧ KC w.heap.size B W W') ∨ (e = .returned (.bool false) ∧ ∃ q, Jx q W'))) :
      CallsIn Fence.wide n Tryz.prog 134 #[v, .pointer (some ⟨By, 0, none⟩), .pointer (some ⟨Bn, 0, none⟩)] W fun e W' =>
        (e = .returned (.bool true) ∧ (∃ ys, ghosts ys = kids.flatMap (fun t => .inl t :: PK t) ∧ J (pre ++ ys) W') ∧ KC w.heap.size B W W') ∨ (e = .returned (.bool false) ∧ ∃ q, Jx q W') := by
  have hr0 := hr
  obtain ⟨a, cap, rfl, hl, _⟩ := hr
  have HRow : Hid (RowB W B 4 R (.slice a kids.length cap) kids) := hr0
  have HJ0 : Hid (J pre W) := hJ
  have HYb : Hid (YB W By l ∧ NB W By Bn ∧ Below w.heap.size w W ∧ B < W.heap.size) := ⟨hyb, hnb, hb, hBW⟩
  have HN : Hid (Fit L pre (kids.flatMap (fun t => .inl t :: PK t))) := hN
  have HJa : Hid (∀ pre W o, J pre W → J pre (W.alloc o)) := hJa
  have HY : Hid (∀ pre (x : PartW w) W, J pre W → Fit L pre [x.1.2] → YieldAt Fence.wide 0 Tryz.prog l #[x.1.1] W fun e W' => (e = .returned (.bool true) ∧ J (pre ++ [x]) W' ∧ KC w.heap.size B W W') ∨ (e = .returned (.bool false) ∧ Jx (pre ++ [x]) W')) := hY
  obtain ⟨len, HL⟩ : ∃ len, Hid (len = kids.length) := ⟨_, rfl⟩
  rw [← HL.out] at hl HRow ⊢
  have hdd : ∀ k : Nat, (Fence.wide.depth.isSome = true → 1 ≤ k) := fun k h => by cases h
  clear hr0 hJ hyb hnb hb hBW hN hJa hY
  refine callsIn_of_wp Tryz.func134 rfl trivial ?_ rfl
  simp only [Tryz.ntmps134, List.size_toArray, List.length_cons, List.length_nil, Nat.reduceAdd, Nat.reduceSub, Array.replicate_succ, Array.replicate_zero, List.push_toArray, List.append_toArray, List.nil_append, List.cons_append]
  gi_wp2
  gi_loopw [9] (fun i wr => ∃ (c : Nat) (ys : List (PartW w)), i = .int .i64 c ∧ c ≤ len ∧ Hid (ghosts ys = (kids.take c).flatMap (fun t => .inl t :: PK t)) ∧ Hid (J (pre ++ ys) wr) ∧ Hid (KC w.heap.size B W wr))
    (fun i _ => len - (RowKit.intOf i).toNat)
  case atStart => exact ⟨0, [], rfl, Nat.zero_le _, rfl, (by simpa using HJ0.out : J (pre ++ []) W), KC.refl _ _ _⟩
  case round =>
    obtain ⟨c, ys, rfl, hc, HG, HJ, HK⟩ := hrel
    by_cases hlt : c < len
    · have i1 : (c : Int) < (len : Int) := by omega
      have i3 : (0 : Int) ≤ (c : Int) := by omega
      obtain ⟨t, ht⟩ : ∃ t, kids[c]? = some t := ⟨_, List.getElem?_eq_getElem (by have := HL.out; omega)⟩
      obtain ⟨a', cap', hv', hl', hx⟩ := HRow.out.keep HK.out
      simp only [Value.slice.injEq] at hv'
      obtain ⟨ea, ea1, ea2⟩ := hv'
      subst ea
      clear ea1 ea2
      obtain ⟨b, o, cs, rfl, hbB, hcs, hrg, hRt⟩ := hx c t ht
      obtain ⟨k, op, a1, l1, c1, a2, l2, c2, rfl, hpok, hrec⟩ := HR.out t cs (List.mem_of_getElem? ht) hRt
      have x0 : wr.cell? ⟨b, o + c * 4, none⟩ = some (.int .i64 k) := hrg 0 _ rfl
      have x1 : wr.cell? ⟨b, o + c * 4 + 1, none⟩ = some (.int .i64 op) := hrg 1 _ rfl
      have x2 : wr.cell? ⟨b, o + c * 4 + 2, none⟩ = some (.slice a1 l1 c1) := hrg 2 _ rfl
      have x3 : wr.cell? ⟨b, o + c * 4 + 3, none⟩ = some (.slice a2 l2 c2) := hrg 3 _ rfl
      obtain ⟨W1, hW1⟩ : ∃ W1, W1 = wr.alloc (.cells #[.int .i64 k, .int .i64 op, .slice a1 l1 c1, .slice a2 l2 c2] 57) := ⟨_, rfl⟩
      have hgs : (kids.take (c + 1)).flatMap (fun t => Sum.inl t :: PK t) = (kids.take c).flatMap (fun t => .inl t :: PK t) ++ .inl t :: PK t := by
        rw [List.take_add_one, ht]; simp
      have hflat : kids.flatMap (fun t => Sum.inl (β := ArmT × Bool) t :: PK t) = ghosts ys ++ (Sum.inl t :: (PK t ++ (kids.drop (c + 1)).flatMap (fun t => Sum.inl t :: PK t))) := by
        rw [HG.out, flat_at _ _ _ _ ht]; rfl
      have HF : Hid (kids.flatMap (fun t => Sum.inl (β := ArmT × Bool) t :: PK t) = ghosts ys ++ (Sum.inl t :: (PK t ++ (kids.drop (c + 1)).flatMap (fun t => Sum.inl t :: PK t)))) := hflat
      clear hflat
      have hKW1 : KC w.heap.size B W W1 := by rw [hW1]; exact HK.out.trans (KC.alloc (Nat.le_trans HYb.out.2.2.1.size HK.out.1.size) _)
      have hJ1 : J (pre ++ ys) W1 := by rw [hW1]; exact HJa.out _ _ _ HJ.out
      have yb1 : W1.heap[By]? = _ := hKW1.row hBy HYb.out.1
      have cy1 : W1.cell? ⟨By, 0, none⟩ = some (.func (.yield l) #[] #[]) := (cell_of_row _ _ _ _ _ _ yb1).trans rfl
      obtain ⟨fn, tmps, assign, body, hy, hR⟩ := yield_any (n - 1) (HY.out (pre ++ ys) ⟨(.iface 205 (.agg #[.int .i64 k, .int .i64 op, .slice a1 l1 c1, .slice a2 l2 c2]), .inl t), hpok⟩ W1 hJ1 (HN.out.go ys _ _ HF.out))
      rw [hW1] at hy hR cy1
      gi_wp2
      refine ⟨hdd _, ?_⟩
      refine hR.mono ?_
      rintro e W3 (⟨rfl, hJ3, hk3⟩ | ⟨rfl, hx3⟩)
      rotate_left
      · clear hy hR yb1 cy1 hJ1 hKW1 hW1 x0 x1 x2 x3 hrg hx hrec
        gi_wp2
        refine ⟨fun _ h => (by cases h), ?_⟩
        gi_wp2
        go_ret
        exact .inr ⟨rfl, _, hx3⟩
      rw [← hW1] at hk3
      have hK3 : KC w.heap.size B W W3 := hKW1.trans hk3
      have yb3 : YB W3 By l := hK3.row hBy HYb.out.1
      have nb3 : NB W3 By Bn := hK3.row hBn HYb.out.2.1
      have szw : B < wr.heap.size := Nat.lt_of_lt_of_le HYb.out.2.2.2 HK.out.1.size
      have cn3 : W3.cell? ⟨Bn, 0, none⟩ = some (.func (.func 134) #[] #[.pointer (some ⟨By, 0, none⟩), .pointer (some ⟨Bn, 0, none⟩)]) := (cell_of_row _ _ _ _ _ _ nb3).trans rfl
      have bx3 : W3.heap[wr.heap.size]? = some (.cells #[.int .i64 k, .int .i64 op, .slice a1 l1 c1, .slice a2 l2 c2] 57 (0, 0)) := hk3.row (by omega) (by rw [hW1]; exact heap_alloc_last wr _)
      have c33 : W3.cell? ⟨wr.heap.size, 3, none⟩ = some (.slice a2 l2 c2) := (cell_of_row _ _ _ _ _ _ bx3).trans rfl
      have hrc := hrec (n - 1) _ W3 (HYb.out.2.2.1.trans hK3.1) (Nat.lt_of_lt_of_le HYb.out.2.2.2 hK3.1.size) yb3 nb3 hJ3 (by rw [List.append_assoc]; exact HN.out.go _ _ ((kids.drop (c + 1)).flatMap (fun t => Sum.inl t :: PK t)) (by rw [HF.out]; simp [ghosts]))
      have HK3 : Hid (KC w.heap.size B W W3) := hK3
      clear hy hR hk3 yb3 nb3 bx3 hK3 hJ3 hrec yb1 cy1 hJ1 hKW1 hW1 x0 x1 x2 x3 hrg hx
      gi_wp2
      refine ⟨trivial, hdd _, ?_⟩
      refine hrc.mono ?_
      rintro e W4 (⟨rfl, ⟨zs, hzs, hJ4⟩, hk4⟩ | ⟨rfl, qx, hx4⟩)
      rotate_left
      · clear hrc
        gi_wp2
        go_ret
        exact .inr ⟨rfl, qx, hx4⟩
      clear hrc
      gi_wp2
      go_roundw
      case rel =>
        refine ⟨c + 1, ys ++ (⟨(.iface 205 (.agg #[.int .i64 k, .int .i64 op, .slice a1 l1 c1, .slice a2 l2 c2]), .inl t), hpok⟩ : PartW w) :: zs, by simp, by omega, ?_, ?_, HK3.out.trans hk4⟩
        · show ghosts _ = _
          rw [hgs, ← HG.out, ← hzs]; simp [ghosts]
        · show J _ W4
          simpa [List.append_assoc] using hJ4
      case measure => simp [RowKit.intOf]; omega
    · have i1 : ¬ ((c : Int) < (len : Int)) := by omega
      gi_wp2
      go_ret
      refine .inl ⟨rfl, ⟨ys, ?_, HJ.out⟩, HK.out⟩
      rw [HG.out, List.take_of_length_le (by have := HL.out; omega)]

theorem sum_le_mem {α : Type} (f : α → Nat) (xs : List α) (x : α) (h : x ∈ xs) {k : Nat} (hk : (xs.map f).sum ≤ k) : f x ≤ k := Nat.le_trans (sum_mem f xs x h) hk

theorem nets_in (w : World) (B l By Bn : Nat) (L : List PartT) (hBw : w.heap.size ≤ B) (hBy : By ≠ B) (hBn : Bn ≠ B) (J Jx : List (PartW w) → World → Prop) (hJa : ∀ pre W o, J pre W → J pre (W.alloc o))
    (hY : ∀ pre (x : PartW w) W, J pre W → Fit L pre [x.1.2] → YieldAt Fence.wide 0 Tryz.prog l #[x.1.1] W fun e W' => (e = .returned (.bool true) ∧ J (pre ++ [x]) W' ∧ KC w.heap.size B W W') ∨ (e = .returned (.bool false) ∧ Jx (pre ++ [x]) W')) :
    ∀ (m n : Nat) (v : Value) (kids : List NetT) (pre : List (PartW w)) (W : World), Below w.heap.size w W → B < W.heap.size → YB W By l → NB W By Bn → RowB W B 4 (NetIs w 0 m) v kids → (kids.map (wN m)).sum ≤ 1048576 → J pre W → Fit L pre (kids.flatMap (pNet m)) →
      CallsIn Fence.wide n Tryz.prog 134 #[v, .pointer (some ⟨By, 0, none⟩), .pointer (some ⟨Bn, 0, none⟩)] W fun e W' =>
        (e = .returned (.bool true) ∧ (∃ ys, ghosts ys = kids.flatMap (pNet m) ∧ J (pre ++ ys) W') ∧ KC w.heap.size B W W') ∨ (e = .returned (.bool false) ∧ ∃ q, Jx q W') := by
  intro m
  induction m with
  | zero =>
    intro n v kids pre W hb hBW hyb hnb hr hw hJ hN
    have hk : kids = [] := by
      obtain ⟨a, cap, rfl, hl, hx⟩ := hr
      cases kids with
      | nil => rfl
      | cons k r => obtain ⟨_, _, _, _, _, _, _, h⟩ := hx 0 k rfl; exact h.elim
    subst hk
    exact nets_step w B l By Bn L hBw hBy hBn J Jx hJa hY (NetIs w 0 0) (fun _ => []) n v [] pre W hb hBW hyb hnb hr hJ hN (fun t cs h => by simp at h)
  | succ m ih =>
    intro n v kids pre W hb hBW hyb hnb hr hw hJ hN
    have e : kids.flatMap (pNet (m + 1)) = kids.flatMap (fun t => Sum.inl t :: (match t with | .mk k e ks => ks.flatMap (pNet m))) := by
      congr 1; funext t; cases t; rfl
    rw [e] at hN ⊢
    refine nets_step w B l By Bn L hBw hBy hBn J Jx hJa hY (NetIs w 0 (m + 1)) _ n v kids pre W hb hBW hyb hnb hr hJ hN ?_
    intro t cs ht hR
    have hwt : wN (m + 1) t ≤ 1048576 := sum_le_mem _ _ _ ht hw
    cases t with
    | mk k e ks =>
      have hR' := hR
      obtain ⟨v1, v2, rfl, ha, hk⟩ := hR
      obtain ⟨a1, c1, rfl, _, _⟩ := id ha
      obtain ⟨a2, c2, rfl, _, _⟩ := id hk
      refine ⟨k, e.op, a1, _, c1, a2, _, c2, rfl, ⟨m + 1, _, hR', hwt, rfl⟩, ?_⟩
      intro n' pre' W' hb' hBW' hyb' hnb' hJ' hN'
      simp only [wN] at hwt
      exact ih n' _ ks pre' W' hb' hBW' hyb' hnb' (RowIs.rowB hk (by omega) hb' hBw) (by omega) hJ' hN'

theorem kc_dep {β : Type} {n₀ B B1 : Nat} {W0 : World} (hn : n₀ ≤ B1) (hW : W0.heap.size ≤ B1) : Dep B1 (fun (_ : β) W => KC n₀ B W0 W) := fun s W W' g hs =>
  ⟨hs.1.trans (g.mono hn), fun b C t f hb hc => (g.block b (by have := (Array.getElem?_eq_some_iff.1 hc).1; omega)).trans (hs.2 b C t f hb hc)⟩
theorem kc_b {n₀ B : Nat} {w : World} (hn : n₀ ≤ w.heap.size) (W : World) (l : Nat) (o o' : Obj) (hl : w.heap.size ≤ l) (h : W.heap[l]? = some o) (hc : o.isCells = false) (hw : o.isWalk = false) : KC n₀ B W (W.putObj l o') :=
  ⟨belowK_b hn W l o o' hl h hc hw, fun b C t f _ hb => by
    have hne : b ≠ l := fun e => by subst e; rw [h] at hb; cases hb; cases hc
    rw [World.putObj_heap_other hne]; exact hb⟩
set_option maxHeartbeats 2000000 in
theorem nets1_in (w : World) (B Bx l m : Nat) (L : List PartT) (hBw : w.heap.size ≤ B) (J Jx : List (PartW w) → World → Prop) (hJg : ∀ pre W W', Below W.heap.size W W' → J pre W → J pre W')
    (n : Nat) (hY : ∀ pre (x : PartW w) W, J pre W → Fit L pre [x.1.2] → YieldAt Fence.wide (n - 1) Tryz.prog l #[x.1.1] W fun e W' => (e = .returned (.bool true) ∧ J (pre ++ [x]) W' ∧ KC w.heap.size B W W') ∨ (e = .returned (.bool false) ∧ Jx (pre ++ [x]) W'))
    (v : Value) (kids : List NetT) (W : World) (hb : Below w.heap.size w W) (hBW : B < W.heap.size) (hc : W.cell? ⟨Bx, 0, none⟩ = some v) (hr : RowB W B 4 (NetIs w 0 m) v kids) (hw : (kids.map (wN m)).sum ≤ 1048576) (hJ : J [] W) (hN : Fit (w := w) L [] (kids.flatMap (pNet m))) :
      CallsIn Fence.wide n Tryz.prog 133 #[.func (.yield l) #[] #[], .pointer (some ⟨Bx, 0, none⟩)] W fun e W' =>
        (∃ v, e = .returned v) ∧ ((∃ ys, ghosts ys = kids.flatMap (pNet m) ∧ J ys W') ∨ (∃ q, Jx q W')) := by
  have hdd : ∀ k : Nat, (Fence.wide.depth.isSome = true → 1 ≤ k) := fun k h => by cases h
  have hmf : ∀ (fn : Fn) (first cap : Array Value) (w : World), (Instr.makeFunc fn first cap).run Tryz.prog w = .ok (.func fn first cap) w := fun _ _ _ _ => rfl
  have stf : ∀ (fn : Fn) (first cap : Array Value) (w : World) (a : Addr) (m : Mode), (store a (.func fn first cap) m).run Tryz.prog w = stored Tryz.prog w a (.func fn first cap) m := fun _ _ _ w a m => run_store Tryz.prog w a _ m rfl
  have hr0 := hr
  obtain ⟨a, cap, rfl, _, _⟩ := hr0
  have lx : Bx < W.heap.size := World.block_lt_of_cell? _ _ hc
  obtain ⟨W1, hW1⟩ : ∃ W1, W1 = ((W.alloc (.cells #[.func (.yield l) #[] #[]] 168)).alloc (.cells #[.func (.func 134) #[] #[.pointer (some ⟨W.heap.size, 0, none⟩), .pointer (some ⟨W.heap.size + 1, 0, none⟩)]] 204)) := ⟨_, rfl⟩
  have g1 : Below W.heap.size W W1 := by rw [hW1]; exact ((Below.refl _ _).alloc (Nat.le_refl _) _).alloc (by simp) _
  have hk := rows2 W (.cells #[.func (.yield l) #[] #[]] 168) (.cells #[.func (.func 134) #[] #[.pointer (some ⟨W.heap.size, 0, none⟩), .pointer (some ⟨W.heap.size + 1, 0, none⟩)]] 204)
  rw [← hW1] at hk
  have hca := nets_in w B l W.heap.size (W.heap.size + 1) L hBw (by omega) (by omega) J Jx (fun pre W o h => hJg pre W _ ((Below.refl _ _).alloc (Nat.le_refl _) _) h) (fun pre x W h hl => yield_any 0 (hY pre x W h hl)) m (n - 1) _ kids [] W1 (hb.trans (g1.mono hb.size)) (Nat.lt_of_lt_of_le hBW g1.size) hk.1 hk.2 (hr.keep (KC.of_below (n₀ := w.heap.size) g1 hb.size)) hw (hJg _ _ _ g1 hJ) hN
  have cx : W1.cell? ⟨Bx, 0, none⟩ = some (.slice a kids.length cap) := (Keeps.of_below g1 0) _ _ _ (Nat.zero_le _) hc
  rw [hW1] at hca cx
  clear hk g1 hW1 hY hJg
  refine callsIn_of_wp Tryz.func133 rfl trivial ?_ rfl
  simp only [Tryz.ntmps133, List.size_toArray, List.length_cons, List.length_nil, Nat.reduceAdd, Nat.reduceSub, Array.replicate_succ, Array.replicate_zero, List.push_toArray, List.append_toArray, List.nil_append, List.cons_append]
  gi_wp2
  refine ⟨trivial, hdd _, ?_⟩
  refine hca.mono ?_
  rintro e W3 (⟨rfl, ⟨ys, hys, hJ3⟩, _⟩ | ⟨rfl, q, hx⟩)
  · gi_wp2
    go_end0
    exact ⟨⟨_, rfl⟩, .inl ⟨ys, hys, by simpa using hJ3⟩⟩
  · gi_wp2
    go_end0
    exact ⟨⟨_, rfl⟩, .inr ⟨q, hx⟩⟩
set_option maxHeartbeats 1000000 in
theorem nets_call (a : Option Addr) (l c : Nat) (w : World) : Calls Tryz.prog 96 #[.slice a l c] w fun e w' => e = .returned (.func (.func 133) #[] #[.pointer (some ⟨w.heap.size, 0, none⟩)]) ∧ w' = w.alloc (.cells #[.slice a l c] 55) := by
  have hmf : ∀ (fn : Fn) (first cap : Array Value) (w : World), (Instr.makeFunc fn first cap).run Tryz.prog w = .ok (.func fn first cap) w := fun _ _ _ _ => rfl
  go_enter Tryz.func96, Tryz.ntmps96
  go_wp2
  go_ret
  exact ⟨rfl, rfl⟩
end Go.Proofs.YtgopfaegdlefpaaGreatDoor
/- The parts of a ladder: the closure over arms. -/
namespace Go.Proofs.YtgopfaegdlefpaaGreatDoor
open Go.RowKit Go.Shelf
set_option linter.unusedVariables false

set_option maxHeartbeats 1000000 in
theorem nothing_i (op : Int) (a : Option Addr) (l c : Nat) (w : World) (hl : l ≤ 9223372036854775807) :
    Calls Tryz.prog 135 #[.agg #[.int .i64 op, .slice a l c]] w fun e w' => e = .returned (.bool (decide (op = 0) && decide (l = 0))) ∧ Below w.heap.size w w' := by
  have b0 : ∀ A, Below w.heap.size w (w.alloc A) := fun A => (Below.refl _ _).alloc (Nat.le_refl _) _
  by_cases h1 : op = 0
  · subst h1
    by_cases h2 : l = 0
    · subst h2
      go_enter Tryz.func135, Tryz.ntmps135
      go_wp2
      go_ret
      exact ⟨by simp, b0 _⟩
    · have e1 : ((l : Int) == 0) = false := by simp; omega
      go_enter Tryz.func135, Tryz.ntmps135
      go_wp2
      go_ret
      exact ⟨by simp [h2], b0 _⟩
  · have e1 : (op == 0) = false := by simp [h1]
    go_enter Tryz.func135, Tryz.ntmps135
    go_wp2
    go_ret
    exact ⟨by simp [h1], b0 _⟩

set_option maxHeartbeats 1000000 in
theorem none_i (k op : Int) (a1 : Option Addr) (l1 c1 : Nat) (a2 : Option Addr) (l2 c2 : Nat) (w : World) (h1 : l1 ≤ 9223372036854775807) (h2 : l2 ≤ 9223372036854775807) :
    Calls Tryz.prog 98 #[.agg #[.int .i64 k, .int .i64 op, .slice a1 l1 c1, .slice a2 l2 c2]] w fun e w' => e = .returned (.bool (decide (k = 0) && decide (op = 0) && decide (l1 = 0) && decide (l2 = 0))) ∧ Below w.heap.size w w' := by
  have HN : Hid (∀ W, Calls Tryz.prog 135 #[.agg #[.int .i64 op, .slice a1 l1 c1]] W fun e w' => e = .returned (.bool (decide (op = 0) && decide (l1 = 0))) ∧ Below W.heap.size W w') := fun W => nothing_i op a1 l1 c1 W h1
  rw [Bool.and_assoc (decide (k = 0)) (decide (op = 0)) (decide (l1 = 0))]
  generalize (decide (op = 0) && decide (l1 = 0)) = r at HN ⊢
  have b0 : Below w.heap.size w (w.alloc (.cells #[.int .i64 k, .int .i64 op, .slice a1 l1 c1, .slice a2 l2 c2] 57)) := (Below.refl _ _).alloc (Nat.le_refl _) _
  by_cases hk : k = 0
  · subst hk
    have k0 := heap_alloc_last w (.cells #[.int .i64 0, .int .i64 op, .slice a1 l1 c1, .slice a2 l2 c2] 57)
    have K0 : Hid ((w.alloc (.cells #[.int .i64 0, .int .i64 op, .slice a1 l1 c1, .slice a2 l2 c2] 57)).heap[w.heap.size]? = some (.cells #[.int .i64 0, .int .i64 op, .slice a1 l1 c1, .slice a2 l2 c2] 57 (0, 0))) := k0
    clear k0
    go_enter Tryz.func98, Tryz.ntmps98
    go_wp2_with fail
    refine (HN.out _).mono ?_
    rintro e w1 ⟨rfl, g1⟩
    have c3 : w1.cell? ⟨w.heap.size, 3, none⟩ = some (.slice a2 l2 c2) := (cell_of_row _ _ _ _ _ _ ((g1.block _ (by simp)).trans K0.out)).trans rfl
    have b1 := b0.trans (g1.mono b0.size)
    clear g1 b0 K0
    cases r with
    | false =>
      clear c3
      go_wp2
      go_ret
      exact ⟨by simp, b1⟩
    | true =>
      by_cases hl : l2 = 0
      · subst hl
        go_wp2
        go_ret
        exact ⟨by simp, b1⟩
      · have e1 : ((l2 : Int) == 0) = false := by simp; omega
        go_wp2
        go_ret
        exact ⟨by simp [hl], b1⟩
  · have e1 : (k == 0) = false := by simp [hk]
    go_enter Tryz.func98, Tryz.ntmps98
    go_wp2
    go_ret
    exact ⟨by simp [hk], b0⟩

/-- The closure over one net, in its variable. -/
def MB (W : World) (By Bn : Nat) : Prop := W.heap[Bn]? = some (.cells #[.func (.func 95) #[] #[.pointer (some ⟨By, 0, none⟩)]] 134 (0, 0))
def AB (W : World) (By Bn Ba : Nat) : Prop := W.heap[Ba]? = some (.cells #[.func (.func 97) #[] #[.pointer (some ⟨Bn, 0, none⟩), .pointer (some ⟨By, 0, none⟩), .pointer (some ⟨Ba, 0, none⟩)]] 170 (0, 0))
end Go.Proofs.YtgopfaegdlefpaaGreatDoor
/- The parts of a net, handed on by a range within the iterator over a ladder. -/
namespace Go.Proofs.YtgopfaegdlefpaaGreatDoor
open Go.RowKit Go.Shelf
set_option linter.unusedVariables false
attribute [local go_sem] Oper.semAt_some

/-- What a round keeps: all rows of cells but one, and what is no cells from b0 on. -/
def KD (n₀ B b0 : Nat) (W W' : World) : Prop := KC n₀ B W W' ∧ KeepsFrom b0 W W'
theorem KD.trans {n₀ B b0 : Nat} {W W' W'' : World} (h : KD n₀ B b0 W W') (h' : KD n₀ B b0 W' W'') : KD n₀ B b0 W W'' := ⟨h.1.trans h'.1, h.2.trans h'.2⟩
/-- What a round that stops keeps: what lies from b0 on. -/
def KQ (b0 : Nat) (W W' : World) : Prop := (∀ b C t f, b0 ≤ b → W.heap[b]? = some (.cells C t f) → W'.heap[b]? = some (.cells C t f)) ∧ KeepsFrom b0 W W'
theorem KQ.trans {b0 : Nat} {W W' W'' : World} (h : KQ b0 W W') (h' : KQ b0 W' W'') : KQ b0 W W'' := ⟨fun b C t f hb hc => h'.1 b C t f hb (h.1 b C t f hb hc), h.2.trans h'.2⟩
theorem rows4 (w : World) (o0 o1 o2 o3 : Obj) : ((((w.alloc o0).alloc o1).alloc o2).alloc o3).heap[w.heap.size]? = some o0 ∧ ((((w.alloc o0).alloc o1).alloc o2).alloc o3).heap[w.heap.size + 1]? = some o1 ∧ ((((w.alloc o0).alloc o1).alloc o2).alloc o3).heap[w.heap.size + 1 + 1]? = some o2 ∧ ((((w.alloc o0).alloc o1).alloc o2).alloc o3).heap[w.heap.size + 1 + 1 + 1]? = some o3 := by
  have h3 := rows3 w o0 o1 o2
  have hz : (((w.alloc o0).alloc o1).alloc o2).heap.size = w.heap.size + 1 + 1 + 1 := by simp
  refine ⟨(heap_alloc_old _ _ (h := by omega)).trans h3.1, (heap_alloc_old _ _ (h := by omega)).trans h3.2.1, (heap_alloc_old _ _ (h := by omega)).trans h3.2.2, ?_⟩
  rw [← hz]; exact heap_alloc_last _ _
/-- The list that one net makes. -/
theorem rowB_one {R : NetT → List Value → Prop} {W : World} {B : Nat} {c0 c1 c2 c3 : Value} {t : NetT} (hB : B < W.heap.size) (hR : R t [c0, c1, c2, c3]) :
    RowB (W.alloc (.cells #[c0, c1, c2, c3] 57)) B 4 R (.slice (some ⟨W.heap.size, 0, none⟩) 1 1) [t] := by
  refine ⟨some ⟨W.heap.size, 0, none⟩, 1, rfl, by simp, fun j x hj => ?_⟩
  have hj0 : j = 0 := by have := (List.getElem?_eq_some_iff.1 hj).1; simpa using this
  subst hj0
  simp only [List.getElem?_cons_zero, Option.some.injEq] at hj
  subst hj
  refine ⟨W.heap.size, 0, [c0, c1, c2, c3], rfl, by omega, rfl, fun i c hi => ?_, hR⟩
  rw [cell_of_row _ _ _ _ _ _ (heap_alloc_last W _)]
  simpa using hi

set_option maxRecDepth 100000 in
set_option maxHeartbeats 4000000 in
theorem net1_in (w : World) (B l By b0 b1 : Nat) (L : List PartT) (hBw : w.heap.size ≤ B) (hBb : B < b1) (h01 : b0 ≤ b1) (hBy : By ≠ B) (J Jx : List (PartW w) → World → Prop) (hJ : Dep b1 J) (hJx : Dep b1 Jx)
    (hY : ∀ pre (x : PartW w) W, J pre W → Fit L pre [x.1.2] → YieldAt Fence.wide 0 Tryz.prog l #[x.1.1] W fun e W' => (e = .returned (.bool true) ∧ KD w.heap.size B b0 W W' ∧ J (pre ++ [x]) W') ∨ (e = .returned (.bool false) ∧ KQ b0 W W' ∧ Jx (pre ++ [x]) W'))
    (m n : Nat) (k op : Int) (a1 : Option Addr) (l1 c1 : Nat) (a2 : Option Addr) (l2 c2 : Nat) (t : NetT) (pre : List (PartW w)) (W : World) (hb : Below w.heap.size w W) (hbW : b1 ≤ W.heap.size) (hyb : YB W By l) (ht : NetIs w 0 m t [.int .i64 k, .int .i64 op, .slice a1 l1 c1, .slice a2 l2 c2]) (hw : wN m t ≤ 1048576) (hJ0 : J pre W) (hN : Fit L pre (pNet m t)) :
    CallsIn Fence.wide n Tryz.prog 95 #[.agg #[.int .i64 k, .int .i64 op, .slice a1 l1 c1, .slice a2 l2 c2], .pointer (some ⟨By, 0, none⟩)] W fun e W' =>
      (e = .returned (.bool true) ∧ (∃ ys, ghosts ys = pNet m t ∧ J (pre ++ ys) W') ∧ KC w.heap.size B W W') ∨ (e = .returned (.bool false) ∧ ∃ q, Jx q W') := by
  have hdd : ∀ k : Nat, (Fence.wide.depth.isSome = true → 1 ≤ k) := fun k h => by cases h
  obtain ⟨U, hU⟩ : ∃ U, (((W.alloc (.cells #[.int .i64 k, .int .i64 op, .slice a1 l1 c1, .slice a2 l2 c2] 57)).alloc (.cells #[.bool false] 4)).alloc (.cells #[.int .i64 k, .int .i64 op, .slice a1 l1 c1, .slice a2 l2 c2] 57)).alloc (.cells #[.slice (some ⟨W.heap.size + 1 + 1, 0, none⟩) 1 1] 55) = U := ⟨_, rfl⟩
  have hk := rows4 W (.cells #[.int .i64 k, .int .i64 op, .slice a1 l1 c1, .slice a2 l2 c2] 57) (.cells #[.bool false] 4) (.cells #[.int .i64 k, .int .i64 op, .slice a1 l1 c1, .slice a2 l2 c2] 57) (.cells #[.slice (some ⟨W.heap.size + 1 + 1, 0, none⟩) 1 1] 55)
  have gU : Below W.heap.size W U := by rw [← hU]; exact ((((Below.refl _ _).alloc (Nat.le_refl _) _).alloc (by simp) _).alloc (by simp <;> omega) _).alloc (by simp <;> omega) _
  have sU : U.heap.size = W.heap.size + 1 + 1 + 1 + 1 := by rw [← hU]; simp
  have hrow : RowB U B 4 (NetIs w 0 m) (.slice (some ⟨W.heap.size + 1 + 1, 0, none⟩) 1 1) [t] := by
    have h := rowB_one (R := NetIs w 0 m) (W := (W.alloc (.cells #[.int .i64 k, .int .i64 op, .slice a1 l1 c1, .slice a2 l2 c2] 57)).alloc (.cells #[.bool false] 4)) (B := B) (t := t) (by simp; omega) ht
    have hz : ((W.alloc (.cells #[.int .i64 k, .int .i64 op, .slice a1 l1 c1, .slice a2 l2 c2] 57)).alloc (.cells #[.bool false] 4)).heap.size = W.heap.size + 1 + 1 := by simp
    rw [hz] at h
    rw [← hU]
    exact h.keep (KC.alloc (n₀ := 0) (Nat.zero_le _) _)
  rw [hU] at hk
  have cx : U.cell? ⟨W.heap.size + 1 + 1 + 1, 0, none⟩ = some (.slice (some ⟨W.heap.size + 1 + 1, 0, none⟩) 1 1) := (cell_of_row _ _ _ _ _ _ hk.2.2.2).trans rfl
  have hbU : Below w.heap.size w U := hb.trans (gU.mono hb.size)
  have eP : [t].flatMap (pNet m) = pNet m t := by simp
  have hseq : SeqN (n - 1) Tryz.prog 133 #[.pointer (some ⟨W.heap.size + 1 + 1 + 1, 0, none⟩)] (fun x : PartW w => #[x.1.1]) (KC w.heap.size B) (fun _ _ => True) (fun ys => ghosts ys = pNet m t) (fun xs x => Fit (pNet m t) xs [x.1.2]) U := fun l' J' Jx' V hV hsz hJ' hJx' hY' h0 => by
    have h := nets1_in w B (W.heap.size + 1 + 1 + 1) l' m (pNet m t) hBw (fun ys X => J' ys X ∧ V.heap.size ≤ X.heap.size) Jx' (fun pre X Y g h => ⟨hJ' _ _ _ (g.mono h.2) h.1, Nat.le_trans h.2 g.size⟩) (n - 1) (fun pre x X h hl => (hY' pre x X h.1 hl).mono fun e W' hh => by
        rcases hh with ⟨he, hk, hj⟩ | ⟨he, hk, hj⟩
        · exact .inl ⟨he, ⟨hj, Nat.le_trans h.2 hk.1.size⟩, hk⟩
        · exact .inr ⟨he, hj⟩) _ [t] V (hbU.trans (hV.mono hbU.size)) (by have := hV.size; omega) ((Keeps.of_below hV 0) _ _ _ (Nat.zero_le _) cx) (hrow.keep (KC.of_below (n₀ := w.heap.size) hV hbU.size)) (by simpa using hw) ⟨h0, Nat.le_refl _⟩ (by rw [eP]; exact List.prefix_refl _)
    rw [eP] at h
    refine h.mono fun e W' hh => ⟨hh.1, ?_⟩
    rcases hh.2 with ⟨ys, k1, k2⟩ | ⟨q, k1⟩
    · exact .inl ⟨ys, k1, k2.1⟩
    · exact .inr ⟨q, k1⟩
  have hKU : KC w.heap.size B W U := KC.of_below gU hb.size
  have HYU : Hid (YB U By l) := hKU.row hBy hyb
  have HR : Hid (U.heap[W.heap.size + 1]? = some (.cells #[.bool false] 4 (0, 0))) := hk.2.1
  have HJU : Hid (J pre U) := hJ _ _ _ (gU.mono hbW) hJ0
  have HKU : Hid (KC w.heap.size B W U) := hKU
  have HH : Hid (Dep b1 J ∧ Dep b1 Jx) := ⟨hJ, hJx⟩
  have HY : Hid (∀ pre (x : PartW w) W, J pre W → Fit L pre [x.1.2] → YieldAt Fence.wide 0 Tryz.prog l #[x.1.1] W fun e W' => (e = .returned (.bool true) ∧ KD w.heap.size B b0 W W' ∧ J (pre ++ [x]) W') ∨ (e = .returned (.bool false) ∧ KQ b0 W W' ∧ Jx (pre ++ [x]) W')) := hY
  have HS : Hid (SeqN (n - 1) Tryz.prog 133 #[.pointer (some ⟨W.heap.size + 1 + 1 + 1, 0, none⟩)] (fun x : PartW w => #[x.1.1]) (KC w.heap.size B) (fun _ _ => True) (fun ys => ghosts ys = pNet m t) (fun xs x => Fit (pNet m t) xs [x.1.2]) U) := hseq
  have hnU : w.heap.size ≤ U.heap.size := hbU.size
  have HNN : Hid (Fit L pre (pNet m t)) := hN
  clear hY hJ hJx hseq hrow cx hk gU hb hyb ht hw hJ0 hKU eP
  refine callsIn_of_wp_marks Tryz.func95 rfl trivial ?_ rfl
  simp only [Tryz.ntmps95, List.size_toArray, List.length_cons, List.length_nil, Nat.reduceAdd, Nat.reduceSub, Array.replicate_succ, Array.replicate_zero, List.push_toArray, List.append_toArray, List.nil_append, List.cons_append]
  gi_wp2
  refine ⟨trivial, hdd _, ?_⟩
  refine (callsIn_wide.2 (nets_call _ _ _ _)).mono ?_
  rintro e w' ⟨rfl, rfl⟩
  simp only [World.size_alloc]
  rw [hU]
  gi_wp2
  refine range_n (α := PartW w) (gf := 133) (lb := #[.pointer (some ⟨W.heap.size + 1 + 1 + 1, 0, none⟩)]) rfl (enters_of Tryz.func133 (by kernel_rfl) rfl) HS.out (fun h k => h.trans k) (fun V r o' h => kc_b (w := U) hnU V _ _ o' (by omega) h rfl rfl) (fun _ _ => trivial) (fun _ _ _ _ => trivial) (Below.refl _ _) (fun _ => rfl)
    (fun xs V => J (pre ++ xs) V ∧ KC w.heap.size B U V)
    (fun c xs V => (c = .ret ∧ V.heap[W.heap.size + 1]? = some (.cells #[.bool false] 4 (0, 0))) ∧ ∃ q, Jx q V)
    (fun s X Y g hs => ⟨HH.out.1 _ _ _ (g.mono (by omega)) hs.1, kc_dep (β := Unit) hnU (Nat.le_refl _) () X Y g hs.2⟩)
    (fun c s X Y g hs => ⟨⟨hs.1.1, (g.block _ (by omega)).trans hs.1.2⟩, by obtain ⟨q, hq⟩ := hs.2; exact ⟨q, HH.out.2 _ _ _ (g.mono (by omega)) hq⟩⟩)
    ⟨(by simpa using HJU.out : J (pre ++ []) U), KC.refl _ _ _⟩
    (fun x => { tmps := #[.agg #[.int .i64 k, .int .i64 op, .slice a1 l1 c1, .slice a2 l2 c2], .pointer (some ⟨By, 0, none⟩), .pointer (some ⟨W.heap.size, 0, none⟩), .pointer (some ⟨W.heap.size + 1, 0, none⟩), x.1.1, .agg #[.int .i64 k, .int .i64 op, .slice a1 l1 c1, .slice a2 l2 c2], .slice (some ⟨W.heap.size + 1 + 1, 0, none⟩) 1 1, .func (.func 133) #[] #[.pointer (some ⟨W.heap.size + 1 + 1 + 1, 0, none⟩)], x.1.1, undef, undef, undef, undef], defers := [] }) ?assign ?body ?done ?stop
  case assign =>
    intro l x W K hK
    gi_wp2
    exact hK
  case body =>
    rintro l' xs x V ⟨hJV, hKV⟩ hlen
    have cy : V.cell? ⟨By, 0, none⟩ = some (.func (.yield l) #[] #[]) := (cell_of_row _ _ _ _ _ _ (hKV.row hBy HYU.out)).trans rfl
    obtain ⟨fn, tmps, assign, body, hy, hRd⟩ := yield_any (n - 1 - 1 - 1) (HY.out (pre ++ xs) x V hJV (by obtain ⟨Z, hZ⟩ := hlen; exact HNN.out.go xs _ Z (by rw [← hZ]; simp)))
    have HKV : Hid (KC w.heap.size B U V) := hKV
    clear hJV hKV
    gi_wp2
    refine ⟨hdd _, ?_⟩
    refine hRd.mono ?_
    rintro e V3 (⟨rfl, ⟨kc, kf⟩, hJ3⟩ | ⟨rfl, ⟨kq, kf⟩, hx3⟩)
    · have HP : Hid (KeepsFrom U.heap.size V V3 ∧ KC w.heap.size B V V3 ∧ J (pre ++ (xs ++ [x])) V3 ∧ KC w.heap.size B U V3) := ⟨⟨kf.size, fun k o hk => kf.same k o (by omega)⟩, kc, by simpa [List.append_assoc] using hJ3, HKV.out.trans kc⟩
      clear hy hRd cy kc kf hJ3
      gi_wp2
      exact HP.out
    · have rV : V3.heap[W.heap.size + 1]? = some (.cells #[.bool false] 4 (0, 0)) := kq _ _ _ _ (by omega) (HKV.out.row (by omega) HR.out)
      have q0 : V3.cell? ⟨W.heap.size + 1, 0, none⟩ = some (.bool false) := (cell_of_row _ _ _ _ _ _ rV).trans rfl
      have q1 : V3.frozen? ⟨W.heap.size + 1, 0, none⟩ = false := by simp [World.frozen?, rV]
      have HP : Hid (KeepsFrom U.heap.size V (V3.setCell ⟨W.heap.size + 1, 0, none⟩ (.bool false)) ∧ True ∧ (Code.ret = Code.ret ∧ (V3.setCell ⟨W.heap.size + 1, 0, none⟩ (.bool false)).heap[W.heap.size + 1]? = some (.cells #[.bool false] 4 (0, 0))) ∧ ∃ q, Jx q (V3.setCell ⟨W.heap.size + 1, 0, none⟩ (.bool false))) :=
        ⟨(KeepsFrom.trans ⟨kf.size, fun k o hk => kf.same k o (by omega)⟩ ((KeepsOthers.setCell _ _ _).from _)), trivial, ⟨rfl, row_put rV _ _⟩, _, HH.out.2 _ _ _ ((Below.refl _ _).setCell (p := ⟨W.heap.size + 1, 0, none⟩) (by simp; omega) _) hx3⟩
      clear hy hRd cy kq kf hx3 rV
      gi_wp2
      obtain ⟨p1, _, ⟨_, p3⟩, p4⟩ := HP.out
      exact ⟨p1, trivial, ⟨rfl, p3⟩, p4⟩
  case done =>
    rintro D ys V hD hys ⟨hJV, hKV⟩ hDV
    have rV : V.heap[W.heap.size + 1]? = some (.cells #[.bool false] 4 (0, 0)) := hKV.row (by omega) HR.out
    have q0 : V.cell? ⟨W.heap.size + 1, 0, none⟩ = some (.bool false) := (cell_of_row _ _ _ _ _ _ rV).trans rfl
    have q1 : V.frozen? ⟨W.heap.size + 1, 0, none⟩ = false := by simp [World.frozen?, rV]
    obtain ⟨V2, hV2⟩ : ∃ V2, V.setCell ⟨W.heap.size + 1, 0, none⟩ (.bool true) = V2 := ⟨_, rfl⟩
    have rD : V2.heap[D]? = some (.deferred (some [])) := by rw [← hV2]; exact row_other hDV _ _ (by omega) _
    have r2 : V2.heap[W.heap.size + 1]? = some (.cells #[.bool true] 4 (0, 0)) := by rw [← hV2]; exact row_put rV _ _
    have r3 : (V2.putObj D (.deferred none)).heap[W.heap.size + 1]? = some (.cells #[.bool true] 4 (0, 0)) := (World.putObj_heap_other (by omega)).trans r2
    have c3 : (V2.putObj D (.deferred none)).cell? ⟨W.heap.size + 1, 0, none⟩ = some (.bool true) := (cell_of_row _ _ _ _ _ _ r3).trans rfl
    have bV : Below W.heap.size V (V2.putObj D (.deferred none)) := by
      have b1 : Below W.heap.size V V2 := by rw [← hV2]; exact (Below.refl _ _).setCell (p := ⟨W.heap.size + 1, 0, none⟩) (by simp) _
      exact b1.trans (below_putObj rD (by omega) _)
    gi_wp2
    refine ⟨by simp, .inl ⟨_, _, rfl, run_takeDeferred rD, ?_⟩⟩
    refine ⟨.bool true, ?_, .inl ⟨rfl, ⟨ys, hys, HH.out.1 _ _ _ (bV.mono hbW) hJV⟩, ?_⟩⟩
    · simp [results, Tryz.results95, go_sem, c3]
    · have h1 : KC w.heap.size B W V := HKU.out.trans hKV
      exact kc_dep (β := Unit) (by omega) (Nat.le_refl _) () _ _ bV h1
  case stop =>
    rintro D c q V hD ⟨⟨rfl, hcV⟩, hxV⟩ hDV
    have r3 : (V.putObj D (.deferred none)).heap[W.heap.size + 1]? = some (.cells #[.bool false] 4 (0, 0)) := (World.putObj_heap_other (by omega)).trans hcV
    have c3 : (V.putObj D (.deferred none)).cell? ⟨W.heap.size + 1, 0, none⟩ = some (.bool false) := (cell_of_row _ _ _ _ _ _ r3).trans rfl
    have bV : Below W.heap.size V (V.putObj D (.deferred none)) := below_putObj hDV (by omega) _
    gi_wp2
    refine ⟨by simp, .inl ⟨_, _, rfl, run_takeDeferred hDV, ?_⟩⟩
    refine ⟨.bool false, ?_, .inr ⟨rfl, ?_⟩⟩
    · simp [results, Tryz.results95, go_sem, c3]
    · obtain ⟨q, hq⟩ := hxV
      exact ⟨q, HH.out.2 _ _ _ (bV.mono hbW) hq⟩
end Go.Proofs.YtgopfaegdlefpaaGreatDoor
