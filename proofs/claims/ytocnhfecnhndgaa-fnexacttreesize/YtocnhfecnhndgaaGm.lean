/- The parts of a ladder, one by one: what is handed to a round; the closure over nets. -/
import Derived.Test.YtocnhfecnhndgaaXa
namespace Go.Proofs.Ytocnhfecnhndgaa
open Go.RowKit Go.Shelf
set_option linter.unusedVariables false
attribute [local go_sem] Oper.semAt_some

/-- Where no depth is asked, a round serves at any. -/
theorem yield_any {m : Nat} (m' : Nat) {P : Program} {l : Nat} {args : Array Value} {W : World} {R : Ending → World → Prop} (h : YieldAt Fence.wide m P l args W R) : YieldAt Fence.wide m' P l args W R := by
  obtain ⟨fn, tmps, assign, body, hy, hR⟩ := h
  exact ⟨fn, tmps, assign, body, hy, hR.1, fun c cs _ => hR.2 c cs (fun d h => by cases h)⟩

abbrev PartT := NetT ⊕ ArmT
def pNet : Nat → NetT → List PartT
  | 0, _ => []
  | m + 1, .mk k e kids => .inl (.mk k e kids) :: kids.flatMap (pNet m)
def noneT : NetT → Bool
  | .mk k e kids => decide (k = 0) && decide (e.op = 0) && e.args.isEmpty && kids.isEmpty
def pArm : Nat → ArmT → List PartT
  | 0, _ => []
  | m + 1, .mk net coils kids => (if noneT net then [] else pNet m net) ++ .inr (.mk net coils kids) :: kids.flatMap (pArm m)

/-- A part as it is handed to a round; its memory as it lay in the world w. -/
def POk (w : World) (x : Value × PartT) : Prop :=
  match x.2 with
  | .inl t => ∃ m cs, NetIs w 0 m t cs ∧ wN m t ≤ 1048576 ∧ x.1 = .iface 107 (.agg cs.toArray)
  | .inr a => ∃ m cs r, ArmIs w 0 m a cs ∧ wA m a ≤ 1048576 ∧ x.1 = .iface 92 (.agg (cs ++ [Value.bool r]).toArray)
abbrev PartW (w : World) := { x : Value × PartT // POk w x }
def ghosts {w : World} (ys : List (PartW w)) : List PartT := ys.map (fun y => y.1.2)

/-- What a round keeps: all rows of cells but one. -/
def KC (n₀ B : Nat) (W W' : World) : Prop := Below n₀ W W' ∧ ∀ b C t f, b ≠ B → W.heap[b]? = some (.cells C t f) → W'.heap[b]? = some (.cells C t f)
theorem KC.refl (n₀ B : Nat) (W : World) : KC n₀ B W W := ⟨Below.refl _ _, fun _ _ _ _ _ h => h⟩
theorem KC.trans {n₀ B : Nat} {W W' W'' : World} (h : KC n₀ B W W') (h' : KC n₀ B W' W'') : KC n₀ B W W'' := ⟨h.1.trans h'.1, fun b C t f hb hc => h'.2 b C t f hb (h.2 b C t f hb hc)⟩
theorem KC.of_below {n₀ B : Nat} {W W' : World} (g : Below W.heap.size W W') (hn : n₀ ≤ W.heap.size) : KC n₀ B W W' := ⟨g.mono hn, fun b C t f _ h => (g.block _ (Array.getElem?_eq_some_iff.1 h).1).trans h⟩
theorem KC.alloc {n₀ B : Nat} {W : World} (hn : n₀ ≤ W.heap.size) (o : Obj) : KC n₀ B W (W.alloc o) := KC.of_below ((Below.refl _ _).alloc (Nat.le_refl _) _) hn
theorem KC.row {n₀ B : Nat} {W W' : World} (h : KC n₀ B W W') {b : Nat} {C : Array Value} {t : TypeId} (hb : b ≠ B) (hr : W.heap[b]? = some (.cells C t (0, 0))) : W'.heap[b]? = some (.cells C t (0, 0)) := h.2 _ _ _ _ hb hr
theorem KC.cell {n₀ B : Nat} {W W' : World} (h : KC n₀ B W W') {b o : Nat} {v : Value} (hb : b ≠ B) (hc : W.cell? ⟨b, o, none⟩ = some v) : W'.cell? ⟨b, o, none⟩ = some v := by
  unfold World.cell? at hc ⊢
  cases hh : W.heap[b]? with
  | none => simp [hh] at hc
  | some ob =>
    cases ob with
    | cells C t f => rw [h.2 b C t f hb hh]; rw [hh] at hc; exact hc
    | _ => simp [hh] at hc

/-- A slice whose elements lie anywhere but in one block. -/
def RowB {α : Type} (W : World) (B z : Nat) (R : α → List Value → Prop) (v : Value) (xs : List α) : Prop :=
  ∃ (a : Option Addr) (cap : Nat), v = .slice a xs.length cap ∧ xs.length ≤ 9223372036854775807 ∧ ∀ j x, xs[j]? = some x → ∃ b o cs, a = some ⟨b, o, none⟩ ∧ b ≠ B ∧ cs.length = z ∧ W.rangeAt b (o + j * z) cs ∧ R x cs
theorem RowB.keep {α : Type} {n₀ : Nat} {W W' : World} {B z : Nat} {R : α → List Value → Prop} {v : Value} {xs : List α} (h : RowB W B z R v xs) (k : KC n₀ B W W') : RowB W' B z R v xs := by
  obtain ⟨a, cap, hv, hl, hx⟩ := h
  refine ⟨a, cap, hv, hl, fun j x hj => ?_⟩
  obtain ⟨b, o, cs, ha, hb, hc, hr, hRx⟩ := hx j x hj
  exact ⟨b, o, cs, ha, hb, hc, fun i c hi => k.cell hb (hr i c hi), hRx⟩
theorem RowIs.rowB {α : Type} {w W : World} {z : Nat} {R : α → List Value → Prop} {v : Value} {xs : List α} (h : RowIs w 0 z R v xs) (hz : 0 < z) (g : Below w.heap.size w W) {B : Nat} (hB : w.heap.size ≤ B) : RowB W B z R v xs := by
  obtain ⟨a, cap, hv, hl, hx⟩ := h
  refine ⟨a, cap, hv, hl, fun j x hj => ?_⟩
  obtain ⟨b, o, cs, ha, hb, hc, hr, hRx⟩ := hx j x hj
  have hlt : b < w.heap.size := by
    have := hr 0 _ (List.getElem?_eq_getElem (by omega))
    exact World.block_lt_of_cell? _ _ this
  exact ⟨b, o, cs, ha, by omega, hc, fun i c hi => (Keeps.of_below g 0) _ _ _ (Nat.zero_le _) (hr i c hi), hRx⟩

def YB (W : World) (By l : Nat) : Prop := W.heap[By]? = some (.cells #[.func (.yield l) #[] #[]] 88 (0, 0))
def NB (W : World) (By Bn : Nat) : Prop := W.heap[Bn]? = some (.cells #[.func (.func 76) #[] #[.pointer (some ⟨By, 0, none⟩), .pointer (some ⟨Bn, 0, none⟩)]] 106 (0, 0))

theorem flat_take_le {α β : Type} (f : α → List β) : ∀ (xs : List α) (i : Nat), ((xs.take i).flatMap f).length ≤ (xs.flatMap f).length
  | [], i => by simp
  | y :: ys, 0 => by simp
  | y :: ys, i + 1 => by
    have := flat_take_le f ys i
    simp only [List.take_succ_cons, List.flatMap_cons, List.length_append]; omega

set_option maxRecDepth 100000 in
set_option maxHeartbeats 4000000 in
theorem nets_step (w : World) (B l By Bn N : Nat) (hBw : w.heap.size ≤ B) (hBy : By ≠ B) (hBn : Bn ≠ B) (J Jx : List (PartW w) → World → Prop) (hJa : ∀ pre W o, J pre W → J pre (W.alloc o))
    (hY : ∀ pre (x : PartW w) W, J pre W → pre.length < N → YieldAt Fence.wide 0 Try.prog l #[x.1.1] W fun e W' => (e = .returned (.bool true) ∧ J (pre ++ [x]) W' ∧ KC w.heap.size B W W') ∨ (e = .returned (.bool false) ∧ Jx (pre ++ [x]) W'))
    (R : NetT → List Value → Prop) (PK : NetT → List PartT) (n : Nat) (v : Value) (kids : List NetT) (pre : List (PartW w)) (W : World) (hb : Below w.heap.size w W) (hBW : B < W.heap.size) (hyb : YB W By l) (hnb : NB W By Bn) (hr : RowB W B 4 R v kids) (hJ : J pre W) (hN : pre.length + (kids.flatMap (fun t => .inl t :: PK t)).length ≤ N)
    (HR : Hid (∀ t cs, t ∈ kids → R t cs → ∃ k op a1 l1 c1 a2 l2 c2, cs = [.int .i64 k, .int .i64 op, .slice a1 l1 c1, .slice a2 l2 c2] ∧ POk w (.iface 107 (.agg cs.toArray), .inl t) ∧
      ∀ n pre W, Below w.heap.size w W → B < W.heap.size → YB W By l → NB W By Bn → J pre W → pre.length + (PK t).length ≤ N →
        CallsIn Fence.wide n Try.prog 76 #[.slice a2 l2 c2, .pointer (some ⟨By, 0, none⟩), .pointer (some ⟨Bn, 0, none⟩)] W fun e W' =>
          (e = .returned (.bool true) ∧ (∃ ys, ghosts ys = PK t ∧ J (pre ++ ys) W') ∧ KC w.heap.size B W W') ∨ (e = .returned (.bool false) ∧ ∃ q, Jx q W'))) :
      CallsIn Fence.wide n Try.prog 76 #[v, .pointer (some ⟨By, 0, none⟩), .pointer (some ⟨Bn, 0, none⟩)] W fun e W' =>
        (e = .returned (.bool true) ∧ (∃ ys, ghosts ys = kids.flatMap (fun t => .inl t :: PK t) ∧ J (pre ++ ys) W') ∧ KC w.heap.size B W W') ∨ (e = .returned (.bool false) ∧ ∃ q, Jx q W') := by
  have hr0 := hr
  obtain ⟨a, cap, rfl, hl, _⟩ := hr
  have HRow : Hid (RowB W B 4 R (.slice a kids.length cap) kids) := hr0
  have HJ0 : Hid (J pre W) := hJ
  have HYb : Hid (YB W By l ∧ NB W By Bn ∧ Below w.heap.size w W ∧ B < W.heap.size) := ⟨hyb, hnb, hb, hBW⟩
  have HN : Hid (pre.length + (kids.flatMap (fun t => .inl t :: PK t)).length ≤ N) := hN
  have HJa : Hid (∀ pre W o, J pre W → J pre (W.alloc o)) := hJa
  have HY : Hid (∀ pre (x : PartW w) W, J pre W → pre.length < N → YieldAt Fence.wide 0 Try.prog l #[x.1.1] W fun e W' => (e = .returned (.bool true) ∧ J (pre ++ [x]) W' ∧ KC w.heap.size B W W') ∨ (e = .returned (.bool false) ∧ Jx (pre ++ [x]) W')) := hY
  obtain ⟨len, HL⟩ : ∃ len, Hid (len = kids.length) := ⟨_, rfl⟩
  rw [← HL.out] at hl HRow ⊢
  have hdd : ∀ k : Nat, (Fence.wide.depth.isSome = true → 1 ≤ k) := fun k h => by cases h
  clear hr0 hJ hyb hnb hb hBW hN hJa hY
  refine callsIn_of_wp Try.func76 rfl trivial ?_ rfl
  simp only [Try.ntmps76, List.size_toArray, List.length_cons, List.length_nil, Nat.reduceAdd, Nat.reduceSub, Array.replicate_succ, Array.replicate_zero, List.push_toArray, List.append_toArray, List.nil_append, List.cons_append]
  gi_wp2
  gi_loopw [9] (fun i wr => ∃ (c : Nat) (ys : List (PartW w)), i = .int .i64 c ∧ c ≤ len ∧ Hid (ghosts ys = (kids.take c).flatMap (fun t => .inl t :: PK t)) ∧ Hid (J (pre ++ ys) wr) ∧ Hid (KC w.heap.size B W wr))
    (fun i _ => len - (RowKit.intOf i).toNat)
  case atStart => exact ⟨0, [], rfl, Nat.zero_le _, rfl, (by simpa using HJ0.out : J (pre ++ []) W), KC.refl _ _ _⟩
  case round =>
    obtain ⟨c, ys, rfl, hc, HG, HJ, HK⟩ := hrel
    by_cases hlt : c < len
    · have i1 : (c : Int) < (len : Int) := by omega
      have i3 : (0 : Int) ≤ (c : Int) := by omega
      obtain ⟨t, ht⟩ : ∃ t, kids[c]? = some t := ⟨_, List.getElem?_eq_getElem (by have := HL.out; omega)⟩
      obtain ⟨a', cap', hv', hl', hx⟩ := HRow.out.keep HK.out
      simp only [Value.slice.injEq] at hv'
      obtain ⟨ea, ea1, ea2⟩ := hv'
      subst ea
      clear ea1 ea2
      obtain ⟨b, o, cs, rfl, hbB, hcs, hrg, hRt⟩ := hx c t ht
      obtain ⟨k, op, a1, l1, c1, a2, l2, c2, rfl, hpok, hrec⟩ := HR.out t cs (List.mem_of_getElem? ht) hRt
      have x0 : wr.cell? ⟨b, o + c * 4, none⟩ = some (.int .i64 k) := hrg 0 _ rfl
      have x1 : wr.cell? ⟨b, o + c * 4 + 1, none⟩ = some (.int .i64 op) := hrg 1 _ rfl
      have x2 : wr.cell? ⟨b, o + c * 4 + 2, none⟩ = some (.slice a1 l1 c1) := hrg 2 _ rfl
      have x3 : wr.cell? ⟨b, o + c * 4 + 3, none⟩ = some (.slice a2 l2 c2) := hrg 3 _ rfl
      obtain ⟨W1, hW1⟩ : ∃ W1, W1 = wr.alloc (.cells #[.int .i64 k, .int .i64 op, .slice a1 l1 c1, .slice a2 l2 c2] 48) := ⟨_, rfl⟩
      have hgs : (kids.take (c + 1)).flatMap (fun t => Sum.inl t :: PK t) = (kids.take c).flatMap (fun t => .inl t :: PK t) ++ .inl t :: PK t := by
        rw [List.take_add_one, ht]; simp
      have hlenG : ys.length = ((kids.take c).flatMap (fun t => Sum.inl (β := ArmT) t :: PK t)).length := by rw [← HG.out]; simp [ghosts]
      have hpl : ((kids.take (c + 1)).flatMap (fun t => Sum.inl (β := ArmT) t :: PK t)).length ≤ (kids.flatMap (fun t => Sum.inl (β := ArmT) t :: PK t)).length := flat_take_le _ _ _
      have hNN := HN.out
      rw [hgs, List.length_append, List.length_cons] at hpl
      have hKW1 : KC w.heap.size B W W1 := by rw [hW1]; exact HK.out.trans (KC.alloc (Nat.le_trans HYb.out.2.2.1.size HK.out.1.size) _)
      have hJ1 : J (pre ++ ys) W1 := by rw [hW1]; exact HJa.out _ _ _ HJ.out
      have yb1 : W1.heap[By]? = _ := hKW1.row hBy HYb.out.1
      have cy1 : W1.cell? ⟨By, 0, none⟩ = some (.func (.yield l) #[] #[]) := (cell_of_row _ _ _ _ _ _ yb1).trans rfl
      obtain ⟨fn, tmps, assign, body, hy, hR⟩ := yield_any (n - 1) (HY.out (pre ++ ys) ⟨(.iface 107 (.agg #[.int .i64 k, .int .i64 op, .slice a1 l1 c1, .slice a2 l2 c2]), .inl t), hpok⟩ W1 hJ1 (by simp; omega))
      rw [hW1] at hy hR cy1
      gi_wp2
      refine ⟨hdd _, ?_⟩
      refine hR.mono ?_
      rintro e W3 (⟨rfl, hJ3, hk3⟩ | ⟨rfl, hx3⟩)
      rotate_left
      · clear hy hR yb1 cy1 hJ1 hKW1 hW1 x0 x1 x2 x3 hrg hx hrec
        gi_wp2
        refine ⟨fun _ h => (by cases h), ?_⟩
        gi_wp2
        go_ret
        exact .inr ⟨rfl, _, hx3⟩
      rw [← hW1] at hk3
      have hK3 : KC w.heap.size B W W3 := hKW1.trans hk3
      have yb3 : YB W3 By l := hK3.row hBy HYb.out.1
      have nb3 : NB W3 By Bn := hK3.row hBn HYb.out.2.1
      have szw : B < wr.heap.size := Nat.lt_of_lt_of_le HYb.out.2.2.2 HK.out.1.size
      have cn3 : W3.cell? ⟨Bn, 0, none⟩ = some (.func (.func 76) #[] #[.pointer (some ⟨By, 0, none⟩), .pointer (some ⟨Bn, 0, none⟩)]) := (cell_of_row _ _ _ _ _ _ nb3).trans rfl
      have bx3 : W3.heap[wr.heap.size]? = some (.cells #[.int .i64 k, .int .i64 op, .slice a1 l1 c1, .slice a2 l2 c2] 48 (0, 0)) := hk3.row (by omega) (by rw [hW1]; exact heap_alloc_last wr _)
      have c33 : W3.cell? ⟨wr.heap.size, 3, none⟩ = some (.slice a2 l2 c2) := (cell_of_row _ _ _ _ _ _ bx3).trans rfl
      have hrc := hrec (n - 1) _ W3 (HYb.out.2.2.1.trans hK3.1) (Nat.lt_of_lt_of_le HYb.out.2.2.2 hK3.1.size) yb3 nb3 hJ3 (by simp; omega)
      have HK3 : Hid (KC w.heap.size B W W3) := hK3
      clear hy hR hk3 yb3 nb3 bx3 hK3 hJ3 hrec yb1 cy1 hJ1 hKW1 hW1 x0 x1 x2 x3 hrg hx
      gi_wp2
      refine ⟨trivial, hdd _, ?_⟩
      refine hrc.mono ?_
      rintro e W4 (⟨rfl, ⟨zs, hzs, hJ4⟩, hk4⟩ | ⟨rfl, qx, hx4⟩)
      rotate_left
      · clear hrc
        gi_wp2
        go_ret
        exact .inr ⟨rfl, qx, hx4⟩
      clear hrc
      gi_wp2
      go_roundw
      case rel =>
        refine ⟨c + 1, ys ++ (⟨(.iface 107 (.agg #[.int .i64 k, .int .i64 op, .slice a1 l1 c1, .slice a2 l2 c2]), .inl t), hpok⟩ : PartW w) :: zs, by simp, by omega, ?_, ?_, HK3.out.trans hk4⟩
        · show ghosts _ = _
          rw [hgs, ← HG.out, ← hzs]; simp [ghosts]
        · show J _ W4
          simpa [List.append_assoc] using hJ4
      case measure => simp [RowKit.intOf]; omega
    · have i1 : ¬ ((c : Int) < (len : Int)) := by omega
      gi_wp2
      go_ret
      refine .inl ⟨rfl, ⟨ys, ?_, HJ.out⟩, HK.out⟩
      rw [HG.out, List.take_of_length_le (by have := HL.out; omega)]

theorem sum_le_mem {α : Type} (f : α → Nat) (xs : List α) (x : α) (h : x ∈ xs) {k : Nat} (hk : (xs.map f).sum ≤ k) : f x ≤ k := Nat.le_trans (sum_mem f xs x h) hk

theorem nets_in (w : World) (B l By Bn N : Nat) (hBw : w.heap.size ≤ B) (hBy : By ≠ B) (hBn : Bn ≠ B) (J Jx : List (PartW w) → World → Prop) (hJa : ∀ pre W o, J pre W → J pre (W.alloc o))
    (hY : ∀ pre (x : PartW w) W, J pre W → pre.length < N → YieldAt Fence.wide 0 Try.prog l #[x.1.1] W fun e W' => (e = .returned (.bool true) ∧ J (pre ++ [x]) W' ∧ KC w.heap.size B W W') ∨ (e = .returned (.bool false) ∧ Jx (pre ++ [x]) W')) :
    ∀ (m n : Nat) (v : Value) (kids : List NetT) (pre : List (PartW w)) (W : World), Below w.heap.size w W → B < W.heap.size → YB W By l → NB W By Bn → RowB W B 4 (NetIs w 0 m) v kids → (kids.map (wN m)).sum ≤ 1048576 → J pre W → pre.length + (kids.flatMap (pNet m)).length ≤ N →
      CallsIn Fence.wide n Try.prog 76 #[v, .pointer (some ⟨By, 0, none⟩), .pointer (some ⟨Bn, 0, none⟩)] W fun e W' =>
        (e = .returned (.bool true) ∧ (∃ ys, ghosts ys = kids.flatMap (pNet m) ∧ J (pre ++ ys) W') ∧ KC w.heap.size B W W') ∨ (e = .returned (.bool false) ∧ ∃ q, Jx q W') := by
  intro m
  induction m with
  | zero =>
    intro n v kids pre W hb hBW hyb hnb hr hw hJ hN
    have hk : kids = [] := by
      obtain ⟨a, cap, rfl, hl, hx⟩ := hr
      cases kids with
      | nil => rfl
      | cons k r => obtain ⟨_, _, _, _, _, _, _, h⟩ := hx 0 k rfl; exact h.elim
    subst hk
    exact nets_step w B l By Bn N hBw hBy hBn J Jx hJa hY (NetIs w 0 0) (fun _ => []) n v [] pre W hb hBW hyb hnb hr hJ hN (fun t cs h => by simp at h)
  | succ m ih =>
    intro n v kids pre W hb hBW hyb hnb hr hw hJ hN
    have e : kids.flatMap (pNet (m + 1)) = kids.flatMap (fun t => Sum.inl t :: (match t with | .mk k e ks => ks.flatMap (pNet m))) := by
      congr 1; funext t; cases t; rfl
    rw [e] at hN ⊢
    refine nets_step w B l By Bn N hBw hBy hBn J Jx hJa hY (NetIs w 0 (m + 1)) _ n v kids pre W hb hBW hyb hnb hr hJ hN ?_
    intro t cs ht hR
    have hwt : wN (m + 1) t ≤ 1048576 := sum_le_mem _ _ _ ht hw
    cases t with
    | mk k e ks =>
      have hR' := hR
      obtain ⟨v1, v2, rfl, ha, hk⟩ := hR
      obtain ⟨a1, c1, rfl, _, _⟩ := id ha
      obtain ⟨a2, c2, rfl, _, _⟩ := id hk
      refine ⟨k, e.op, a1, _, c1, a2, _, c2, rfl, ⟨m + 1, _, hR', hwt, rfl⟩, ?_⟩
      intro n' pre' W' hb' hBW' hyb' hnb' hJ' hN'
      simp only [wN] at hwt
      exact ih n' _ ks pre' W' hb' hBW' hyb' hnb' (RowIs.rowB hk (by omega) hb' hBw) (by omega) hJ' hN'

theorem kc_dep {β : Type} {n₀ B B1 : Nat} {W0 : World} (hn : n₀ ≤ B1) (hW : W0.heap.size ≤ B1) : Dep B1 (fun (_ : β) W => KC n₀ B W0 W) := fun s W W' g hs =>
  ⟨hs.1.trans (g.mono hn), fun b C t f hb hc => (g.block b (by have := (Array.getElem?_eq_some_iff.1 hc).1; omega)).trans (hs.2 b C t f hb hc)⟩
theorem kc_b {n₀ B : Nat} {w : World} (hn : n₀ ≤ w.heap.size) (W : World) (l : Nat) (o o' : Obj) (hl : w.heap.size ≤ l) (h : W.heap[l]? = some o) (hc : o.isCells = false) (hw : o.isWalk = false) : KC n₀ B W (W.putObj l o') :=
  ⟨belowK_b hn W l o o' hl h hc hw, fun b C t f _ hb => by
    have hne : b ≠ l := fun e => by subst e; rw [h] at hb; cases hb; cases hc
    rw [World.putObj_heap_other hne]; exact hb⟩
set_option maxHeartbeats 2000000 in
theorem nets1_in (w : World) (B Bx l N m : Nat) (hBw : w.heap.size ≤ B) (J Jx : List (PartW w) → World → Prop) (hJg : ∀ pre W W', Below W.heap.size W W' → J pre W → J pre W')
    (n : Nat) (hY : ∀ pre (x : PartW w) W, J pre W → pre.length < N → YieldAt Fence.wide (n - 1) Try.prog l #[x.1.1] W fun e W' => (e = .returned (.bool true) ∧ J (pre ++ [x]) W' ∧ KC w.heap.size B W W') ∨ (e = .returned (.bool false) ∧ Jx (pre ++ [x]) W'))
    (v : Value) (kids : List NetT) (W : World) (hb : Below w.heap.size w W) (hBW : B < W.heap.size) (hc : W.cell? ⟨Bx, 0, none⟩ = some v) (hr : RowB W B 4 (NetIs w 0 m) v kids) (hw : (kids.map (wN m)).sum ≤ 1048576) (hJ : J [] W) (hN : (kids.flatMap (pNet m)).length ≤ N) :
      CallsIn Fence.wide n Try.prog 75 #[.func (.yield l) #[] #[], .pointer (some ⟨Bx, 0, none⟩)] W fun e W' =>
        (∃ v, e = .returned v) ∧ ((∃ ys, ghosts ys = kids.flatMap (pNet m) ∧ J ys W') ∨ (∃ q, Jx q W')) := by
  have hdd : ∀ k : Nat, (Fence.wide.depth.isSome = true → 1 ≤ k) := fun k h => by cases h
  have hmf : ∀ (fn : Fn) (first cap : Array Value) (w : World), (Instr.makeFunc fn first cap).run Try.prog w = .ok (.func fn first cap) w := fun _ _ _ _ => rfl
  have stf : ∀ (fn : Fn) (first cap : Array Value) (w : World) (a : Addr) (m : Mode), (store a (.func fn first cap) m).run Try.prog w = stored Try.prog w a (.func fn first cap) m := fun _ _ _ w a m => run_store Try.prog w a _ m rfl
  have hr0 := hr
  obtain ⟨a, cap, rfl, _, _⟩ := hr0
  have lx : Bx < W.heap.size := World.block_lt_of_cell? _ _ hc
  obtain ⟨W1, hW1⟩ : ∃ W1, W1 = ((W.alloc (.cells #[.func (.yield l) #[] #[]] 88)).alloc (.cells #[.func (.func 76) #[] #[.pointer (some ⟨W.heap.size, 0, none⟩), .pointer (some ⟨W.heap.size + 1, 0, none⟩)]] 106)) := ⟨_, rfl⟩
  have g1 : Below W.heap.size W W1 := by rw [hW1]; exact ((Below.refl _ _).alloc (Nat.le_refl _) _).alloc (by simp) _
  have hk := rows2 W (.cells #[.func (.yield l) #[] #[]] 88) (.cells #[.func (.func 76) #[] #[.pointer (some ⟨W.heap.size, 0, none⟩), .pointer (some ⟨W.heap.size + 1, 0, none⟩)]] 106)
  rw [← hW1] at hk
  have hca := nets_in w B l W.heap.size (W.heap.size + 1) N hBw (by omega) (by omega) J Jx (fun pre W o h => hJg pre W _ ((Below.refl _ _).alloc (Nat.le_refl _) _) h) (fun pre x W h hl => yield_any 0 (hY pre x W h hl)) m (n - 1) _ kids [] W1 (hb.trans (g1.mono hb.size)) (Nat.lt_of_lt_of_le hBW g1.size) hk.1 hk.2 (hr.keep (KC.of_below (n₀ := w.heap.size) g1 hb.size)) hw (hJg _ _ _ g1 hJ) (by simpa using hN)
  have cx : W1.cell? ⟨Bx, 0, none⟩ = some (.slice a kids.length cap) := (Keeps.of_below g1 0) _ _ _ (Nat.zero_le _) hc
  rw [hW1] at hca cx
  clear hk g1 hW1 hY hJg
  refine callsIn_of_wp Try.func75 rfl trivial ?_ rfl
  simp only [Try.ntmps75, List.size_toArray, List.length_cons, List.length_nil, Nat.reduceAdd, Nat.reduceSub, Array.replicate_succ, Array.replicate_zero, List.push_toArray, List.append_toArray, List.nil_append, List.cons_append]
  gi_wp2
  refine ⟨trivial, hdd _, ?_⟩
  refine hca.mono ?_
  rintro e W3 (⟨rfl, ⟨ys, hys, hJ3⟩, _⟩ | ⟨rfl, q, hx⟩)
  · gi_wp2
    go_end0
    exact ⟨⟨_, rfl⟩, .inl ⟨ys, hys, by simpa using hJ3⟩⟩
  · gi_wp2
    go_end0
    exact ⟨⟨_, rfl⟩, .inr ⟨q, hx⟩⟩
set_option maxHeartbeats 1000000 in
theorem nets_call (a : Option Addr) (l c : Nat) (w : World) : Calls Try.prog 58 #[.slice a l c] w fun e w' => e = .returned (.func (.func 75) #[] #[.pointer (some ⟨w.heap.size, 0, none⟩)]) ∧ w' = w.alloc (.cells #[.slice a l c] 46) := by
  have hmf : ∀ (fn : Fn) (first cap : Array Value) (w : World), (Instr.makeFunc fn first cap).run Try.prog w = .ok (.func fn first cap) w := fun _ _ _ _ => rfl
  go_enter Try.func58, Try.ntmps58
  go_wp2
  go_ret
  exact ⟨rfl, rfl⟩
end Go.Proofs.Ytocnhfecnhndgaa
