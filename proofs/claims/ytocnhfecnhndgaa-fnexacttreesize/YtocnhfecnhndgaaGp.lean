/- The parts of a ladder: the iterator's contract. -/
import Derived.Test.YtocnhfecnhndgaaGo
namespace Go.Proofs.Ytocnhfecnhndgaa
open Go.RowKit Go.Shelf
set_option linter.unusedVariables false
attribute [local go_sem] Oper.semAt_some

theorem noneT_len (k : Int) (e : ElemT) (kids : List NetT) : noneT (.mk k e kids) = (decide (k = 0) && decide (e.op = 0) && decide (e.args.length = 0) && decide (kids.length = 0)) := by
  cases e with
  | mk op args => cases args <;> cases kids <;> simp [noneT]

theorem arms_in (w : World) (B l By Bn Ba N b0 b1 : Nat) (hBw : w.heap.size ≤ B) (hBb : B < b1) (h01 : b0 ≤ b1) (hBy : By ≠ B) (hBn : Bn ≠ B) (hBa : Ba ≠ B) (J Jx : List (PartW w) → World → Prop) (hJg : ∀ pre W W', Below W.heap.size W W' → J pre W → J pre W') (hJd : Dep b1 J) (hJxd : Dep b1 Jx) (hJs : ∀ pre W, J pre W → b1 ≤ W.heap.size)
    (hY0 : ∀ pre (x : PartW w) W, J pre W → pre.length < N → YieldAt Fence.wide 0 Try.prog l #[x.1.1] W fun e W' => (e = .returned (.bool true) ∧ KD w.heap.size B b0 W W' ∧ J (pre ++ [x]) W') ∨ (e = .returned (.bool false) ∧ KD w.heap.size B b0 W W' ∧ Jx (pre ++ [x]) W')) :
    ∀ (m n : Nat) (v : Value) (rung : Bool) (kids : List ArmT) (pre : List (PartW w)) (W : World), Below w.heap.size w W → B < W.heap.size → YB W By l → MB W By Bn → AB W By Bn Ba → RowB W B 6 (ArmIs w 0 m) v kids → (kids.map (wA m)).sum ≤ 1048576 → J pre W → pre.length + (kids.flatMap (pArm m)).length ≤ N →
      CallsIn Fence.wide n Try.prog 59 #[v, .bool rung, .pointer (some ⟨Bn, 0, none⟩), .pointer (some ⟨By, 0, none⟩), .pointer (some ⟨Ba, 0, none⟩)] W fun e W' =>
        (e = .returned (.bool true) ∧ (∃ ys, ghosts ys = kids.flatMap (pArm m) ∧ J (pre ++ ys) W') ∧ KC w.heap.size B W W') ∨ (e = .returned (.bool false) ∧ ∃ q, Jx q W') := by
  have hY : ∀ pre (x : PartW w) W, J pre W → pre.length < N → YieldAt Fence.wide 0 Try.prog l #[x.1.1] W fun e W' => (e = .returned (.bool true) ∧ J (pre ++ [x]) W' ∧ KC w.heap.size B W W') ∨ (e = .returned (.bool false) ∧ Jx (pre ++ [x]) W') := fun pre x W h hl => (hY0 pre x W h hl).mono fun e W' hh => by
    rcases hh with ⟨he, hk, hj⟩ | ⟨he, hk, hj⟩
    · exact .inl ⟨he, hj, hk.1⟩
    · exact .inr ⟨he, hj⟩
  intro m
  induction m with
  | zero =>
    intro n v rung kids pre W hb hBW hyb hnb hab hr hw hJ hN
    have hk : kids = [] := by
      obtain ⟨a, cap, rfl, hl, hx⟩ := hr
      cases kids with
      | nil => rfl
      | cons k r => obtain ⟨_, _, _, _, _, _, _, h⟩ := hx 0 k rfl; exact h.elim
    subst hk
    exact arms_step w B l By Bn Ba N hBw hBy hBn hBa J Jx hJg hY (ArmIs w 0 0) (fun _ => []) (fun _ => []) n v rung [] pre W hb hBW hyb hnb hab hr hJ hN (fun t cs h => by simp at h)
  | succ m ih =>
    intro n v rung kids pre W hb hBW hyb hnb hab hr hw hJ hN
    have e : kids.flatMap (pArm (m + 1)) = kids.flatMap (fun t => (match t with | .mk net coils ks => if noneT net then [] else pNet m net) ++ Sum.inr t :: (match t with | .mk net coils ks => ks.flatMap (pArm m))) := by
      congr 1; funext t; cases t; rfl
    rw [e] at hN ⊢
    refine arms_step w B l By Bn Ba N hBw hBy hBn hBa J Jx hJg hY (ArmIs w 0 (m + 1)) _ _ n v rung kids pre W hb hBW hyb hnb hab hr hJ hN ?_
    intro t cs ht hR
    have hwt : wA (m + 1) t ≤ 1048576 := sum_le_mem _ _ _ ht hw
    cases t with
    | mk net coils ks =>
      have hR' := hR
      obtain ⟨ns, v3, v4, rfl, hn, hc, hk⟩ := hR
      have hn' := hn
      cases m with
      | zero => exact hn.elim
      | succ m' =>
        cases net with
        | mk k e nk =>
          obtain ⟨v1, v2, rfl, ha, hnk⟩ := hn
          obtain ⟨a1, c1, rfl, hl1, _⟩ := id ha
          obtain ⟨a2, c2, rfl, hl2, _⟩ := id hnk
          obtain ⟨a3, c3, rfl, _, _⟩ := id hc
          obtain ⟨a4, c4, rfl, _, _⟩ := id hk
          have hww := hwt
          rw [show wA (m' + 1 + 1) (ArmT.mk (NetT.mk k e nk) coils ks) = wN (m' + 1) (NetT.mk k e nk) + (coils.length + (coils.map wE).sum) + (ks.length + (ks.map (wA (m' + 1))).sum) from rfl] at hww
          refine ⟨k, e.op, a1, _, c1, a2, _, c2, a3, _, c3, a4, _, c4, noneT (.mk k e nk), rfl, fun r => ⟨m' + 1 + 1, _, r, hR', hwt, rfl⟩, fun W => ?_, fun hnn => ?_, fun hnn n' pre' W' hb' hBW' hyb' hnb' hJ' hN' => ?_, fun n' pre' W' hb' hBW' hyb' hnb' hab' hJ' hN' => ?_⟩
          · rw [noneT_len]; exact none_i k e.op a1 _ c1 a2 _ c2 W hl1 hl2
          · show (if noneT (.mk k e nk) then [] else pNet (m' + 1) (.mk k e nk)) = []
            rw [hnn]; rfl
          · have eP : (if noneT (.mk k e nk) then ([] : List PartT) else pNet (m' + 1) (.mk k e nk)) = pNet (m' + 1) (.mk k e nk) := by rw [hnn]; simp
            have hN2 : pre'.length + ((if noneT (.mk k e nk) then ([] : List PartT) else pNet (m' + 1) (.mk k e nk))).length ≤ N := hN'
            rw [eP] at hN2
            have h := net1_in w B l By N b0 b1 hBw hBb h01 hBy J Jx hJd hJxd hY0 (m' + 1) n' k e.op a1 _ c1 a2 _ c2 (NetT.mk k e nk) pre' W' hb' (hJs _ _ hJ') hyb' hn' (by omega) hJ' hN2
            rw [← eP] at h
            exact h
          · exact ih n' _ false ks pre' W' hb' hBW' hyb' hnb' hab' (RowIs.rowB hk (by omega) hb' hBw) (by omega) hJ' hN'

set_option maxRecDepth 100000 in
set_option maxHeartbeats 2000000 in
/-- The function that treeParts hands back. -/
theorem parts1_in (w : World) (B Bx l N m b0 b1 : Nat) (hBw : w.heap.size ≤ B) (hBb : B < b1) (h01 : b0 ≤ b1) (hBx : Bx ≠ B) (J Jx : List (PartW w) → World → Prop) (hJg : ∀ pre W W', Below W.heap.size W W' → J pre W → J pre W') (hJd : Dep b1 J) (hJxd : Dep b1 Jx) (hJs : ∀ pre W, J pre W → b1 ≤ W.heap.size)
    (n : Nat) (hY : ∀ pre (x : PartW w) W, J pre W → pre.length < N → YieldAt Fence.wide (n - 1) Try.prog l #[x.1.1] W fun e W' => (e = .returned (.bool true) ∧ KD w.heap.size B b0 W W' ∧ J (pre ++ [x]) W') ∨ (e = .returned (.bool false) ∧ KD w.heap.size B b0 W W' ∧ Jx (pre ++ [x]) W'))
    (v : Value) (kids : List ArmT) (W : World) (hb : Below w.heap.size w W) (hBW : B < W.heap.size) (hc : W.cell? ⟨Bx, 0, none⟩ = some v) (hr : ArmsIs w 0 m v kids) (hw : (kids.map (wA m)).sum ≤ 1048576) (hJ : J [] W) (hN : (kids.flatMap (pArm m)).length ≤ N) :
      CallsIn Fence.wide n Try.prog 56 #[.func (.yield l) #[] #[], .pointer (some ⟨Bx, 0, none⟩)] W fun e W' =>
        (∃ v, e = .returned v) ∧ ((∃ ys, ghosts ys = kids.flatMap (pArm m) ∧ J ys W') ∨ (∃ q, True ∧ Jx q W')) := by
  have hdd : ∀ k : Nat, (Fence.wide.depth.isSome = true → 1 ≤ k) := fun k h => by cases h
  have hmf : ∀ (fn : Fn) (first cap : Array Value) (w : World), (Instr.makeFunc fn first cap).run Try.prog w = .ok (.func fn first cap) w := fun _ _ _ _ => rfl
  have stf : ∀ (fn : Fn) (first cap : Array Value) (w : World) (a : Addr) (m : Mode), (store a (.func fn first cap) m).run Try.prog w = stored Try.prog w a (.func fn first cap) m := fun _ _ _ w a m => run_store Try.prog w a _ m rfl
  have hr0 := hr
  obtain ⟨a, cap, rfl, _, _⟩ := hr0
  have lx : Bx < W.heap.size := World.block_lt_of_cell? _ _ hc
  obtain ⟨W1, hW1⟩ : ∃ W1, W1 = (((W.alloc (.cells #[.func (.yield l) #[] #[]] 88)).alloc (.cells #[.func (.func 57) #[] #[.pointer (some ⟨W.heap.size, 0, none⟩)]] 82)).alloc (.cells #[.func (.func 59) #[] #[.pointer (some ⟨W.heap.size + 1, 0, none⟩), .pointer (some ⟨W.heap.size, 0, none⟩), .pointer (some ⟨W.heap.size + 1 + 1, 0, none⟩)]] 90)) := ⟨_, rfl⟩
  have g1 : Below W.heap.size W W1 := by rw [hW1]; exact (((Below.refl _ _).alloc (Nat.le_refl _) _).alloc (by simp) _).alloc (by simp <;> omega) _
  have hk := rows3 W (.cells #[.func (.yield l) #[] #[]] 88) (.cells #[.func (.func 57) #[] #[.pointer (some ⟨W.heap.size, 0, none⟩)]] 82) (.cells #[.func (.func 59) #[] #[.pointer (some ⟨W.heap.size + 1, 0, none⟩), .pointer (some ⟨W.heap.size, 0, none⟩), .pointer (some ⟨W.heap.size + 1 + 1, 0, none⟩)]] 90)
  rw [← hW1] at hk
  have hca := arms_in w B l W.heap.size (W.heap.size + 1) (W.heap.size + 1 + 1) N b0 b1 hBw hBb h01 (by omega) (by omega) (by omega) J Jx hJg hJd hJxd hJs (fun pre x W h hl => yield_any 0 (hY pre x W h hl)) m (n - 1) _ true kids [] W1 (hb.trans (g1.mono hb.size)) (Nat.lt_of_lt_of_le hBW g1.size) hk.1 hk.2.1 hk.2.2 (RowIs.rowB hr (by omega) (hb.trans (g1.mono hb.size)) hBw) hw (hJg _ _ _ g1 hJ) (by simpa using hN)
  have cx : W1.cell? ⟨Bx, 0, none⟩ = some (.slice a kids.length cap) := (Keeps.of_below g1 0) _ _ _ (Nat.zero_le _) hc
  rw [hW1] at hca cx
  clear hk g1 hW1 hY hJg
  refine callsIn_of_wp Try.func56 rfl trivial ?_ rfl
  simp only [Try.ntmps56, List.size_toArray, List.length_cons, List.length_nil, Nat.reduceAdd, Nat.reduceSub, Array.replicate_succ, Array.replicate_zero, List.push_toArray, List.append_toArray, List.nil_append, List.cons_append]
  gi_wp2
  refine ⟨trivial, hdd _, ?_⟩
  refine hca.mono ?_
  rintro e W3 (⟨rfl, ⟨ys, hys, hJ3⟩, _⟩ | ⟨rfl, q, hx⟩)
  · gi_wp2
    go_end0
    exact ⟨⟨_, rfl⟩, .inl ⟨ys, hys, by simpa using hJ3⟩⟩
  · gi_wp2
    go_end0
    exact ⟨⟨_, rfl⟩, .inr ⟨q, trivial, hx⟩⟩
end Go.Proofs.Ytocnhfecnhndgaa
