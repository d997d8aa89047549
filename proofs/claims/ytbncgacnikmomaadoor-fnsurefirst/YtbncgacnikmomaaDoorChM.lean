/- The rungs of a list: the program's SureRungs. -/
import Derived.Test.YtbncgacnikmomaaDoorCfM
import Derived.Test.YtbncgacnikmomaaDoorBe
import Derived.Deep.RegionHeld3
import Derived.Deep.Upon
namespace Go.Proofs.YtbncgacnikmomaaDoor
open Go.RowKit
set_option linter.unusedVariables false

/-- One more instruction in the rung that is being made. -/
theorem rung_push {w wr w4 w6 : World} {rv cv va : Value} {out : List (List InstT)} {cur : List InstT} {x : InstT} {FR FC FC' f : List Nat} {cs : List Value} {g1 cap1 : Nat}
    (hS : SSOwn wr w.heap.size FR rv out) (hE : Each (InstOwn wr w.heap.size) 3 FC' cur cs) (hFC : FC = cv.ownBlock.toList ++ FC') (hFl : ∀ b ∈ FC, w.heap.size ≤ b ∧ b < wr.heap.size) (hnd : (FR ++ FC).Nodup)
    (g : Below wr.heap.size wr w4) (hA : ArgsOwn w4 wr.heap.size f va x.one.args) (hfn : f.Nodup)
    (own6 : w6.ownsRow w.heap.size 39 3 (.slice (some ⟨g1, 0, none⟩) (cur.length + 1) cap1) (cur.length + 1) (cs ++ [.int .i64 x.code, .int .i64 x.one.op, va])) (gg6 : w4.grownBy w6 cv.ownBlock) (hat : cv.ownBlock = some g1 ∨ g1 = w4.heap.size) (hB : Below w.heap.size w wr) :
    SSOwn w6 w.heap.size FR rv out ∧ InstsOwn w6 w.heap.size (g1 :: (FC' ++ f)) (.slice (some ⟨g1, 0, none⟩) (cur.length + 1) cap1) (cur ++ [x]) ∧ (FR ++ g1 :: (FC' ++ f)).Nodup ∧ Below w.heap.size w w6 := by
  have hs := g.size
  have hw := hB.size
  have hfl := ArgsOwn.lt hA
  have hn := List.nodup_append.1 hnd
  have key := row_step (base := w.heap.size) (R := fun W => InstOwn W w.heap.size) (fun W W' row f x c hg hr h => h.move hg hr) (w := w) (w4 := w4) (w5 := w6) (v := cv) (F := FC) (f := f) (x := x) (Nat.le_refl _)
    (hE.move fun f1 x1 c1 _ h2 => h2.move (row := none) (gbb g) (fun b _ => by simp)) hFC (fun b hb => by have := hFl b hb; omega) hn.2.1 ⟨va, rfl, args_base hA hw⟩ rfl (fun b hb => by have := hfl b hb; omega) hfn (fun b hb hF => by have := hfl b hb; have := hFl b hF; omega) own6 gg6 hat (hB.trans (g.mono hw))
  have hv : ∀ b ∈ FR, some b ≠ cv.ownBlock := fun b hb e => hn.2.2 b hb b (by rw [hFC, ← e]; simp) rfl
  refine ⟨(hS.later g).move gg6 hv, key.1, ?_, key.2.2⟩
  refine List.nodup_append.2 ⟨hn.1, key.2.1, fun a ha b hb e => ?_⟩
  have hal := SSOwn.lt hS a ha
  rcases List.mem_cons.1 hb with hb | hb
  · rcases hat with h | h
    · exact hv a ha (by rw [e, hb]; exact h.symm)
    · omega
  · rcases List.mem_append.1 hb with hb | hb
    · exact hn.2.2 a ha b (by rw [hFC]; exact List.mem_append_right _ hb) e
    · have := hfl b hb; omega
/-- The rung that has been made goes behind the others. -/
theorem rung_end {w w4 w6 : World} {rv cv : Value} {out : List (List InstT)} {cur : List InstT} {FR FR' FC : List Nat} {cs : List Value} {g1 cap1 : Nat}
    (hE : Each (RungOwn w4 w.heap.size) 1 FR' out cs) (hFR : FR = rv.ownBlock.toList ++ FR') (hFl : ∀ b ∈ FR, w.heap.size ≤ b ∧ b < w4.heap.size) (hC : InstsOwn w4 w.heap.size FC cv cur) (hnd : (FR ++ FC).Nodup)
    (own6 : w6.ownsRow w.heap.size 23 1 (.slice (some ⟨g1, 0, none⟩) (out.length + 1) cap1) (out.length + 1) (cs ++ [cv])) (gg6 : w4.grownBy w6 rv.ownBlock) (hat : rv.ownBlock = some g1 ∨ g1 = w4.heap.size) (hB : Below w.heap.size w w4) :
    SSOwn w6 w.heap.size (g1 :: (FR' ++ FC)) (.slice (some ⟨g1, 0, none⟩) (out.length + 1) cap1) (out ++ [cur]) ∧ (g1 :: (FR' ++ FC)).Nodup ∧ Below w.heap.size w w6 := by
  have hn := List.nodup_append.1 hnd
  exact row_step (base := w.heap.size) (R := fun W => RungOwn W w.heap.size) (fun W W' row f x c hg hr h => h.move hg hr) (w := w) (w4 := w4) (w5 := w6) (v := rv) (F := FR) (f := FC) (x := cur) (c := [cv]) (Nat.le_refl _)
    hE hFR hFl hn.1 ⟨cv, rfl, hC⟩ rfl (InstsOwn.lt hC) hn.2.1 (fun b hb hF => hn.2.2 b hF b hb rfl) own6 gg6 hat hB
theorem chk_zero : ∀ (xs : List InstT) (n : Nat) (r : Rn), (chk xs n r).1 = 0 → chk xs n r = (0, 0)
  | [], n, r, h => by
    rw [chk] at h ⊢
    split
    · rfl
    · next hb => rw [if_neg hb] at h; simp at h
  | x :: xs, n, r, h => by
    rw [chk] at h ⊢
    split
    · next h0 => rw [if_pos h0] at h; exact chk_zero xs _ _ h
    · next h0 => rw [if_neg h0] at h; exact absurd h h0
theorem check_zero {xs : List InstT} (h : (checkT xs).1 = 0) : checkT xs = (0, 0) := by
  unfold checkT at h ⊢
  split
  · next hk => rw [if_pos hk] at h; simp at h
  · next hk => rw [if_neg hk] at h; exact chk_zero _ _ _ h
theorem below_undrew' {W w' : World} (g : Below W.drew.heap.size W.drew w') : Below W.heap.size W w' := ⟨g.os, g.tape, g.output, g.size, g.block⟩
theorem three_free {X : World} {B : Nat} {T : TypeId} {a b c : Value} {w3 : World} {W : World} (g3 : Below W.heap.size W w3) (kA : X.heap[B]? = some (.cells #[a, b, c] T (0, 0))) (hX : W.heap = X.heap := by rfl) :
    w3.cell? ⟨B, 0, none⟩ = some a ∧ w3.cell? ⟨B, 1, none⟩ = some b ∧ w3.cell? ⟨B, 2, none⟩ = some c ∧ w3.frozen? ⟨B, 0, none⟩ = false ∧ w3.frozen? ⟨B, 1, none⟩ = false ∧ w3.frozen? ⟨B, 2, none⟩ = false := by
  have k3 : w3.heap[B]? = some (.cells #[a, b, c] T (0, 0)) := by
    have h0 : W.heap[B]? = some (.cells #[a, b, c] T (0, 0)) := by rw [hX]; exact kA
    exact (g3.block _ (Array.getElem?_eq_some_iff.1 h0).1).trans h0
  exact ⟨(cell_of_row _ _ _ _ _ _ k3).trans rfl, (cell_of_row _ _ _ _ _ _ k3).trans rfl, (cell_of_row _ _ _ _ _ _ k3).trans rfl, by simp [World.frozen?, k3], by simp [World.frozen?, k3], by simp [World.frozen?, k3]⟩

end Go.Proofs.YtbncgacnikmomaaDoor
/- A list in new memory: the specification's l12Copy. -/
namespace Go.Proofs.YtbncgacnikmomaaDoor
open Go.RowKit
set_option linter.unusedVariables false

section
variable {P : Program} {w : World}
/-- An append whose run is known, at a step of a region that draws. -/
theorem step_app_run {ops : Array Oper} {o : Oper} {a : Act} {K : Act → World → Prop} {Q : Exit → Act → World → Prop} {E : Prop} (hgd : o.guard = none) (s x : Operand) (t : TypeId)
    (ho : o.op = .call { callee := .builtin .append, args := #[s, x], argTypes := #[t, t] }) (v y : Value) (hs : a.eval s = v) (hx : a.eval x = y) (v' : Value) (w' : World)
    (hr : ∀ ty, (Builtin.append_ #[t, t] ty #[v, y]).run P w = .ok v' w') (h : K (a.put o.dst v') w') :
    if Region.wanted o (yielded ops a.tmps) = true then Oper.wp P o a w K Q else E := by
  have hw : Region.wanted o (yielded ops a.tmps) = true := by simp [Region.wanted, hgd]
  rw [if_pos hw]
  unfold Oper.wp execOp
  simp only [ho, resolve, invoke, builtin, Sem.run_bind, Sem.run_pure, Result.andThen_ok, List.map_toArray, List.map_cons, List.map_nil, hs, hx, hr]
  exact h
end

theorem avs_at {w : World} {lo : Nat} {a : Option Addr} {n cp : Nat} {xs : List ArgT} (h : RowIs w lo 3 ArgIs (.slice a n cp) xs) (h0 : 0 < xs.length) : ∃ b o, a = some ⟨b, o, none⟩ ∧ b < w.heap.size ∧ ∀ (j : Nat) (u : Value), (avs xs)[j]? = some u → w.cell? ⟨b, o + j, none⟩ = some u := by
  obtain ⟨a', cp', e, _, hx⟩ := h
  cases e
  obtain ⟨b, o, cs, rfl, _, _, hr, hR⟩ := hx 0 _ (List.getElem?_eq_getElem h0)
  have hR : cs = _ := hR
  refine ⟨b, o, rfl, World.block_lt_of_cell? _ _ (hr 0 _ (by rw [hR]; rfl)), ?_⟩
  have key : ∀ (ys : List ArgT) (k : Nat), (∀ i y, ys[i]? = some y → w.rangeAt b (o + (k + i) * 3) [.int .i64 y.1, .int .i64 y.2.1, .int .i64 y.2.2]) → ∀ (j : Nat) (u : Value), (avs ys)[j]? = some u → w.cell? ⟨b, o + k * 3 + j, none⟩ = some u := by
    intro ys
    induction ys with
    | nil => intro k _ j u hu; simp [avs] at hu
    | cons y ys ih =>
      intro k hk j u hu
      have hav : avs (y :: ys) = [.int .i64 y.1, .int .i64 y.2.1, .int .i64 y.2.2] ++ avs ys := rfl
      rw [hav] at hu
      by_cases hj : j < 3
      · rw [List.getElem?_append_left (by simpa using hj)] at hu
        have := hk 0 y rfl j u hu
        simpa using this
      · rw [List.getElem?_append_right (by simp; omega)] at hu
        have := ih (k + 1) (fun i y' hy => by have := hk (i + 1) y' hy; rwa [show k + (i + 1) = k + 1 + i by omega] at this) (j - 3) u (by simpa using hu)
        rwa [show o + (k + 1) * 3 + (j - 3) = o + k * 3 + j by omega] at this
  intro j u hu
  have := key xs 0 (fun i y hy => by
    obtain ⟨b', o', cs', e, _, _, hr', hR'⟩ := hx i y hy
    simp only [Option.some.injEq, Addr.mk.injEq] at e
    obtain ⟨rfl, rfl, _⟩ := e
    have hR' : cs' = _ := hR'
    rw [hR'] at hr'
    simpa using hr') j u hu
  simpa using this

/-- The operands behind an empty row of one's own. -/
theorem app_args (W : World) (base lo : Nat) (ua : Option Addr) (ul uc : Nat) (xs : List ArgT) (hul : ul = xs.length) (hbig : ul ≤ 1048576) (hb : base ≤ W.heap.size) (hv : ArgsIs W lo (.slice ua ul uc) xs) :
    ∃ (g cap : Nat) (w' : World), (∀ ty, (Builtin.append_ #[35, 35] ty #[.slice (some ⟨W.heap.size, 0, none⟩) 0 0, .slice ua ul uc]).run Tryd.prog (W.alloc (.cells #[] 74)) = .ok (.slice (some ⟨g, 0, none⟩) ul cap) w') ∧ w'.ownsRow base 74 3 (.slice (some ⟨g, 0, none⟩) ul cap) ul (avs xs) ∧ (W.alloc (.cells #[] 74)).grownBy w' (some W.heap.size) ∧ W.heap.size ≤ g := by
  have hinfo : (Tryd.prog.info? 74).map (fun i => (i.zero, i.size, i.bytes)) = some (some (.agg #[.int .i64 0, .int .i64 0, .int .i64 0]), 3, 24) := by kernel_rfl
  obtain ⟨ti, hi, hzz⟩ := Option.map_eq_some_iff.1 hinfo
  simp only [Prod.mk.injEq] at hzz
  obtain ⟨hz0, hz1, hz2⟩ := hzz
  have own0 : (W.alloc (.cells #[] 74)).ownsRow base 74 3 (.slice (some ⟨W.heap.size, 0, none⟩) 0 0) 0 [] := World.ownsRow_made (base := base) (e := 74) (size := 3) W #[] 0 hb (by unfold maxLen; omega) rfl
  by_cases h0 : 0 < xs.length
  · obtain ⟨b, o, rfl, hbl, hc⟩ := avs_at hv h0
    have hav := avs_len xs
    have hrun := fun ty => run_append_lies (P := Tryd.prog) (W.alloc (.cells #[] 74)) 35 ty base 74 ti (.agg #[.int .i64 0, .int .i64 0, .int .i64 0]) 3 24 Tryd.underlying35 hi hz0 hz1 hz2 rfl (by decide) (.slice (some ⟨W.heap.size, 0, none⟩) 0 0) 0 [] own0 ⟨b, o, none⟩ ul uc (avs xs) (by rw [hav, hul]) (fun j u hu => by
      rw [show (⟨b, o, none⟩ : Addr).add j = ⟨b, o + j, none⟩ from Addr.add_mid b o j]
      exact (Keeps.of_below ((Below.refl _ _).alloc (Nat.le_refl _) _) 0) _ _ _ (Nat.zero_le _) (hc j u hu)) (avs_one xs) (by omega) (by unfold maxLen; omega) (by omega) (by simp; omega) _ rfl
    obtain ⟨g, cap, w', hr, own, gg, hat, hlt⟩ := hrun 35
    refine ⟨g, cap, w', fun ty => ?_, by simpa using own, gg, ?_⟩
    · have : (Builtin.append_ #[35, 35] ty #[.slice (some ⟨W.heap.size, 0, none⟩) 0 0, .slice (some ⟨b, o, none⟩) ul uc]).run Tryd.prog (W.alloc (.cells #[] 74)) = (Builtin.append_ #[35, 35] 35 #[.slice (some ⟨W.heap.size, 0, none⟩) 0 0, .slice (some ⟨b, o, none⟩) ul uc]).run Tryd.prog (W.alloc (.cells #[] 74)) := by simp only [Builtin.append_]
      rw [this, hr]
      simp
    · rcases hat with h | h
      · simp [Value.ownBlock] at h; omega
      · simp at h; omega
  · have hx0 : xs = [] := List.length_eq_zero_iff.1 (by omega)
    subst hx0
    have hul0 : ul = 0 := by simpa using hul
    subst hul0
    refine ⟨W.heap.size, 0, W.alloc (.cells #[] 74), fun ty => ?_, by simpa [avs] using own0, ⟨rfl, rfl, rfl, Nat.le_refl _, fun _ _ _ => rfl⟩, Nat.le_refl _⟩
    cases ua with
    | none => simp [Builtin.append_, run_underlying Tryd.underlying35, sizeOf, typeInfo, hi, Builtin.lenOf, Builtin.firstCells, storeCells]
    | some ad => simp [Builtin.append_, run_underlying Tryd.underlying35, sizeOf, typeInfo, hi, Builtin.lenOf, Builtin.firstCells, loadCells, loadCellsFrom, storeCells]

end Go.Proofs.YtbncgacnikmomaaDoor
