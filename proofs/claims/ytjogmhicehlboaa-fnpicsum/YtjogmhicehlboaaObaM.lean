/- Bytes that are drawn: appended, copied, cut, written over. -/
import Derived.Test.YtjogmhicehlboaaDaM
import Derived.Test.YtjogmhicehlboaaCfM
import Derived.Test.YtjogmhicehlboaaQkkM
import Derived.Test.YtjogmhicehlboaaPccM
import Derived.Deep.RegionLaw
import Derived.Deep.DeepCutAuto
namespace Go.Proofs.Ytjogmhicehlboaa.Rr
open Go.RowKit Go.Shelf
set_option linter.unusedVariables false

theorem owl_at {W : World} {H g n cap : Nat} {l : List Nat} (h : OwL W H (.slice (some ⟨g, 0, none⟩) n cap) l) : ∀ j x, l[j]? = some x → W.cell? ⟨g, j, none⟩ = some (.int .u8 (x : Nat)) := fun j x hx => by
  have hc : (cl l)[j]? = some (.int .u8 (x : Nat)) := by unfold cl; rw [List.getElem?_map, hx]; rfl
  have := World.ownsRow.cells h (g := g) rfl j _ hc
  rwa [show (⟨g, 0, none⟩ : Addr).add j = ⟨g, 0 + j, none⟩ from Addr.add_mid g 0 j, Nat.zero_add] at this
theorem owl_len {W : World} {H n cap : Nat} {a : Option Addr} {l : List Nat} (h : OwL W H (.slice a n cap) l) : n = l.length := by
  rcases h.2 with ⟨hv, h0⟩ | ⟨g, cp, cur, hv, _⟩
  · simp only [Value.slice.injEq] at hv; omega
  · simp only [Value.slice.injEq] at hv; exact hv.2.1
theorem owl_base {W : World} {H H' : Nat} {v : Value} {l : List Nat} (h : OwL W H v l) (hH : H' ≤ H) : OwL W H' v l := World.ownsRow.mono h hH
theorem owl_made (W : World) (H : Nat) (hH : H ≤ W.heap.size) : OwL (W.alloc (.cells #[] 5)) H (.slice (some ⟨W.heap.size, 0, none⟩) 0 0) [] := own_made W H hH [] (by simp)
/-- Bytes, none or some, behind a row of one's own. -/
theorem app_bytes (W : World) (H g0 n cap m c : Nat) (l k : List Nat) (sa : Option Addr) (own0 : OwL W H (.slice (some ⟨g0, 0, none⟩) n cap) l) (hm : m = k.length) (hbig : n + m ≤ 1048576) (hH : H ≤ W.heap.size)
    (hsrc : 0 < m → ∃ b o, sa = some ⟨b, o, none⟩ ∧ ∀ j x, k[j]? = some x → W.cell? ⟨b, o + j, none⟩ = some (.int .u8 (x : Nat))) :
    ∃ (g cap' : Nat) (w' : World), (∀ ty, (Builtin.append_ #[22, 22] ty #[.slice (some ⟨g0, 0, none⟩) n cap, .slice sa m c]).run Try.prog W = .ok (.slice (some ⟨g, 0, none⟩) (n + m) cap') w') ∧ OwL w' H (.slice (some ⟨g, 0, none⟩) (n + m) cap') (l ++ k) ∧ W.grownBy w' (some g0) ∧ (g = g0 ∨ g = W.heap.size) := by
  obtain ⟨ti, hi, hz0, hz1, hz2⟩ := info_parts infoU8
  have hn := owl_len own0
  by_cases h0 : 0 < m
  · obtain ⟨b, o, rfl, hc⟩ := hsrc h0
    have hrun := fun ty => run_append_lies (P := Try.prog) W 22 ty H 5 ti (.int .u8 0) 1 1 Try.underlying22 hi hz0 hz1 hz2 rfl (by decide) (.slice (some ⟨g0, 0, none⟩) n cap) n (cl l) (by unfold OwL at own0; rw [← hn] at own0; exact own0) ⟨b, o, none⟩ m c (cl k) (by rw [cl_len, hm]; omega) (fun j u hu => by
      rw [show (⟨b, o, none⟩ : Addr).add j = ⟨b, o + j, none⟩ from Addr.add_mid b o j]
      obtain ⟨x, hx, rfl⟩ := cl_get hu
      exact hc j x hx) (cl_one k) h0 (by unfold maxLen; omega) (by omega) hH _ rfl
    obtain ⟨g, cap', w', hr, own, gg, hat, hlt⟩ := hrun 22
    refine ⟨g, cap', w', fun ty => ?_, ?_, gg, ?_⟩
    · have : (Builtin.append_ #[22, 22] ty #[.slice (some ⟨g0, 0, none⟩) n cap, .slice (some ⟨b, o, none⟩) m c]).run Try.prog W = (Builtin.append_ #[22, 22] 22 #[.slice (some ⟨g0, 0, none⟩) n cap, .slice (some ⟨b, o, none⟩) m c]).run Try.prog W := by simp only [Builtin.append_]
      rw [this, hr]
    · unfold OwL
      rw [cl_app, List.length_append, ← hn, ← hm]
      exact own
    · rcases hat with h | h
      · exact .inl (by simpa [Value.ownBlock] using h.symm)
      · exact .inr h
  · have hm0 : m = 0 := by omega
    subst hm0
    have hx : k = [] := List.length_eq_zero_iff.1 hm.symm
    subst hx
    have hcap : n ≤ cap := by
      rcases own0.2 with ⟨h', _⟩ | ⟨g', cap', cur, h', hb, hg, hnc, _⟩
      · simp at h'
      · simp only [Value.slice.injEq, Option.some.injEq, Addr.mk.injEq, and_true] at h'
        omega
    refine ⟨g0, cap, W, fun ty => ?_, by simpa using own0, gb_refl _ _, .inl rfl⟩
    cases sa with
    | none => simp [Builtin.append_, run_underlying Try.underlying22, sizeOf, typeInfo, hi, Builtin.lenOf, Builtin.firstCells, storeCells, hcap]
    | some ad => simp [Builtin.append_, run_underlying Try.underlying22, sizeOf, typeInfo, hi, Builtin.lenOf, Builtin.firstCells, loadCells, loadCellsFrom, storeCells, hcap]
/-- The beginning of a row of bytes. -/
theorem owl_take {W : World} {H g n cap : Nat} {l : List Nat} (h : OwL W H (.slice (some ⟨g, 0, none⟩) n cap) l) (k : Nat) (hk : k ≤ n) : OwL W H (.slice (some ⟨g, 0, none⟩) k cap) (l.take k) := by
  have hn := owl_len h
  have hl : (l.take k).length = k := by rw [List.length_take]; omega
  unfold OwL
  rw [hl]
  obtain ⟨h1, h2⟩ := h
  refine ⟨by rw [cl_len, hl]; omega, ?_⟩
  rcases h2 with ⟨h', _⟩ | ⟨g', cap', cur, h', hb, hg, hnc, e5, e6, e7⟩
  · cases h'
  · simp only [Value.slice.injEq, Option.some.injEq, Addr.mk.injEq, and_true] at h'
    obtain ⟨rfl, rfl, rfl⟩ := h'
    refine .inr ⟨g, cap, cur, rfl, hb, hg, by omega, e5, e6, ?_⟩
    have e8 : cl (l.take k) = (cl l).take k := by simp [cl, List.map_take]
    rw [e8, ← e7, List.take_take]
    congr 1
    omega
/-- A byte written over. -/
theorem owl_put {W : World} {H g n cap : Nat} {l : List Nat} (h : OwL W H (.slice (some ⟨g, 0, none⟩) n cap) l) (k x : Nat) (hk : k < n) : OwL (W.setCell ⟨g, k, none⟩ (.int .u8 (x : Nat))) H (.slice (some ⟨g, 0, none⟩) n cap) (l.set k x) := by
  have hn := owl_len h
  unfold OwL
  rw [List.length_set]
  obtain ⟨h1, h2⟩ := h
  refine ⟨by rw [cl_len, List.length_set]; omega, ?_⟩
  rcases h2 with ⟨h', _⟩ | ⟨g', cap', cur, h', hb, hg, hnc, e5, e6, e7⟩
  · cases h'
  · simp only [Value.slice.injEq, Option.some.injEq, Addr.mk.injEq, and_true] at h'
    obtain ⟨rfl, rfl, rfl⟩ := h'
    refine .inr ⟨g, cap, cur.setIfInBounds k (.int .u8 (x : Nat)), by rw [hn], hb, row_put hg k _, hnc, e5, by simpa using e6, ?_⟩
    have e8 : cl (l.set k x) = (cl l).set k (.int .u8 (x : Nat)) := by simp [cl, List.map_set]
    rw [e8, ← e7, Array.toList_setIfInBounds, List.take_set]
theorem all_set {l : List Nat} (h : ∀ b ∈ l, b < 256) (k x : Nat) (hx : x < 256) : ∀ b ∈ l.set k x, b < 256 := fun b hb => by
  rcases List.mem_or_eq_of_mem_set hb with hb | rfl
  · exact h b hb
  · exact hx
end Go.Proofs.Ytjogmhicehlboaa.Rr
/- Bytes whose length and sum are put right. -/
namespace Go.Proofs.Ytjogmhicehlboaa.Rr
open Go.RowKit Go.Shelf
set_option linter.unusedVariables false
set_option linter.unusedSimpArgs false

/-- What putting right leaves. -/
def MendR (H n : Nat) (w : World) (e : Ending) (w' : World) : Prop :=
  ∃ (g c : Nat) (l : List Nat), e = .returned (.slice (some ⟨g, 0, none⟩) n c) ∧ OwL w' H (.slice (some ⟨g, 0, none⟩) n c) l ∧ (∀ b ∈ l, b < 256) ∧ Below w.heap.size w w'
end Go.Proofs.Ytjogmhicehlboaa.Rr
/- An image is spoilt. -/
namespace Go.Proofs.Ytjogmhicehlboaa.Rr
open Go.RowKit Go.Shelf
set_option linter.unusedVariables false
set_option linter.unusedSimpArgs false

/-- Where the copy stands. -/
def BS (w : World) (B R : Nat) (W : World) (q g n cp : Nat) (l : List Nat) : Prop :=
  (R < w.heap.size ∧ B ≤ w.heap.size) ∧ Reader B W R q ∧ w.grownBy W (some R) ∧ OwL W w.heap.size (.slice (some ⟨g, 0, none⟩) n cp) l ∧ (∀ b ∈ l, b < 256)
theorem BS.lt {w W : World} {B R q g n cp : Nat} {l : List Nat} (h : BS w B R W q g n cp l) : w.heap.size ≤ g ∧ g < W.heap.size := h.2.2.2.1.own g rfl
theorem BS.move {w W W' : World} {B R q q' g n cp : Nat} {l : List Nat} (h : BS w B R W q g n cp l) (k : W.grownBy W' (some R)) (hr : Reader B W' R q') : BS w B R W' q' g n cp l := by
  have hl := h.lt
  obtain ⟨h1, h2, h3, h4, h5⟩ := h
  exact ⟨h1, hr, gb_pick h3 k, World.ownsRow.kept h4 k (.inr (by simp [Value.ownBlock]; omega)), h5⟩
theorem BS.later {w W W' : World} {B R q g n cp : Nat} {l : List Nat} (h : BS w B R W q g n cp l) (k : Below W.heap.size W W') : BS w B R W' q g n cp l := h.move (gb_below' (gb_refl _ _) k) (h.2.1.later k)
theorem BS.drew {w W : World} {B R q g n cp : Nat} {l : List Nat} (h : BS w B R W q g n cp l) : BS w B R W.drew q g n cp l := h.move (gb_drew (gb_refl _ _)) h.2.1.drew
theorem BS.at {w W : World} {B R q g n cp : Nat} {l : List Nat} (h : BS w B R W q g n cp l) (k : Nat) (hk : k < n) : ∃ x : Nat, x < 256 ∧ l[k]? = some x ∧ W.cell? ⟨g, k, none⟩ = some (.int .u8 (x : Nat)) ∧ W.frozen? ⟨g, k, none⟩ = false := by
  obtain ⟨h1, h2, h3, h4, h5⟩ := h
  have hn := owl_len h4
  obtain ⟨x, hx⟩ : ∃ x, l[k]? = some x := ⟨_, List.getElem?_eq_getElem (by omega)⟩
  exact ⟨x, h5 x (List.mem_of_getElem? hx), hx, owl_at h4 k x hx, by have h6 := h4; unfold OwL at h6; rw [← hn] at h6; exact World.ownsRow.frozenAt h6 k⟩
theorem BS.put {w W : World} {B R q g n cp : Nat} {l : List Nat} (h : BS w B R W q g n cp l) (k x : Nat) (hk : k < n) (hx : x < 256) : BS w B R (W.setCell ⟨g, k, none⟩ (.int .u8 (x : Nat))) q g n cp (l.set k x) := by
  have hl := h.lt
  obtain ⟨h1, h2, h3, h4, h5⟩ := h
  exact ⟨h1, h2.set _ _ _ (by omega), gb_put h3 hl.1, owl_put h4 k x hk, all_set h5 k x hx⟩
theorem BS.take {w W : World} {B R q g n cp : Nat} {l : List Nat} (h : BS w B R W q g n cp l) (k : Nat) (hk : k ≤ n) : BS w B R W q g k cp (l.take k) := by
  obtain ⟨h1, h2, h3, h4, h5⟩ := h
  exact ⟨h1, h2, h3, owl_take h4 k hk, fun b hb => h5 b (List.mem_of_mem_take hb)⟩
theorem BS.cap {w W : World} {B R q g n cp : Nat} {l : List Nat} (h : BS w B R W q g n cp l) : n ≤ cp := owL_cap h.2.2.2.1
theorem BS.len {w W : World} {B R q g n cp : Nat} {l : List Nat} (h : BS w B R W q g n cp l) : n = l.length := owl_len h.2.2.2.1
/-- Bytes behind it. -/
theorem BS.app {w W : World} {B R q g n cp : Nat} {l : List Nat} (h : BS w B R W q g n cp l) (m c : Nat) (k : List Nat) (sa : Option Addr) (hm : m = k.length) (hk : ∀ b ∈ k, b < 256) (hbig : n + m ≤ 1048576)
    (hsrc : 0 < m → ∃ b o, sa = some ⟨b, o, none⟩ ∧ ∀ j x, k[j]? = some x → W.cell? ⟨b, o + j, none⟩ = some (.int .u8 (x : Nat))) :
    ∃ (g1 cap1 : Nat) (W1 : World), (∀ ty, (Builtin.append_ #[22, 22] ty #[.slice (some ⟨g, 0, none⟩) n cp, .slice sa m c]).run Try.prog W = .ok (.slice (some ⟨g1, 0, none⟩) (n + m) cap1) W1) ∧ BS w B R W1 q g1 (n + m) cap1 (l ++ k) ∧ W.grownBy W1 (some g) ∧ (g1 = g ∨ g1 = W.heap.size) := by
  have hl := h.lt
  obtain ⟨h1, h2, h3, h4, h5⟩ := h
  obtain ⟨g1, cap1, W1, hr, ho, hg, hat⟩ := app_bytes W w.heap.size g n cp m c l k sa h4 hm hbig h3.size hsrc
  refine ⟨g1, cap1, W1, hr, ⟨h1, h2.kept hg (fun j hj => by cases hj; omega), gb_then h3 hg (fun j hj => .inl (by cases hj; exact hl.1)), ho, fun b hb => ?_⟩, hg, hat⟩
  rcases List.mem_append.1 hb with hb | hb
  · exact h5 b hb
  · exact hk b hb
/-- A byte cut out. -/
theorem BS.cut {w W : World} {B R q g n cp : Nat} {l : List Nat} (h : BS w B R W q g n cp l) (k : Nat) (hk : k < n) (hn : n ≤ 100000) (c : Nat) (sa : Option Addr) (hsa : 0 < n - (k + 1) → sa = some ⟨g, k + 1, none⟩) :
    ∃ (g1 cap1 : Nat) (W1 : World) (l' : List Nat), (∀ ty, (Builtin.append_ #[22, 22] ty #[.slice (some ⟨g, 0, none⟩) k cp, .slice sa (n - (k + 1)) c]).run Try.prog W = .ok (.slice (some ⟨g1, 0, none⟩) (k + (n - (k + 1))) cap1) W1) ∧ BS w B R W1 q g1 (k + (n - (k + 1))) cap1 l' := by
  have hT := h.take k (by omega)
  have hnl := h.len
  obtain ⟨g1, cap1, W1, hr, hb, _, _⟩ := hT.app (n - (k + 1)) c (l.drop (k + 1)) sa (by rw [List.length_drop]; omega) (fun b hb => h.2.2.2.2 b (List.mem_of_mem_drop hb)) (by omega) (fun h0 => ⟨g, k + 1, hsa h0, fun j x hx => by
    rw [List.getElem?_drop] at hx
    exact owl_at h.2.2.2.1 _ _ hx⟩)
  exact ⟨g1, cap1, W1, _, hr, hb⟩
/-- The beginning copied. -/
theorem BS.split {w W : World} {B R q g n cp : Nat} {l : List Nat} (h : BS w B R W q g n cp l) (k : Nat) (hk : k ≤ n) (hn : n ≤ 100000) :
    ∃ (g1 cap1 : Nat) (W1 : World), (∀ ty, (Builtin.append_ #[22, 22] ty #[.slice (some ⟨W.heap.size, 0, none⟩) 0 0, .slice (some ⟨g, 0, none⟩) k cp]).run Try.prog (W.alloc (.cells #[] 5)) = .ok (.slice (some ⟨g1, 0, none⟩) k cap1) W1) ∧ BS w B R W1 q g1 k cap1 (l.take k) ∧ Below W.heap.size W W1 ∧ W.heap.size ≤ g1 := by
  have hl := h.lt
  have hnl := h.len
  have hW := h.2.2.1.size
  have gA : Below W.heap.size W (W.alloc (.cells #[] 5)) := (Below.refl _ _).alloc (Nat.le_refl _) _
  have h0 : BS w B R (W.alloc (.cells #[] 5)) q W.heap.size 0 0 [] := ⟨h.1, h.2.1.later gA, gb_below' h.2.2.1 gA, owl_made W w.heap.size hW, fun b hb => by cases hb⟩
  obtain ⟨g1, cap1, W1, hr, hb, hg, hat⟩ := h0.app k cp (l.take k) (some ⟨g, 0, none⟩) (by rw [List.length_take]; omega) (fun b hb => h.2.2.2.2 b (List.mem_of_mem_take hb)) (by omega) (fun _ => ⟨g, 0, rfl, fun j x hx => by
    have hj : j < k := by have := (List.getElem?_eq_some_iff.1 hx).1; rw [List.length_take] at this; omega
    rw [List.getElem?_take_of_lt hj] at hx
    rw [Nat.zero_add, gA.cell (p := ⟨g, j, none⟩) hl.2]
    exact owl_at h.2.2.2.1 _ _ hx⟩)
  simp only [Nat.zero_add, List.nil_append] at hr hb
  refine ⟨g1, cap1, W1, hr, hb, gA.grown hg (by simp) (fun j hj => by cases hj; omega), ?_⟩
  rcases hat with e | e
  · omega
  · rw [e]; simp
/-- One more byte and what follows. -/
theorem BS.joined {w W W4 W5 : World} {B R q q5 g n cp k g4 cap4 : Nat} {l l4 : List Nat} (h : BS w B R W q g n cp l) (hk : k < n) (hn : n ≤ 100000) (h4 : BS w B R W4 q g4 k cap4 l4) (hB4 : Below W.heap.size W W4) (hg4 : W.heap.size ≤ g4) (g5 : W4.grownBy W5 (some R)) (hR5 : Reader B W5 R q5) (x : Nat) (hx : x < 256) :
    ∃ (g6 cap6 : Nat) (W6 : World), (∀ ty, (Builtin.append_ #[22, 22] ty #[.slice (some ⟨g4, 0, none⟩) k cap4, .slice (some ⟨W5.heap.size, 0, none⟩) 1 1]).run Try.prog (W5.alloc (.cells #[.int .u8 (x : Nat)] 5)) = .ok (.slice (some ⟨g6, 0, none⟩) (k + 1) cap6) W6) ∧
      ∃ (g7 cap7 : Nat) (W7 : World) (l7 : List Nat), (∀ ty, (Builtin.append_ #[22, 22] ty #[.slice (some ⟨g6, 0, none⟩) (k + 1) cap6, .slice (some ⟨g, k, none⟩) (n - k) (cp - k)]).run Try.prog W6 = .ok (.slice (some ⟨g7, 0, none⟩) (k + 1 + (n - k)) cap7) W7) ∧ BS w B R W7 q5 g7 (k + 1 + (n - k)) cap7 l7 := by
  have hl := h.lt
  have hnl := h.len
  have hRW := h.1
  have hWs := h.2.2.1.size
  have h5 := (h4.move g5 hR5).later ((Below.refl _ _).alloc (Nat.le_refl _) (.cells #[.int .u8 (x : Nat)] 5))
  have c5 : (W5.alloc (.cells #[.int .u8 (x : Nat)] 5)).cell? ⟨W5.heap.size, 0, none⟩ = some (.int .u8 (x : Nat)) := by simp
  obtain ⟨g6, cap6, W6, hr6, h6, gg6, hat6⟩ := h5.app 1 1 [x] (some ⟨W5.heap.size, 0, none⟩) rfl (fun b hb => by simp at hb; omega) (by omega) (fun _ => ⟨W5.heap.size, 0, rfl, fun j y hy => by
    have hj : j = 0 := by have := (List.getElem?_eq_some_iff.1 hy).1; simp at this; omega
    subst hj
    simp at hy
    subst hy
    exact c5⟩)
  have G6 : W.grownBy W6 (some R) := gb_then (gb_alloc (gb_pick (gb_below' (gb_refl _ _) hB4) g5) _) gg6 (fun j hj => .inl (by cases hj; exact hg4))
  obtain ⟨g7, cap7, W7, hr7, h7, _, _⟩ := h6.app (n - k) (cp - k) (l.drop k) (some ⟨g, k, none⟩) (by rw [List.length_drop]; omega) (fun b hb => h.2.2.2.2 b (List.mem_of_mem_drop hb)) (by omega) (fun _ => ⟨g, k, rfl, fun j y hy => by
    rw [List.getElem?_drop] at hy
    rw [G6.cell_far (a := ⟨g, k + j, none⟩) hl.2 (by simp; omega)]
    exact owl_at h.2.2.2.1 _ _ hy⟩)
  exact ⟨g6, cap6, W6, hr6, g7, cap7, W7, _, hr7, h7⟩
end Go.Proofs.Ytjogmhicehlboaa.Rr
/- An image is spoilt: the walk. -/
namespace Go.Proofs.Ytjogmhicehlboaa.Rr
open Go.RowKit Go.Shelf
set_option linter.unusedVariables false
set_option linter.unusedSimpArgs false

/-- What spoiling leaves. -/
def SpR (w : World) (B R p d N : Nat) (e : Ending) (w' : World) : Prop :=
  ∃ (g n c q : Nat) (l : List Nat), e = .returned (.slice (some ⟨g, 0, none⟩) n c) ∧ n ≤ N ∧ q ≤ p + d ∧ BS w B R w' q g n c l
theorem i64_nat {x : Int} (h0 : -9223372036854775808 ≤ x) (h1 : x ≤ 9223372036854775807) : IntKind.i64.wrap x = x := by rw [IntKind.wrap_i64]; omega
theorem u8_nat (r : Nat) (h : r < 256) : IntKind.u8.wrap (r : Int) = (r : Int) := by rw [IntKind.wrap_u8']; omega
end Go.Proofs.Ytjogmhicehlboaa.Rr
