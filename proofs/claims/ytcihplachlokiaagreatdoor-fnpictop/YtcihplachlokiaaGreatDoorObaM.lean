/- Bytes that are drawn: appended, copied, cut, written over. -/
import Derived.Test.YtcihplachlokiaaGreatDoorRM
import Derived.Test.YtcihplachlokiaaGreatDoorCfM
import Derived.Test.YtcihplachlokiaaGreatDoorQkkM
import Derived.Test.YtcihplachlokiaaGreatDoorPccM
import Derived.Deep.RegionLaw
import Derived.Deep.DeepCutAuto
namespace Go.Proofs.YtcihplachlokiaaGreatDoor.Rr
open Go.RowKit Go.Shelf
set_option linter.unusedVariables false

theorem owl_at {W : World} {H g n cap : Nat} {l : List Nat} (h : OwL W H (.slice (some ⟨g, 0, none⟩) n cap) l) : ∀ j x, l[j]? = some x → W.cell? ⟨g, j, none⟩ = some (.int .u8 (x : Nat)) := fun j x hx => by
  have hc : (cl l)[j]? = some (.int .u8 (x : Nat)) := by unfold cl; rw [List.getElem?_map, hx]; rfl
  have := World.ownsRow.cells h (g := g) rfl j _ hc
  rwa [show (⟨g, 0, none⟩ : Addr).add j = ⟨g, 0 + j, none⟩ from Addr.add_mid g 0 j, Nat.zero_add] at this
theorem owl_len {W : World} {H n cap : Nat} {a : Option Addr} {l : List Nat} (h : OwL W H (.slice a n cap) l) : n = l.length := by
  rcases h.2 with ⟨hv, h0⟩ | ⟨g, cp, cur, hv, _⟩
  · simp only [Value.slice.injEq] at hv; omega
  · simp only [Value.slice.injEq] at hv; exact hv.2.1
theorem owl_base {W : World} {H H' : Nat} {v : Value} {l : List Nat} (h : OwL W H v l) (hH : H' ≤ H) : OwL W H' v l := World.ownsRow.mono h hH
theorem owl_made (W : World) (H : Nat) (hH : H ≤ W.heap.size) : OwL (W.alloc (.cells #[] 5)) H (.slice (some ⟨W.heap.size, 0, none⟩) 0 0) [] := own_made W H hH [] (by simp)
/-- Bytes, none or some, behind a row of one's own. -/
theorem app_bytes (W : World) (H g0 n cap m c : Nat) (l k : List Nat) (sa : Option Addr) (own0 : OwL W H (.slice (some ⟨g0, 0, none⟩) n cap) l) (hm : m = k.length) (hbig : n + m ≤ 1048576) (hH : H ≤ W.heap.size)
    (hsrc : 0 < m → ∃ b o, sa = some ⟨b, o, none⟩ ∧ ∀ j x, k[j]? = some x → W.cell? ⟨b, o + j, none⟩ = some (.int .u8 (x : Nat))) :
    ∃ (g cap' : Nat) (w' : World), (∀ ty, (Builtin.append_ #[22, 22] ty #[.slice (some ⟨g0, 0, none⟩) n cap, .slice sa m c]).run Tryz.prog W = .ok (.slice (some ⟨g, 0, none⟩) (n + m) cap') w') ∧ OwL w' H (.slice (some ⟨g, 0, none⟩) (n + m) cap') (l ++ k) ∧ W.grownBy w' (some g0) ∧ (g = g0 ∨ g = W.heap.size) := by
  obtain ⟨ti, hi, hz0, hz1, hz2⟩ := info_parts infoU8
  have hn := owl_len own0
  by_cases h0 : 0 < m
  · obtain ⟨b, o, rfl, hc⟩ := hsrc h0
    have hrun := fun ty => run_append_lies (P := Tryz.prog) W 22 ty H 5 ti (.int .u8 0) 1 1 Tryz.underlying22 hi hz0 hz1 hz2 rfl (by decide) (.slice (some ⟨g0, 0, none⟩) n cap) n (cl l) (by unfold OwL at own0; rw [← hn] at own0; exact own0) ⟨b, o, none⟩ m c (cl k) (by rw [cl_len, hm]; omega) (fun j u hu => by
      rw [show (⟨b, o, none⟩ : Addr).add j = ⟨b, o + j, none⟩ from Addr.add_mid b o j]
      obtain ⟨x, hx, rfl⟩ := cl_get hu
      exact hc j x hx) (cl_one k) h0 (by unfold maxLen; omega) (by omega) hH _ rfl
    obtain ⟨g, cap', w', hr, own, gg, hat, hlt⟩ := hrun 22
    refine ⟨g, cap', w', fun ty => ?_, ?_, gg, ?_⟩
    · have : (Builtin.append_ #[22, 22] ty #[.slice (some ⟨g0, 0, none⟩) n cap, .slice (some ⟨b, o, none⟩) m c]).run Tryz.prog W = (Builtin.append_ #[22, 22] 22 #[.slice (some ⟨g0, 0, none⟩) n cap, .slice (some ⟨b, o, none⟩) m c]).run Tryz.prog W := by simp only [Builtin.append_]
      rw [this, hr]
    · unfold OwL
      rw [cl_app, List.length_append, ← hn, ← hm]
      exact own
    · rcases hat with h | h
      · exact .inl (by simpa [Value.ownBlock] using h.symm)
      · exact .inr h
  · have hm0 : m = 0 := by omega
    subst hm0
    have hx : k = [] := List.length_eq_zero_iff.1 hm.symm
    subst hx
    have hcap : n ≤ cap := by
      rcases own0.2 with ⟨h', _⟩ | ⟨g', cap', cur, h', hb, hg, hnc, _⟩
      · simp at h'
      · simp only [Value.slice.injEq, Option.some.injEq, Addr.mk.injEq, and_true] at h'
        omega
    refine ⟨g0, cap, W, fun ty => ?_, by simpa using own0, gb_refl _ _, .inl rfl⟩
    cases sa with
    | none => simp [Builtin.append_, run_underlying Tryz.underlying22, sizeOf, typeInfo, hi, Builtin.lenOf, Builtin.firstCells, storeCells, hcap]
    | some ad => simp [Builtin.append_, run_underlying Tryz.underlying22, sizeOf, typeInfo, hi, Builtin.lenOf, Builtin.firstCells, loadCells, loadCellsFrom, storeCells, hcap]
/-- The beginning of a row of bytes. -/
theorem owl_take {W : World} {H g n cap : Nat} {l : List Nat} (h : OwL W H (.slice (some ⟨g, 0, none⟩) n cap) l) (k : Nat) (hk : k ≤ n) : OwL W H (.slice (some ⟨g, 0, none⟩) k cap) (l.take k) := by
  have hn := owl_len h
  have hl : (l.take k).length = k := by rw [List.length_take]; omega
  unfold OwL
  rw [hl]
  obtain ⟨h1, h2⟩ := h
  refine ⟨by rw [cl_len, hl]; omega, ?_⟩
  rcases h2 with ⟨h', _⟩ | ⟨g', cap', cur, h', hb, hg, hnc, e5, e6, e7⟩
  · cases h'
  · simp only [Value.slice.injEq, Option.some.injEq, Addr.mk.injEq, and_true] at h'
    obtain ⟨rfl, rfl, rfl⟩ := h'
    refine .inr ⟨g, cap, cur, rfl, hb, hg, by omega, e5, e6, ?_⟩
    have e8 : cl (l.take k) = (cl l).take k := by simp [cl, List.map_take]
    rw [e8, ← e7, List.take_take]
    congr 1
    omega
/-- A byte written over. -/
theorem owl_put {W : World} {H g n cap : Nat} {l : List Nat} (h : OwL W H (.slice (some ⟨g, 0, none⟩) n cap) l) (k x : Nat) (hk : k < n) : OwL (W.setCell ⟨g, k, none⟩ (.int .u8 (x : Nat))) H (.slice (some ⟨g, 0, none⟩) n cap) (l.set k x) := by
  have hn := owl_len h
  unfold OwL
  rw [List.length_set]
  obtain ⟨h1, h2⟩ := h
  refine ⟨by rw [cl_len, List.length_set]; omega, ?_⟩
  rcases h2 with ⟨h', _⟩ | ⟨g', cap', cur, h', hb, hg, hnc, e5, e6, e7⟩
  · cases h'
  · simp only [Value.slice.injEq, Option.some.injEq, Addr.mk.injEq, and_true] at h'
    obtain ⟨rfl, rfl, rfl⟩ := h'
    refine .inr ⟨g, cap, cur.setIfInBounds k (.int .u8 (x : Nat)), by rw [hn], hb, row_put hg k _, hnc, e5, by simpa using e6, ?_⟩
    have e8 : cl (l.set k x) = (cl l).set k (.int .u8 (x : Nat)) := by simp [cl, List.map_set]
    rw [e8, ← e7, Array.toList_setIfInBounds, List.take_set]
theorem all_set {l : List Nat} (h : ∀ b ∈ l, b < 256) (k x : Nat) (hx : x < 256) : ∀ b ∈ l.set k x, b < 256 := fun b hb => by
  rcases List.mem_or_eq_of_mem_set hb with hb | rfl
  · exact h b hb
  · exact hx
end Go.Proofs.YtcihplachlokiaaGreatDoor.Rr
/- Bytes whose length and sum are put right. -/
namespace Go.Proofs.YtcihplachlokiaaGreatDoor.Rr
open Go.RowKit Go.Shelf
set_option linter.unusedVariables false
set_option linter.unusedSimpArgs false

/-- What putting right leaves. -/
def MendR (H n : Nat) (w : World) (e : Ending) (w' : World) : Prop :=
  ∃ (g c : Nat) (l : List Nat), e = .returned (.slice (some ⟨g, 0, none⟩) n c) ∧ OwL w' H (.slice (some ⟨g, 0, none⟩) n c) l ∧ (∀ b ∈ l, b < 256) ∧ Below w.heap.size w w'
set_option maxRecDepth 10000 in
set_option maxHeartbeats 8000000 in
theorem mend_r (H g n cp : Nat) (l : List Nat) (w : World) (hH : H ≤ w.heap.size) (hn : n ≤ 30000) (h : OwL w H (.slice (some ⟨g, 0, none⟩) n cp) l) (hl : ∀ b ∈ l, b < 256) :
    Calls Tryz.prog 51 #[.slice (some ⟨g, 0, none⟩) n cp] w fun e w' => MendR H n w e w' := by
  have hnl := owl_len h
  have hcp := owL_cap h
  by_cases h8 : n < 8
  · have i8 : (n : Int) < 8 := by omega
    have HF : Hid (MendR H n w (.returned (.slice (some ⟨g, 0, none⟩) n cp)) w) := ⟨g, cp, l, rfl, h, hl, Below.refl _ _⟩
    clear h hl
    go_enter Tryz.func51, Tryz.ntmps51
    go_wp2
    go_ret
    exact HF.out
  have i8 : ¬ (n : Int) < 8 := by omega
  obtain ⟨i0, hi, hz0, hz1, hz2⟩ := info_parts infoU8
  obtain ⟨q, hq⟩ : ∃ q, n = q + 2 := ⟨n - 2, by omega⟩
  obtain ⟨m, hm⟩ : ∃ m, q = m + 4 := ⟨q - 4, by omega⟩
  obtain ⟨mid, Hmid⟩ : ∃ x : List Nat, Hid (x = (l.drop 4).take m) := ⟨_, rfl⟩
  have hmid : mid.length = m := by rw [Hmid.out, List.length_take, List.length_drop]; omega
  have Hlt : Hid (∀ b ∈ mid, b < 256) := (fun b hb => hl b (by rw [Hmid.out] at hb; exact List.mem_of_mem_drop (List.mem_of_mem_take hb)) : ∀ b ∈ mid, b < 256)
  have hg : g < w.heap.size := (h.own g rfl).2
  have HSrc : Hid (∀ W, Below w.heap.size w W → ∀ j u, (cl mid)[j]? = some u → W.cell? ((⟨g, 4, none⟩ : Addr).add j) = some u) := fun W b j u hu => by
    obtain ⟨x, hx, rfl⟩ := cl_get hu
    have hj : j < mid.length := (List.getElem?_eq_some_iff.1 hx).1
    rw [show (⟨g, 4, none⟩ : Addr).add j = ⟨g, 4 + j, none⟩ from Addr.add_mid g 4 j]
    rw [b.cell (p := ⟨g, 4 + j, none⟩) hg]
    refine owl_at h (4 + j) x ?_
    rw [Hmid.out, List.getElem?_take_of_lt (by omega), List.getElem?_drop] at hx
    exact hx
  have HN : Hid (∀ (v : Int) W, (-1099511627776 ≤ v ∧ v ≤ 1099511627776) → Calls Tryz.prog 21 #[.int .i64 v, .int .i64 2] W fun e w' => ∃ g, e = .returned (.slice (some ⟨g, 0, none⟩) 2 2) ∧ Nw w' g (nbL v 2) ∧ Below W.heap.size W w') := fun v W h => (num_s v 2 W h (by omega)).mono fun e w' ⟨h1, h2, h3⟩ => ⟨_, h1, num_nw h2, h3⟩
  have H0 : Hid (OwL (w.alloc (.cells #[.int .u8 83, .int .u8 116] 5)) w.heap.size (.slice (some ⟨w.heap.size, 0, none⟩) 2 2) [83, 116] ∧ Below w.heap.size w (w.alloc (.cells #[.int .u8 83, .int .u8 116] 5)) ∧ 2 = ([83, 116] : List Nat).length) := ⟨own_made w w.heap.size (Nat.le_refl _) [83, 116] (by simp), (Below.refl _ _).alloc (Nat.le_refl _) _, rfl⟩
  have j1 : (n : Int) - 2 = (q : Int) := by omega
  have j2 : (4 : Int) ≤ (q : Int) := by omega
  have j3 : (q : Int) ≤ (cp : Int) := by omega
  have j4 : q - 4 = m := by omega
  have j5 : ¬ cp = 4 := by omega
  have j6 : (q : Int) ≤ (n : Int) := by omega
  have hm2 : 2 ≤ m := by omega
  have HB : Hid (n = q + 2 ∧ q = m + 4) := ⟨hq, hm⟩
  have hmb : m ≤ 30000 ∧ n ≤ 30000 := by omega
  have HHw : Hid (H ≤ w.heap.size) := hH
  clear h hl hnl hq hm hH
  go_enter Tryz.func51, Tryz.ntmps51
  go_wp2_with fail
  generalize hV0 : (w.alloc (.cells #[.int .u8 83, .int .u8 116] 5)) = V0 at H0 ⊢
  clear hV0
  refine (HN.out (n : Int) _ (by omega)).mono ?_
  rintro e n1 ⟨gn1, rfl, nw1, gb1⟩
  have H0' : Hid (OwL n1 w.heap.size (.slice (some ⟨w.heap.size, 0, none⟩) 2 2) [83, 116] ∧ Below w.heap.size w n1 ∧ 2 = ([83, 116] : List Nat).length) := ⟨H0.out.1.later gb1, H0.out.2.1.trans (gb1.mono H0.out.2.1.size), rfl⟩
  have N1 : Hid (Nw n1 gn1 (nbL (n : Int) 2)) := nw1
  clear gb1 nw1 H0
  go_wp2_with (at_builtin; refine wpList_append_lies _ rfl _ _ 22 rfl w.heap.size 5 i0 (.int .u8 0) 1 1 Tryz.underlying22 hi hz0 hz1 hz2 rfl (by decide) _ 2 (cl ([83, 116])) rfl (by have := H0'.out.1; unfold OwL at this; rw [← H0'.out.2.2] at this; exact this) ⟨gn1, 0, none⟩ 2 2 (cl (nbL (n : Int) 2)) rfl ?c6 N1.out ?c2 ?c1 ?c3 ?c4 ?c5 _ rfl ?_)
  case c6 => rw [cl_len, nbL_len] <;> omega
  case c2 => exact cl_one _
  case c1 => omega
  case c3 => unfold maxLen; omega
  case c4 => omega
  case c5 => exact H0'.out.2.1.size
  intro g1 cap1 v1 hown' hgrow hat hlt'
  obtain ⟨l1, Hl1⟩ : ∃ x : List Nat, Hid (x = [83, 116] ++ nbL (n : Int) 2) := ⟨[83, 116] ++ nbL (n : Int) 2, by show _ = _; rfl⟩
  have H1 : Hid (OwL v1 w.heap.size (.slice (some ⟨g1, 0, none⟩) (2 + 2) cap1) l1 ∧ Below w.heap.size w v1 ∧ 2 + 2 = l1.length) := by
    have e1 : 2 + 2 = ([83, 116] ++ nbL (n : Int) 2).length := by rw [List.length_append, ← H0'.out.2.2, nbL_len]
    have h1 : OwL v1 w.heap.size (.slice (some ⟨g1, 0, none⟩) ([83, 116] ++ nbL (n : Int) 2).length cap1) ([83, 116] ++ nbL (n : Int) 2) := own_app (by rw [← H0'.out.2.2, nbL_len]; exact hown')
    rw [← e1, ← Hl1.out] at h1
    exact ⟨h1, H0'.out.2.1.grown hgrow H0'.out.2.1.size (fun j hj => by have := (H0'.out.1.own j hj).1; omega), by rw [Hl1.out]; exact e1⟩
  clear hown' hgrow hat hlt' H0'
  clear N1
  have S1 : Hid (∀ j u, (cl mid)[j]? = some u → v1.cell? ((⟨g, 4, none⟩ : Addr).add j) = some u) := HSrc.out v1 H1.out.2.1
  go_wp2_with (at_builtin; refine wpList_append_lies _ rfl _ _ 22 rfl w.heap.size 5 i0 (.int .u8 0) 1 1 Tryz.underlying22 hi hz0 hz1 hz2 rfl (by decide) _ (2 + 2) (cl (l1)) rfl (by have := H1.out.1; unfold OwL at this; rw [← H1.out.2.2] at this; exact this) ⟨g, 4, none⟩ m (cp - 4) (cl (mid)) rfl ?c6 S1.out ?c2 ?c1 ?c3 ?c4 ?c5 _ rfl ?_)
  case c6 => rw [cl_len, hmid] <;> omega
  case c2 => exact cl_one _
  case c1 => omega
  case c3 => unfold maxLen; omega
  case c4 => omega
  case c5 => exact H1.out.2.1.size
  intro g2 cap2 v2 hown' hgrow hat hlt'
  obtain ⟨l2, Hl2⟩ : ∃ x : List Nat, Hid (x = l1 ++ mid) := ⟨l1 ++ mid, by show _ = _; rfl⟩
  have H2 : Hid (OwL v2 w.heap.size (.slice (some ⟨g2, 0, none⟩) ((2 + 2) + m) cap2) l2 ∧ Below w.heap.size w v2 ∧ (2 + 2) + m = l2.length) := by
    have e1 : (2 + 2) + m = (l1 ++ mid).length := by rw [List.length_append, ← H1.out.2.2, hmid]
    have h1 : OwL v2 w.heap.size (.slice (some ⟨g2, 0, none⟩) (l1 ++ mid).length cap2) (l1 ++ mid) := own_app (by rw [← H1.out.2.2, hmid]; exact hown')
    rw [← e1, ← Hl2.out] at h1
    exact ⟨h1, H1.out.2.1.grown hgrow H1.out.2.1.size (fun j hj => by have := (H1.out.1.own j hj).1; omega), by rw [Hl2.out]; exact e1⟩
  clear hown' hgrow hat hlt' H1
  clear S1
  have HL2 : Hid (∀ b ∈ l2, b < 256) := (fun b hb => by
    rw [Hl2.out, Hl1.out] at hb
    rcases List.mem_append.1 hb with hb | hb
    · rcases List.mem_append.1 hb with hb | hb
      · simp at hb; omega
      · exact nbL_lt _ _ _ hb
    · exact Hlt.out b hb : ∀ b ∈ l2, b < 256)
  have hlt3 : ∀ j, atL l2 j < 256 := atL_lt HL2.out
  have HPs : Hid (Calls Tryz.prog 22 #[.slice (some ⟨g2, 0, none⟩) (2 + 2 + m) cap2] v2 fun e w' => e = .returned (.int .u16 (smL l2 : Nat)) ∧ v2 = w') := by
    have h1 := H2.out.1
    rw [H2.out.2.2] at h1
    have h2 := psum_s (some ⟨g2, 0, none⟩) l2.length cap2 (atL l2) hlt3 v2 (by have := H2.out.2.2; omega) (owL_bt h1)
    rw [← H2.out.2.2] at h2
    exact (by unfold smL; rw [← H2.out.2.2]; exact h2 : Calls Tryz.prog 22 #[.slice (some ⟨g2, 0, none⟩) (2 + 2 + m) cap2] v2 fun e w' => e = .returned (.int .u16 (smL l2 : Nat)) ∧ v2 = w')
  obtain ⟨SM, hSM, HSM⟩ : ∃ SM, SM < 65536 ∧ Hid (SM = smL l2) := ⟨_, sumF_lt _ hlt3 _, rfl⟩
  rw [← HSM.out] at HPs
  clear hlt3
  go_wp2_with fail
  refine HPs.out.mono ?_
  rintro e wz ⟨rfl, rfl⟩
  clear HPs
  go_wp2_with fail
  refine (HN.out (SM : Int) _ (by omega)).mono ?_
  rintro e n4 ⟨gn4, rfl, nw4, gb4⟩
  have H2' : Hid (OwL n4 w.heap.size (.slice (some ⟨g2, 0, none⟩) (2 + 2 + m) cap2) l2 ∧ Below w.heap.size w n4 ∧ 2 + 2 + m = l2.length) := ⟨H2.out.1.later gb4, H2.out.2.1.trans (gb4.mono H2.out.2.1.size), H2.out.2.2⟩
  have N4 : Hid (Nw n4 gn4 (nbL (SM : Int) 2)) := nw4
  clear gb4 nw4 H2
  go_wp2_with (at_builtin; refine wpList_append_lies _ rfl _ _ 22 rfl w.heap.size 5 i0 (.int .u8 0) 1 1 Tryz.underlying22 hi hz0 hz1 hz2 rfl (by decide) _ (2 + 2 + m) (cl (l2)) rfl (by have := H2'.out.1; unfold OwL at this; rw [← H2'.out.2.2] at this; exact this) ⟨gn4, 0, none⟩ 2 2 (cl (nbL (SM : Int) 2)) rfl ?c6 N4.out ?c2 ?c1 ?c3 ?c4 ?c5 _ rfl ?_)
  case c6 => rw [cl_len, nbL_len] <;> omega
  case c2 => exact cl_one _
  case c1 => omega
  case c3 => unfold maxLen; omega
  case c4 => omega
  case c5 => exact H2'.out.2.1.size
  intro g5 cap5 v5 hown' hgrow hat hlt'
  obtain ⟨l5, Hl5⟩ : ∃ x : List Nat, Hid (x = l2 ++ nbL (SM : Int) 2) := ⟨l2 ++ nbL (SM : Int) 2, by show _ = _; rfl⟩
  have H5 : Hid (OwL v5 w.heap.size (.slice (some ⟨g5, 0, none⟩) ((2 + 2 + m) + 2) cap5) l5 ∧ Below w.heap.size w v5 ∧ (2 + 2 + m) + 2 = l5.length) := by
    have e1 : (2 + 2 + m) + 2 = (l2 ++ nbL (SM : Int) 2).length := by rw [List.length_append, ← H2'.out.2.2, nbL_len]
    have h1 : OwL v5 w.heap.size (.slice (some ⟨g5, 0, none⟩) (l2 ++ nbL (SM : Int) 2).length cap5) (l2 ++ nbL (SM : Int) 2) := own_app (by rw [← H2'.out.2.2, nbL_len]; exact hown')
    rw [← e1, ← Hl5.out] at h1
    exact ⟨h1, H2'.out.2.1.grown hgrow H2'.out.2.1.size (fun j hj => by have := (H2'.out.1.own j hj).1; omega), by rw [Hl5.out]; exact e1⟩
  clear hown' hgrow hat hlt' H2'
  have HF : Hid (MendR H n w (.returned (.slice (some ⟨g5, 0, none⟩) (2 + 2 + m + 2) cap5)) v5) := by
    have e : 2 + 2 + m + 2 = n := by have := HB.out; omega
    have h1 := H5.out.1
    rw [e] at h1 ⊢
    refine ⟨g5, cap5, l5, rfl, owl_base h1 HHw.out, fun b hb => ?_, H5.out.2.1⟩
    rw [Hl5.out] at hb
    rcases List.mem_append.1 hb with hb | hb
    · exact HL2.out b hb
    · exact nbL_lt _ _ _ hb
  clear H5
  go_wp2
  go_ret
  exact HF.out
end Go.Proofs.YtcihplachlokiaaGreatDoor.Rr
/- An image is spoilt. -/
namespace Go.Proofs.YtcihplachlokiaaGreatDoor.Rr
open Go.RowKit Go.Shelf
set_option linter.unusedVariables false
set_option linter.unusedSimpArgs false

/-- Where the copy stands. -/
def BS (w : World) (B R : Nat) (W : World) (q g n cp : Nat) (l : List Nat) : Prop :=
  (R < w.heap.size ∧ B ≤ w.heap.size) ∧ Reader B W R q ∧ w.grownBy W (some R) ∧ OwL W w.heap.size (.slice (some ⟨g, 0, none⟩) n cp) l ∧ (∀ b ∈ l, b < 256)
theorem BS.lt {w W : World} {B R q g n cp : Nat} {l : List Nat} (h : BS w B R W q g n cp l) : w.heap.size ≤ g ∧ g < W.heap.size := h.2.2.2.1.own g rfl
theorem BS.move {w W W' : World} {B R q q' g n cp : Nat} {l : List Nat} (h : BS w B R W q g n cp l) (k : W.grownBy W' (some R)) (hr : Reader B W' R q') : BS w B R W' q' g n cp l := by
  have hl := h.lt
  obtain ⟨h1, h2, h3, h4, h5⟩ := h
  exact ⟨h1, hr, gb_pick h3 k, World.ownsRow.kept h4 k (.inr (by simp [Value.ownBlock]; omega)), h5⟩
theorem BS.later {w W W' : World} {B R q g n cp : Nat} {l : List Nat} (h : BS w B R W q g n cp l) (k : Below W.heap.size W W') : BS w B R W' q g n cp l := h.move (gb_below' (gb_refl _ _) k) (h.2.1.later k)
theorem BS.drew {w W : World} {B R q g n cp : Nat} {l : List Nat} (h : BS w B R W q g n cp l) : BS w B R W.drew q g n cp l := h.move (gb_drew (gb_refl _ _)) h.2.1.drew
theorem BS.at {w W : World} {B R q g n cp : Nat} {l : List Nat} (h : BS w B R W q g n cp l) (k : Nat) (hk : k < n) : ∃ x : Nat, x < 256 ∧ l[k]? = some x ∧ W.cell? ⟨g, k, none⟩ = some (.int .u8 (x : Nat)) ∧ W.frozen? ⟨g, k, none⟩ = false := by
  obtain ⟨h1, h2, h3, h4, h5⟩ := h
  have hn := owl_len h4
  obtain ⟨x, hx⟩ : ∃ x, l[k]? = some x := ⟨_, List.getElem?_eq_getElem (by omega)⟩
  exact ⟨x, h5 x (List.mem_of_getElem? hx), hx, owl_at h4 k x hx, by have h6 := h4; unfold OwL at h6; rw [← hn] at h6; exact World.ownsRow.frozenAt h6 k⟩
theorem BS.put {w W : World} {B R q g n cp : Nat} {l : List Nat} (h : BS w B R W q g n cp l) (k x : Nat) (hk : k < n) (hx : x < 256) : BS w B R (W.setCell ⟨g, k, none⟩ (.int .u8 (x : Nat))) q g n cp (l.set k x) := by
  have hl := h.lt
  obtain ⟨h1, h2, h3, h4, h5⟩ := h
  exact ⟨h1, h2.set _ _ _ (by omega), gb_put h3 hl.1, owl_put h4 k x hk, all_set h5 k x hx⟩
theorem BS.take {w W : World} {B R q g n cp : Nat} {l : List Nat} (h : BS w B R W q g n cp l) (k : Nat) (hk : k ≤ n) : BS w B R W q g k cp (l.take k) := by
  obtain ⟨h1, h2, h3, h4, h5⟩ := h
  exact ⟨h1, h2, h3, owl_take h4 k hk, fun b hb => h5 b (List.mem_of_mem_take hb)⟩
theorem BS.cap {w W : World} {B R q g n cp : Nat} {l : List Nat} (h : BS w B R W q g n cp l) : n ≤ cp := owL_cap h.2.2.2.1
theorem BS.len {w W : World} {B R q g n cp : Nat} {l : List Nat} (h : BS w B R W q g n cp l) : n = l.length := owl_len h.2.2.2.1
/-- Bytes behind it. -/
theorem BS.app {w W : World} {B R q g n cp : Nat} {l : List Nat} (h : BS w B R W q g n cp l) (m c : Nat) (k : List Nat) (sa : Option Addr) (hm : m = k.length) (hk : ∀ b ∈ k, b < 256) (hbig : n + m ≤ 1048576)
    (hsrc : 0 < m → ∃ b o, sa = some ⟨b, o, none⟩ ∧ ∀ j x, k[j]? = some x → W.cell? ⟨b, o + j, none⟩ = some (.int .u8 (x : Nat))) :
    ∃ (g1 cap1 : Nat) (W1 : World), (∀ ty, (Builtin.append_ #[22, 22] ty #[.slice (some ⟨g, 0, none⟩) n cp, .slice sa m c]).run Tryz.prog W = .ok (.slice (some ⟨g1, 0, none⟩) (n + m) cap1) W1) ∧ BS w B R W1 q g1 (n + m) cap1 (l ++ k) ∧ W.grownBy W1 (some g) ∧ (g1 = g ∨ g1 = W.heap.size) := by
  have hl := h.lt
  obtain ⟨h1, h2, h3, h4, h5⟩ := h
  obtain ⟨g1, cap1, W1, hr, ho, hg, hat⟩ := app_bytes W w.heap.size g n cp m c l k sa h4 hm hbig h3.size hsrc
  refine ⟨g1, cap1, W1, hr, ⟨h1, h2.kept hg (fun j hj => by cases hj; omega), gb_then h3 hg (fun j hj => .inl (by cases hj; exact hl.1)), ho, fun b hb => ?_⟩, hg, hat⟩
  rcases List.mem_append.1 hb with hb | hb
  · exact h5 b hb
  · exact hk b hb
/-- A byte cut out. -/
theorem BS.cut {w W : World} {B R q g n cp : Nat} {l : List Nat} (h : BS w B R W q g n cp l) (k : Nat) (hk : k < n) (hn : n ≤ 100000) (c : Nat) (sa : Option Addr) (hsa : 0 < n - (k + 1) → sa = some ⟨g, k + 1, none⟩) :
    ∃ (g1 cap1 : Nat) (W1 : World) (l' : List Nat), (∀ ty, (Builtin.append_ #[22, 22] ty #[.slice (some ⟨g, 0, none⟩) k cp, .slice sa (n - (k + 1)) c]).run Tryz.prog W = .ok (.slice (some ⟨g1, 0, none⟩) (k + (n - (k + 1))) cap1) W1) ∧ BS w B R W1 q g1 (k + (n - (k + 1))) cap1 l' := by
  have hT := h.take k (by omega)
  have hnl := h.len
  obtain ⟨g1, cap1, W1, hr, hb, _, _⟩ := hT.app (n - (k + 1)) c (l.drop (k + 1)) sa (by rw [List.length_drop]; omega) (fun b hb => h.2.2.2.2 b (List.mem_of_mem_drop hb)) (by omega) (fun h0 => ⟨g, k + 1, hsa h0, fun j x hx => by
    rw [List.getElem?_drop] at hx
    exact owl_at h.2.2.2.1 _ _ hx⟩)
  exact ⟨g1, cap1, W1, _, hr, hb⟩
/-- The beginning copied. -/
theorem BS.split {w W : World} {B R q g n cp : Nat} {l : List Nat} (h : BS w B R W q g n cp l) (k : Nat) (hk : k ≤ n) (hn : n ≤ 100000) :
    ∃ (g1 cap1 : Nat) (W1 : World), (∀ ty, (Builtin.append_ #[22, 22] ty #[.slice (some ⟨W.heap.size, 0, none⟩) 0 0, .slice (some ⟨g, 0, none⟩) k cp]).run Tryz.prog (W.alloc (.cells #[] 5)) = .ok (.slice (some ⟨g1, 0, none⟩) k cap1) W1) ∧ BS w B R W1 q g1 k cap1 (l.take k) ∧ Below W.heap.size W W1 ∧ W.heap.size ≤ g1 := by
  have hl := h.lt
  have hnl := h.len
  have hW := h.2.2.1.size
  have gA : Below W.heap.size W (W.alloc (.cells #[] 5)) := (Below.refl _ _).alloc (Nat.le_refl _) _
  have h0 : BS w B R (W.alloc (.cells #[] 5)) q W.heap.size 0 0 [] := ⟨h.1, h.2.1.later gA, gb_below' h.2.2.1 gA, owl_made W w.heap.size hW, fun b hb => by cases hb⟩
  obtain ⟨g1, cap1, W1, hr, hb, hg, hat⟩ := h0.app k cp (l.take k) (some ⟨g, 0, none⟩) (by rw [List.length_take]; omega) (fun b hb => h.2.2.2.2 b (List.mem_of_mem_take hb)) (by omega) (fun _ => ⟨g, 0, rfl, fun j x hx => by
    have hj : j < k := by have := (List.getElem?_eq_some_iff.1 hx).1; rw [List.length_take] at this; omega
    rw [List.getElem?_take_of_lt hj] at hx
    rw [Nat.zero_add, gA.cell (p := ⟨g, j, none⟩) hl.2]
    exact owl_at h.2.2.2.1 _ _ hx⟩)
  simp only [Nat.zero_add, List.nil_append] at hr hb
  refine ⟨g1, cap1, W1, hr, hb, gA.grown hg (by simp) (fun j hj => by cases hj; omega), ?_⟩
  rcases hat with e | e
  · omega
  · rw [e]; simp
/-- One more byte and what follows. -/
theorem BS.joined {w W W4 W5 : World} {B R q q5 g n cp k g4 cap4 : Nat} {l l4 : List Nat} (h : BS w B R W q g n cp l) (hk : k < n) (hn : n ≤ 100000) (h4 : BS w B R W4 q g4 k cap4 l4) (hB4 : Below W.heap.size W W4) (hg4 : W.heap.size ≤ g4) (g5 : W4.grownBy W5 (some R)) (hR5 : Reader B W5 R q5) (x : Nat) (hx : x < 256) :
    ∃ (g6 cap6 : Nat) (W6 : World), (∀ ty, (Builtin.append_ #[22, 22] ty #[.slice (some ⟨g4, 0, none⟩) k cap4, .slice (some ⟨W5.heap.size, 0, none⟩) 1 1]).run Tryz.prog (W5.alloc (.cells #[.int .u8 (x : Nat)] 5)) = .ok (.slice (some ⟨g6, 0, none⟩) (k + 1) cap6) W6) ∧
      ∃ (g7 cap7 : Nat) (W7 : World) (l7 : List Nat), (∀ ty, (Builtin.append_ #[22, 22] ty #[.slice (some ⟨g6, 0, none⟩) (k + 1) cap6, .slice (some ⟨g, k, none⟩) (n - k) (cp - k)]).run Tryz.prog W6 = .ok (.slice (some ⟨g7, 0, none⟩) (k + 1 + (n - k)) cap7) W7) ∧ BS w B R W7 q5 g7 (k + 1 + (n - k)) cap7 l7 := by
  have hl := h.lt
  have hnl := h.len
  have hRW := h.1
  have hWs := h.2.2.1.size
  have h5 := (h4.move g5 hR5).later ((Below.refl _ _).alloc (Nat.le_refl _) (.cells #[.int .u8 (x : Nat)] 5))
  have c5 : (W5.alloc (.cells #[.int .u8 (x : Nat)] 5)).cell? ⟨W5.heap.size, 0, none⟩ = some (.int .u8 (x : Nat)) := by simp
  obtain ⟨g6, cap6, W6, hr6, h6, gg6, hat6⟩ := h5.app 1 1 [x] (some ⟨W5.heap.size, 0, none⟩) rfl (fun b hb => by simp at hb; omega) (by omega) (fun _ => ⟨W5.heap.size, 0, rfl, fun j y hy => by
    have hj : j = 0 := by have := (List.getElem?_eq_some_iff.1 hy).1; simp at this; omega
    subst hj
    simp at hy
    subst hy
    exact c5⟩)
  have G6 : W.grownBy W6 (some R) := gb_then (gb_alloc (gb_pick (gb_below' (gb_refl _ _) hB4) g5) _) gg6 (fun j hj => .inl (by cases hj; exact hg4))
  obtain ⟨g7, cap7, W7, hr7, h7, _, _⟩ := h6.app (n - k) (cp - k) (l.drop k) (some ⟨g, k, none⟩) (by rw [List.length_drop]; omega) (fun b hb => h.2.2.2.2 b (List.mem_of_mem_drop hb)) (by omega) (fun _ => ⟨g, k, rfl, fun j y hy => by
    rw [List.getElem?_drop] at hy
    rw [G6.cell_far (a := ⟨g, k + j, none⟩) hl.2 (by simp; omega)]
    exact owl_at h.2.2.2.1 _ _ hy⟩)
  exact ⟨g6, cap6, W6, hr6, g7, cap7, W7, _, hr7, h7⟩
end Go.Proofs.YtcihplachlokiaaGreatDoor.Rr
/- An image is spoilt: the walk. -/
namespace Go.Proofs.YtcihplachlokiaaGreatDoor.Rr
open Go.RowKit Go.Shelf
set_option linter.unusedVariables false
set_option linter.unusedSimpArgs false

/-- What spoiling leaves. -/
def SpR (w : World) (B R p d N : Nat) (e : Ending) (w' : World) : Prop :=
  ∃ (g n c q : Nat) (l : List Nat), e = .returned (.slice (some ⟨g, 0, none⟩) n c) ∧ n ≤ N ∧ q ≤ p + d ∧ BS w B R w' q g n c l
theorem i64_nat {x : Int} (h0 : -9223372036854775808 ≤ x) (h1 : x ≤ 9223372036854775807) : IntKind.i64.wrap x = x := by rw [IntKind.wrap_i64]; omega
theorem u8_nat (r : Nat) (h : r < 256) : IntKind.u8.wrap (r : Int) = (r : Int) := by rw [IntKind.wrap_u8']; omega
set_option maxRecDepth 10000 in
set_option maxHeartbeats 8000000 in
theorem bspoil_r (w : World) (B R p H g0 n cp : Nat) (l : List Nat) (h : Reader B w R p) (hp : p < 9500000) (ho : OwL w H (.slice (some ⟨g0, 0, none⟩) n cp) l) (h8 : 8 ≤ n) (hn : n ≤ 20100) (hl : ∀ b ∈ l, b < 256) :
    Calls Tryz.prog 30 #[.pointer (some ⟨R, 0, none⟩), .slice (some ⟨g0, 0, none⟩) n cp] w fun e w' => SpR w B R p 5 20101 e w' := by
  have hRB := h.1
  have hBw := h.2.1
  have hnl := owl_len ho
  have hg0 := (ho.own g0 rfl).2
  obtain ⟨i0, hi, hz0, hz1, hz2⟩ := info_parts infoU8
  have HPk : Hid (∀ (W : World) (q g n c : Nat) (l : List Nat) (N : Int), BS w B R W q g n c l → 1 ≤ N → N ≤ 1000000 → q < 9900000 → Calls Tryz.prog 13 #[.pointer (some ⟨R, 0, none⟩), .int .i64 N] W fun e w' => ∃ r : Nat, (r : Int) < N ∧ e = .returned (.int .i64 r) ∧ BS w B R w' (q + 1) g n c l) :=
    fun W q g n c l N hS h1 h2 h3 => (pick_r B R q N W hS.2.1 h1 (by omega) (by omega)).mono fun e w' ⟨r, r1, e1, hr, g1⟩ => ⟨r, r1, e1, hS.move g1 hr⟩
  have HMd : Hid (∀ (W : World) (q g n c : Nat) (l : List Nat), BS w B R W q g n c l → n ≤ 30000 → Calls Tryz.prog 51 #[.slice (some ⟨g, 0, none⟩) n c] W fun e w' => ∃ (g' c' : Nat) (l' : List Nat), e = .returned (.slice (some ⟨g', 0, none⟩) n c') ∧ BS w B R w' q g' n c' l') :=
    fun W q g n c l hS h1 => (mend_r w.heap.size g n c l W hS.2.2.1.size h1 hS.2.2.2.1 hS.2.2.2.2).mono fun e w' ⟨g', c', l', e1, e2, e3, e4⟩ => ⟨g', c', l', e1, ⟨hS.1, hS.2.1.later e4, gb_below' hS.2.2.1 e4, e2, e3⟩⟩
  have own0 : OwL (w.alloc (.cells #[] 5)) w.heap.size (.slice (some ⟨w.heap.size, 0, none⟩) 0 0) [] := owl_made w w.heap.size (Nat.le_refl _)
  have news0 : ∀ j u, (cl l)[j]? = some u → (w.alloc (.cells #[] 5)).cell? ((⟨g0, 0, none⟩ : Addr).add j) = some u := fun j u hu => by
    obtain ⟨x, hx, rfl⟩ := cl_get hu
    rw [show (⟨g0, 0, none⟩ : Addr).add j = ⟨g0, 0 + j, none⟩ from Addr.add_mid g0 0 j, Nat.zero_add]
    rw [World.cell?_alloc_past _ _ _ (by exact hg0)]
    exact owl_at ho j x hx
  have HL0 : Hid ((∀ b ∈ l, b < 256) ∧ n = l.length) := ⟨hl, hnl⟩
  have hcll : (cl l).length = n * 1 := by rw [cl_len]; omega
  clear hnl
  go_enter Tryz.func30, Tryz.ntmps30
  go_wp2_with (at_builtin; refine wpList_append_lies _ rfl _ _ 22 rfl w.heap.size 5 i0 (.int .u8 0) 1 1 Tryz.underlying22 hi hz0 hz1 hz2 rfl (by decide) _ 0 (cl []) rfl own0 ⟨g0, 0, none⟩ n cp (cl l) rfl hcll news0 (cl_one l) (by omega) ?c3 ?c4 ?c5 _ rfl ?_)
  case c3 => unfold maxLen; omega
  case c4 => omega
  case c5 => simp
  intro g cap1 w1 own1 g1 hat1 hlt1
  have HS1 : Hid (BS w B R w1 p g n cap1 l) := by
    have h1 : OwL w1 w.heap.size (.slice (some ⟨g, 0, none⟩) n cap1) l := by
      have e : cl [] ++ cl l = cl l := rfl
      rw [e] at own1
      unfold OwL
      rw [← HL0.out.2]
      exact own1
    exact ⟨⟨by omega, hBw⟩, (h.alloc _).kept g1 (fun j hj => by simp [Value.ownBlock] at hj; omega), gb_then (gb_alloc (gb_refl w (some R)) _) g1 (fun j hj => .inl (by simp [Value.ownBlock] at hj; omega)), h1, HL0.out.1⟩
  clear own1 g1 hat1 hlt1 news0 own0 HL0 hcll ho h hl hg0
  go_wp2_with fail
  refine (HPk.out w1 p g n cap1 l n HS1.out (by omega) (by omega) (by omega)).mono ?_
  rintro e w2 ⟨k, hk, rfl, hS⟩
  have HS2 : Hid (BS w B R w2 (p + 1) g n cap1 l) := hS
  clear hS HS1
  go_wp2_with fail
  refine (HPk.out w2 (p + 1) g n cap1 l 6 HS2.out (by omega) (by omega) (by omega)).mono ?_
  rintro e w3 ⟨t, ht, rfl, hS⟩
  have HS3 : Hid (BS w B R w3 (p + 1 + 1) g n cap1 l) := hS
  clear hS HS2
  have hkn : k < n := by omega
  have hk0 : (0 : Int) ≤ (k : Int) := by omega
  have hki : (k : Int) < (n : Int) := by omega
  have hcap := HS3.out.cap
  have ht6 : t = 0 ∨ t = 1 ∨ t = 2 ∨ t = 3 ∨ t = 4 ∨ t = 5 := by omega
  rcases ht6 with rfl | rfl | rfl | rfl | rfl | rfl
  · -- one byte, whatever
    go_wp2_with fail
    refine (HPk.out w3 (p + 1 + 1) g n cap1 l 256 HS3.out (by omega) (by omega) (by omega)).mono ?_
    rintro e w4 ⟨r, hr, rfl, hS⟩
    have wr : IntKind.u8.wrap (r : Int) = (r : Int) := u8_nat r (by omega)
    have HS4 : Hid (BS w B R (w4.setCell ⟨g, k, none⟩ (.int .u8 (r : Nat))) (p + 1 + 1 + 1) g n cap1 (l.set k r)) := hS.put k r hkn (by omega)
    obtain ⟨x, hx, _, c0, f0⟩ := hS.at k hkn
    clear hS HS3
    have HF : Hid (SpR w B R p 5 20101 (.returned (.slice (some ⟨g, 0, none⟩) n cap1)) (w4.setCell ⟨g, k, none⟩ (.int .u8 (r : Nat)))) := ⟨g, n, cap1, _, _, rfl, by omega, by omega, HS4.out⟩
    clear HS4
    go_wp2
    go_ret
    exact HF.out
  · -- the beginning alone
    have hkc : (k : Int) ≤ (cap1 : Int) := by omega
    have HF : Hid (SpR w B R p 5 20101 (.returned (.slice (some ⟨g, 0, none⟩) k cap1)) w3) := ⟨g, k, cap1, _, _, rfl, by omega, by omega, HS3.out.take k (by omega)⟩
    clear HS3
    go_wp2
    go_ret
    exact HF.out
  · -- a small byte
    go_wp2_with fail
    refine (HPk.out w3 (p + 1 + 1) g n cap1 l 16 HS3.out (by omega) (by omega) (by omega)).mono ?_
    rintro e w4 ⟨r, hr, rfl, hS⟩
    have wr : IntKind.u8.wrap (r : Int) = (r : Int) := u8_nat r (by omega)
    have HS4 : Hid (BS w B R (w4.setCell ⟨g, k, none⟩ (.int .u8 (r : Nat))) (p + 1 + 1 + 1) g n cap1 (l.set k r)) := hS.put k r hkn (by omega)
    obtain ⟨x, hx, _, c0, f0⟩ := hS.at k hkn
    clear hS HS3
    go_upto_region 18 with fail
    generalize (w4.setCell ⟨g, k, none⟩ (.int .u8 (r : Nat))) = W4 at HS4 ⊢
    clear c0 f0
    go_wp2_with fail
    refine (HMd.out W4 _ g n cap1 _ HS4.out (by omega)).mono ?_
    rintro e w9 ⟨g9, c9, l9, rfl, hS9⟩
    have HF : Hid (SpR w B R p 5 20101 (.returned (.slice (some ⟨g9, 0, none⟩) n c9)) w9) := ⟨g9, n, c9, _, l9, rfl, by omega, by omega, hS9⟩
    clear hS9
    go_wp2
    go_ret
    exact HF.out
  · -- a byte cut out
    obtain ⟨K1, HK1⟩ : ∃ q, Hid (q = k + 1) := ⟨_, rfl⟩
    have hw1 : IntKind.i64.wrap ((k : Int) + 1) = (K1 : Int) := by have := HK1.out; rw [IntKind.wrap_i64]; omega
    have hw3 : IntKind.i64.wrap (K1 : Int) = (K1 : Int) := by have := HK1.out; rw [IntKind.wrap_i64]; omega
    have hw2 : (k : Int) + 1 = (K1 : Int) := by have := HK1.out; omega
    have hK1 : K1 ≤ n := by have := HK1.out; omega
    have hK1i : (K1 : Int) ≤ (n : Int) := by omega
    have hkc : (k : Int) ≤ (cap1 : Int) := by omega
    have hK0 : (0 : Int) ≤ (K1 : Int) := by omega
    by_cases hcp : cap1 = K1
    · have hnK : n = K1 := by have := HK1.out; omega
      have HSf : Hid (∀ W, Below w3.heap.size w3 W → BS w B R W (p + 1 + 1) g k cap1 (l.take k)) := fun W b => (HS3.out.take k (by omega)).later b
      clear HS3
      subst hcp
      subst hnK
      have hkle : k ≤ n := by omega
      go_upto_region 15 with fail
      go_region_law (first | fail)
      all_goals
        go_wp2_with fail
        refine (HMd.out _ _ g k _ _ (HSf.out _ (Below.refl _ _).drew) (by omega)).mono ?_
        rintro e w9 ⟨g9, c9, l9, rfl, hS9⟩
        have HF : Hid (SpR w B R p 5 20101 (.returned (.slice (some ⟨g9, 0, none⟩) k c9)) w9) := ⟨g9, k, c9, _, l9, rfl, by omega, by omega, hS9⟩
        clear hS9
        go_wp2
        go_ret
        exact HF.out
    obtain ⟨g4, cap4, W4, l4, hr4, hS4⟩ := HS3.out.drew.cut k hkn (by omega) (cap1 - (k + 1)) (some ⟨g, k + 1, none⟩) (fun _ => rfl)
    rw [← HK1.out] at hr4 hS4
    have HR4 : Hid (∀ ty, (Builtin.append_ #[22, 22] ty #[.slice (some ⟨g, 0, none⟩) k cap1, .slice (some ⟨g, K1, none⟩) (n - K1) (cap1 - K1)]).run Tryz.prog w3.drew = .ok (.slice (some ⟨g4, 0, none⟩) (k + (n - K1)) cap4) W4) := hr4
    have HS4 : Hid (BS w B R W4 (p + 1 + 1) g4 (k + (n - K1)) cap4 l4) := hS4
    clear hr4 hS4 HS3
    go_upto_region 15 with fail
    go_region_law
      (first
        | (refine step_app_run (by rfl) (.tmp 61) (.tmp 65) 22 (by rfl) (.slice (some ⟨g, 0, none⟩) k cap1) (.slice (some ⟨g, K1, none⟩) (n - K1) (cap1 - K1)) (by simp [Act.eval, Act.put]) (by simp [Act.eval, Act.put]) (.slice (some ⟨g4, 0, none⟩) (k + (n - K1)) cap4) W4 HR4.out ?_)
        | fail)
    all_goals
      go_wp2_with fail
      refine (HMd.out W4 _ g4 (k + (n - K1)) cap4 l4 HS4.out (by omega)).mono ?_
      rintro e w9 ⟨g9, c9, l9, rfl, hS9⟩
      have HF : Hid (SpR w B R p 5 20101 (.returned (.slice (some ⟨g9, 0, none⟩) (k + (n - K1)) c9)) w9) := ⟨g9, (k + (n - K1)), c9, _, l9, rfl, by omega, by omega, hS9⟩
      clear hS9
      go_wp2
      go_ret
      exact HF.out
  · -- a byte put in
    obtain ⟨g4, cap4, W4, hr4, hS4, hB4, hg4⟩ := HS3.out.drew.split k (by omega) (by omega)
    have HR4 : Hid (∀ ty, (Builtin.append_ #[22, 22] ty #[.slice (some ⟨w3.heap.size, 0, none⟩) 0 0, .slice (some ⟨g, 0, none⟩) k cap1]).run Tryz.prog (w3.drew.alloc (.cells #[] 5)) = .ok (.slice (some ⟨g4, 0, none⟩) k cap4) W4) := hr4
    have HRd : Hid (Reader B W4 R (p + 1 + 1)) := hS4.2.1
    have HJ : Hid (∀ (w5 : World) (r : Nat), r < 256 → Reader B w5 R (p + 1 + 1 + 1) → W4.grownBy w5 (some R) →
        ∃ (g6 cap6 : Nat) (W6 : World), (∀ ty, (Builtin.append_ #[22, 22] ty #[.slice (some ⟨g4, 0, none⟩) k cap4, .slice (some ⟨w5.heap.size, 0, none⟩) 1 1]).run Tryz.prog (w5.alloc (.cells #[.int .u8 (r : Nat)] 5)) = .ok (.slice (some ⟨g6, 0, none⟩) (k + 1) cap6) W6) ∧
        ∃ (g7 cap7 : Nat) (W7 : World) (l7 : List Nat), (∀ ty, (Builtin.append_ #[22, 22] ty #[.slice (some ⟨g6, 0, none⟩) (k + 1) cap6, .slice (some ⟨g, k, none⟩) (n - k) (cap1 - k)]).run Tryz.prog W6 = .ok (.slice (some ⟨g7, 0, none⟩) (k + 1 + (n - k)) cap7) W7) ∧ BS w B R W7 (p + 1 + 1 + 1) g7 (k + 1 + (n - k)) cap7 l7) := fun w5 r hr h5 g5 => HS3.out.drew.joined hkn (by omega) hS4 hB4 hg4 g5 h5 r hr
    have hkc : (k : Int) ≤ (cap1 : Int) := by omega
    have hkc2 : (k : Int) ≤ (n : Int) := by omega
    have hkc3 : ¬ cap1 = k := by omega
    clear HS3 hr4 hS4 hB4 hg4
    go_upto_region 17 with fail
    go_region_law
      (first
        | (refine step_app_run (by rfl) (.tmp 69) (.tmp 72) 22 (by rfl) _ _ (by rfl) (by rfl) _ W4 HR4.out ?_)
        | (go_simp; go_at_call 13; refine (pick_r B R (p + 1 + 1) 40 _ HRd.out (by omega) (by omega) (by omega)).mono ?_; rintro e w5 ⟨r, hr, rfl, h5, g5⟩; have wr : IntKind.u8.wrap (r : Int) = (r : Int) := u8_nat r (by omega); obtain ⟨g6, cap6, W6, hr6, g7, cap7, W7, l7, hr7, hS7⟩ := HJ.out w5 r (by omega) h5 g5; have HR6 : Hid (∀ ty, (Builtin.append_ #[22, 22] ty #[.slice (some ⟨g4, 0, none⟩) k cap4, .slice (some ⟨w5.heap.size, 0, none⟩) 1 1]).run Tryz.prog (w5.alloc (.cells #[.int .u8 (r : Nat)] 5)) = .ok (.slice (some ⟨g6, 0, none⟩) (k + 1) cap6) W6) := hr6; have HR7 : Hid (∀ ty, (Builtin.append_ #[22, 22] ty #[.slice (some ⟨g6, 0, none⟩) (k + 1) cap6, .slice (some ⟨g, k, none⟩) (n - k) (cap1 - k)]).run Tryz.prog W6 = .ok (.slice (some ⟨g7, 0, none⟩) (k + 1 + (n - k)) cap7) W7) := hr7; have HS7 : Hid (BS w B R W7 (p + 1 + 1 + 1) g7 (k + 1 + (n - k)) cap7 l7) := hS7; clear hr6 hr7 hS7 h5 g5; dsimp only)
        | (refine step_app_run (by rfl) (.tmp 73) (.tmp 77) 22 (by rfl) _ _ (by rfl) (by rfl) _ W6 HR6.out ?_)
        | (refine step_app_run (by rfl) (.tmp 78) (.tmp 81) 22 (by rfl) _ _ (by rfl) (by rfl) _ W7 HR7.out ?_)
        | fail)
    all_goals
      go_wp2_with fail
      refine (HMd.out W7 _ g7 (k + 1 + (n - k)) cap7 l7 HS7.out (by omega)).mono ?_
      rintro e w9 ⟨g9, c9, l9, rfl, hS9⟩
      have HF : Hid (SpR w B R p 5 20101 (.returned (.slice (some ⟨g9, 0, none⟩) (k + 1 + (n - k)) c9)) w9) := ⟨g9, (k + 1 + (n - k)), c9, _, l9, rfl, by omega, by omega, hS9⟩
      clear hS9
      go_wp2
      go_ret
      exact HF.out
  · -- the count
    obtain ⟨x5, hx5, hl5, c5, f5⟩ := HS3.out.at 5 (by omega)
    have hn5 : (5 : Int) < (n : Int) := by omega
    have hn4 : (4 : Int) < (n : Int) := by omega
    have H5 : Hid (l[5]? = some x5) := hl5
    clear hl5
    go_upto_region 4 with fail
    go_cut [] from 16 (fun wx => ∃ l', Hid (BS w B R wx (p + 1 + 1 + 1) g n cap1 l'))
    case first =>
      go_region_law (first
        | (go_simp; go_at_call 13; refine (HPk.out _ _ g n cap1 l 3 (by first | exact HS3.out | exact HS3.out.drew) (by omega) (by omega) (by omega)).mono ?_; rintro e w4 ⟨r, hr, rfl, hS⟩; obtain ⟨x4, hx4, hl4, c4, f4⟩ := hS.at 5 (by omega); obtain rfl : x5 = x4 := Option.some.inj (H5.out.symm.trans hl4); obtain ⟨y, hy, hyv⟩ : ∃ y : Nat, y < 256 ∧ IntKind.u8.wrap ((x5 : Int) + (r : Int) - 1) = (y : Int) := ⟨(((x5 : Int) + (r : Int) - 1) % 256).toNat, by omega, by rw [IntKind.wrap_u8']; omega⟩; have HS4 : Hid (BS w B R w4 (p + 1 + 1 + 1) g n cap1 l) := hS; clear hS hl4; simp only []))
      all_goals
        have HS5 := HS4.out.put 5 y (by omega) hy
        clear c4 f4 c5 f5 HS3 HS4
        go_wp2_with fail
        go_meet
        refine ⟨l.set 5 y, ?_⟩
        have e : IntKind.u8.wrap (IntKind.i64.wrap (IntKind.i64.wrap (IntKind.i64.wrap (x5 : Int) + (r : Int)) - 1)) = (y : Int) := by
          rw [i64_nat (x := (x5 : Int)) (by omega) (by omega), i64_nat (x := (x5 : Int) + (r : Int)) (by omega) (by omega), i64_nat (x := (x5 : Int) + (r : Int) - 1) (by omega) (by omega)]
          exact hyv
        rw [e]
        exact HS5
    case rest =>
      obtain ⟨l5, hS⟩ := hcut
      have HS5 : Hid (BS w B R wc (p + 1 + 1 + 1) g n cap1 l5) := hS.out
      clear hS HS3 c5 f5 H5
      go_wp2_with fail
      refine (HPk.out wc _ g n cap1 l5 3 HS5.out (by omega) (by omega) (by omega)).mono ?_
      rintro e w6 ⟨r, hr, rfl, hS⟩
      have HS6 : Hid (BS w B R w6 (p + 1 + 1 + 1 + 1) g n cap1 l5) := hS
      clear hS HS5
      by_cases r0 : r = 0
      · subst r0
        go_wp2_with fail
        refine (HPk.out w6 _ g n cap1 l5 256 HS6.out (by omega) (by omega) (by omega)).mono ?_
        rintro e w7 ⟨r, hr, rfl, hS⟩
        have wr : IntKind.u8.wrap (r : Int) = (r : Int) := u8_nat r (by omega)
        have HS7 : Hid (BS w B R (w7.setCell ⟨g, 4, none⟩ (.int .u8 (r : Nat))) (p + 1 + 1 + 1 + 1 + 1) g n cap1 (l5.set 4 r)) := hS.put 4 r (by omega) (by omega)
        obtain ⟨x, hx, _, c0, f0⟩ := hS.at 4 (by omega)
        clear hS HS6
        go_upto_region 18 with fail
        generalize (w7.setCell ⟨g, 4, none⟩ (.int .u8 (r : Nat))) = W7 at HS7 ⊢
        clear c0 f0
        go_wp2_with fail
        refine (HMd.out W7 _ g n cap1 _ HS7.out (by omega)).mono ?_
        rintro e w9 ⟨g9, c9, l9, rfl, hS9⟩
        have HF : Hid (SpR w B R p 5 20101 (.returned (.slice (some ⟨g9, 0, none⟩) n c9)) w9) := ⟨g9, n, c9, _, l9, rfl, by omega, by omega, hS9⟩
        clear hS9
        go_wp2
        go_ret
        exact HF.out
      have j0 : ((r : Int) == 0) = false := by simp; omega
      have n0 : ¬ (r : Int) = 0 := by omega
      go_wp2_with fail
      refine (HMd.out w6 _ g n cap1 l5 HS6.out (by omega)).mono ?_
      rintro e w9 ⟨g9, c9, l9, rfl, hS9⟩
      have HF : Hid (SpR w B R p 5 20101 (.returned (.slice (some ⟨g9, 0, none⟩) n c9)) w9) := ⟨g9, n, c9, _, l9, rfl, by omega, by omega, hS9⟩
      clear hS9
      go_wp2
      go_ret
      exact HF.out
end Go.Proofs.YtcihplachlokiaaGreatDoor.Rr
