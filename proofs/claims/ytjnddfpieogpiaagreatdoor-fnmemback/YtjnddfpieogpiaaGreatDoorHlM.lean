/- The specification's MemRead, over what reading and writing say. -/
import Derived.Test.YtjnddfpieogpiaaGreatDoorHjM
import Derived.Test.YtjnddfpieogpiaaGreatDoorHaM
namespace Go.Proofs.YtjnddfpieogpiaaGreatDoor
open Go.RowKit Go.Shelf
set_option linter.unusedVariables false

theorem memOk_zeroH : MemOk memZero := ⟨memZero_size, fun i u hu => by
  have hi : i < 136 := by have := (Array.getElem?_eq_some_iff.1 hu).1; rwa [memZero_size] at this
  rw [memZero_get hi] at hu
  obtain rfl := Option.some.inj hu
  have : ∀ j : Fin 136, CellIs (kd j.val) (zc (kd j.val)) := fun j => by
    have hk : kd j.val = 1 ∨ kd j.val = 16 ∨ kd j.val = 32 ∨ kd j.val = 64 ∨ kd j.val = 116 ∨ kd j.val = 99 := by revert j; decide +kernel
    rcases hk with h | h | h | h | h | h <;> rw [h] <;> simp [CellIs, zc, Value.oneCell', FloatKind.has]
  exact this ⟨i, hi⟩⟩

/-- Words, one after the other. -/
inductive Folds (r : Rds) : Array Value → List ByteArray → Array Value → Prop
  | nil (c : Array Value) : Folds r c [] c
  | snoc {c d e : Array Value} {L : List ByteArray} {x : ByteArray} : Folds r c L d → WTo r d x e → Folds r c (L ++ [x]) e

/-- What MemRead answers. -/
def IsMRead (r : Rds) (MT : Array Value → ByteArray → Prop) (s : ByteArray) (e : Ending) : Prop :=
  (6000 < s.size ∧ e = .returned (.tuple #[.agg memZero, .bool false])) ∨
  (s.size ≤ 6000 ∧ ∃ (C : Array Value) (t : ByteArray) (L : List ByteArray), L.map (·.data.toList) = (pieces 32 s.data.toList).filter (fun x => !x.isEmpty) ∧ Folds r memZero L C ∧ MemOk C ∧ MT C t ∧
    ((t = s ∧ e = .returned (.tuple #[.agg C, .bool true])) ∨ (t ≠ s ∧ e = .returned (.tuple #[.agg memZero, .bool false]))))

theorem ret_rowH {P : Program} {fn : Func} {Q : Ending → World → Prop} {a : Act} {w : World} {p p2 : Tmp} {ty : TypeId} (hf : fn.results = #[.cell p ty, .tmp p2]) {g : Nat} (hp : a.tmps.getD p undef = .pointer (some ⟨g, 0, none⟩)) {v2 : Value} (hp2 : a.tmps.getD p2 undef = v2)
    {v : Value} (h1 : (loadVar ty ⟨g, 0, none⟩).run P w = .ok v w) (hdf : a.defers = []) (hR : Q (.returned (.tuple #[v, v2])) w) : bodyPost P fn Q .ret a w := by
  refine bodyPost_ret (v := .tuple #[v, v2]) ?_ hdf hR
  have hp' : a.tmps[p]?.getD undef = .pointer (some ⟨g, 0, none⟩) := by simpa using hp
  have hp2' : a.tmps[p2]?.getD undef = v2 := by simpa using hp2
  simp [results, hf, hp', hp2', asAddr, h1]

theorem cell_sameH {W V : World} {g : Nat} (h : W.heap[g]? = V.heap[g]?) (n : Nat) : W.cell? ⟨g, n, none⟩ = V.cell? ⟨g, n, none⟩ := by simp [World.cell?, h]

theorem words_size {s : ByteArray} {L : List ByteArray} (h : L.map (·.data.toList) = (pieces 32 s.data.toList).filter (fun x => !x.isEmpty)) : ∀ x ∈ L, x.size ≤ s.size := fun x hx => by
  have hm : x.data.toList ∈ (pieces 32 s.data.toList).filter (fun x => !x.isEmpty) := by rw [← h]; exact List.mem_map.2 ⟨x, hx, rfl⟩
  have hp := (List.mem_filter.1 hm).1
  have := M_size (c := 32) (s := s) (M := (pieces 32 s.data.toList).map fun l => (⟨l.toArray⟩ : ByteArray)) (by simp [Function.comp_def]) ⟨x.data.toList.toArray⟩ (List.mem_map.2 ⟨_, hp, rfl⟩)
  simpa using this

set_option maxRecDepth 10000 in
set_option maxHeartbeats 4000000 in
theorem mread_s {r : Rds} (hr : RdsOk r) (MT : Array Value → ByteArray → Prop)
    (HM : Hid (∀ C, MemOk C → ∀ W, Calls Tryz.prog 31 #[.agg C] W fun e w' => ∃ t, e = .returned (.string t) ∧ MT C t ∧ Below W.heap.size W w')) (s : ByteArray) (hs : s.size ≤ 1048576) (w : World) :
    Calls Tryz.prog 11 #[.string s] w fun e w' => IsMRead r MT s e ∧ Below w.heap.size w w' := by
  have HR : Hid (RdsOk r) := hr
  clear hr
  have hz := zero_mem.1
  have HZM : Hid (MemOk memZero) := memOk_zeroH
  obtain ⟨QR, HQR⟩ : ∃ QR : Ending → Prop, Hid (∀ e, QR e ↔ IsMRead r MT s e) := ⟨_, fun e => Iff.rfl⟩
  rw [show (fun (e : Ending) (w' : World) => IsMRead r MT s e ∧ Below w.heap.size w w') = fun e w' => QR e ∧ Below w.heap.size w w' from funext fun e => funext fun w' => by rw [HQR.out]]
  have HQ1 : Hid (6000 < s.size → QR (.returned (.tuple #[.agg memZero, .bool false]))) := fun h => (HQR.out _).2 (.inl ⟨h, rfl⟩)
  have HQ2 : Hid (s.size ≤ 6000 → ∀ (C : Array Value) (t : ByteArray) (L : List ByteArray), L.map (·.data.toList) = (pieces 32 s.data.toList).filter (fun x => !x.isEmpty) → Folds r memZero L C → MemOk C → MT C t → t = s → QR (.returned (.tuple #[.agg C, .bool true]))) := fun h C t L h1 h2 h3 h4 h5 => (HQR.out _).2 (.inr ⟨h, C, t, L, h1, h2, h3, h4, .inl ⟨h5, rfl⟩⟩)
  have HQ3 : Hid (s.size ≤ 6000 → ∀ (C : Array Value) (t : ByteArray) (L : List ByteArray), L.map (·.data.toList) = (pieces 32 s.data.toList).filter (fun x => !x.isEmpty) → Folds r memZero L C → MemOk C → MT C t → t ≠ s → QR (.returned (.tuple #[.agg memZero, .bool false]))) := fun h C t L h1 h2 h3 h4 h5 => (HQR.out _).2 (.inr ⟨h, C, t, L, h1, h2, h3, h4, .inr ⟨h5, rfl⟩⟩)
  have HF0 : Hid (Folds r memZero [] memZero) := Folds.nil _
  clear HQR
  generalize memZero = Z at *
  have HI : Hid ((Tryz.prog.info? 37).map (·.size) = some Z.size) := (by rw [HZM.out.size]; exact zero_mem.2 : (Tryz.prog.info? 37).map (·.size) = some Z.size)
  have HB0 : Hid (Below w.heap.size w ((w.alloc (.cells Z 37)).alloc (.cells Z 37))) := ((Below.refl _ _).alloc (Nat.le_refl _) _).alloc (by simp) _
  have HA0 : Hid (((w.alloc (.cells Z 37)).alloc (.cells Z 37)).heap[w.heap.size]? = some (.cells Z 37 (0, 0))) := (rows2 w _ _).1
  have HA1 : Hid (((w.alloc (.cells Z 37)).alloc (.cells Z 37)).heap[w.heap.size + 1]? = some (.cells Z 37 (0, 0))) := (rows2 w _ _).2
  have HS0 : Hid ((storeVar 37 ⟨w.heap.size + 1, 0, none⟩ (.agg Z)).run Tryz.prog ((w.alloc (.cells Z 37)).alloc (.cells Z 37)) = .ok () (((w.alloc (.cells Z 37)).alloc (.cells Z 37)).setRow (w.heap.size + 1) Z)) := store_all HA1.out _ _ rfl HI.out HZM.out.one
  have zW : (((w.alloc (.cells Z 37)).alloc (.cells Z 37)).setRow (w.heap.size + 1) Z).heap.size = w.heap.size + 2 := by simp [World.setRow]
  have HR0 : Hid ((((w.alloc (.cells Z 37)).alloc (.cells Z 37)).setRow (w.heap.size + 1) Z).heap[w.heap.size]? = some (.cells Z 37 (0, 0))) := row_beside HA0.out _ (by omega) _
  have HR1 : Hid ((((w.alloc (.cells Z 37)).alloc (.cells Z 37)).setRow (w.heap.size + 1) Z).heap[w.heap.size + 1]? = some (.cells Z 37 (0, 0))) := row_set HA1.out _
  have HB1 : Hid (Below w.heap.size w (((w.alloc (.cells Z 37)).alloc (.cells Z 37)).setRow (w.heap.size + 1) Z)) := below_setRow HB0.out (by omega) _
  have HzW : Hid ((((w.alloc (.cells Z 37)).alloc (.cells Z 37)).setRow (w.heap.size + 1) Z).heap.size = w.heap.size + 2) := zW
  clear zW
  obtain ⟨W1, HW1⟩ : ∃ W1, Hid (W1 = ((w.alloc (.cells Z 37)).alloc (.cells Z 37)).setRow (w.heap.size + 1) Z) := ⟨_, rfl⟩
  rw [← HW1.out] at HR0 HR1 HB1 HzW
  by_cases hL : 6000 < s.size
  · have i1 : (6000 : Int) < (s.size : Int) := by omega
    have HQ : Hid (QR (.returned (.tuple #[.agg Z, .bool false]))) := HQ1.out hL
    have HLD : Hid ((loadVar 37 ⟨w.heap.size + 1, 0, none⟩).run Tryz.prog W1 = .ok (.agg Z) W1) := load_all HR1.out _ _ Tryz.underlying37 rfl HI.out
    have HSD : Hid ((storeVar 37 ⟨w.heap.size, 0, none⟩ (.agg Z)).run Tryz.prog W1 = .ok () (W1.setRow w.heap.size Z)) := store_all HR0.out _ _ rfl HI.out HZM.out.one
    have HLR : Hid ((loadVar 37 ⟨w.heap.size, 0, none⟩).run Tryz.prog (W1.setRow w.heap.size Z) = .ok (.agg Z) (W1.setRow w.heap.size Z)) := load_all (row_set HR0.out _) _ _ Tryz.underlying37 rfl HI.out
    have HB : Hid (Below w.heap.size w (W1.setRow w.heap.size Z)) := below_setRow HB1.out (Nat.le_refl _) _
    rw [HW1.out] at HLD HSD HLR HB
    clear HQ1 HQ2 HQ3 HR0 HR1 HB1 HzW HA0 HA1 HB0 HW1 W1 HF0 hL
    go_enter Tryz.func11, Tryz.ntmps11
    go_wp2_with (first | (refine wpL_store rfl 37 _ _ rfl _ _ rfl _ rfl _ HS0.out ?_) | (refine wpL_load rfl 37 _ rfl _ _ rfl _ HLD.out ?_) | (refine wpL_store rfl 37 _ _ rfl _ _ rfl _ rfl _ HSD.out ?_) | exact ret_rowH rfl rfl rfl HLR.out rfl ⟨HQ.out, HB.out⟩ | fail)
  · have i1 : ¬ ((6000 : Int) < (s.size : Int)) := by omega
    have HQ2 : Hid (∀ (C : Array Value) (t : ByteArray) (L : List ByteArray), L.map (·.data.toList) = (pieces 32 s.data.toList).filter (fun x => !x.isEmpty) → Folds r Z L C → MemOk C → MT C t → t = s → QR (.returned (.tuple #[.agg C, .bool true]))) := HQ2.out (by omega)
    have HQ3 : Hid (∀ (C : Array Value) (t : ByteArray) (L : List ByteArray), L.map (·.data.toList) = (pieces 32 s.data.toList).filter (fun x => !x.isEmpty) → Folds r Z L C → MemOk C → MT C t → t ≠ s → QR (.returned (.tuple #[.agg Z, .bool false]))) := HQ3.out (by omega)
    clear HQ1 HA0 HA1 HB0
    go_enter Tryz.func11, Tryz.ntmps11
    go_wp2_with (first | (refine wpL_store rfl 37 _ _ rfl _ _ rfl _ rfl _ HS0.out ?_) | fail)
    rw [← HW1.out]
    refine (words_s s W1 (by omega)).mono ?_
    rintro e w1 ⟨g, cap, L, rfl, HW, HB, HL⟩
    have hlen : L.length ≤ s.size + 1 := by
      have h1 := congrArg List.length HL
      have h2 := pieces_len 32 s.data.toList
      have h3 := List.length_filter_le (fun x : List UInt8 => !x.isEmpty) (pieces 32 s.data.toList)
      simp at h1 h2 h3
      omega
    have hxs : Hid (∀ x ∈ L, x.size ≤ 1048576) := fun x hx => by have := words_size HL x hx; omega
    have HWd : Hid (Words w1 W1.heap.size g cap L) := HW
    have HLL : Hid (L.map (·.data.toList) = (pieces 32 s.data.toList).filter (fun x => !x.isEmpty)) := HL
    have hgs := HW.lt
    rw [HzW.out] at hgs
    have HG : Hid (w.heap.size + 2 ≤ g ∧ g < w1.heap.size) := hgs
    have HK0 : Hid (w1.heap[w.heap.size]? = some (.cells Z 37 (0, 0))) := (HB.block _ (by rw [HzW.out]; omega)).trans HR0.out
    have HK1 : Hid (w1.heap[w.heap.size + 1]? = some (.cells Z 37 (0, 0))) := (HB.block _ (by rw [HzW.out]; omega)).trans HR1.out
    have HKB : Hid (Below w.heap.size w w1) := HB1.out.trans (HB.mono (by rw [HzW.out]; omega))
    clear HW HB HL hgs HR0 HR1 HB1 HzW HW1 HS0
    have HZZ : Hid (∀ (w : World), (zeroValue 37).run Tryz.prog w = .ok (.agg Z) w) := hz
    clear hz
    go_wp2_with fail
    go_loopg [6] L.length (fun gk i wr => ∃ (n : Nat) (C : Array Value), n + gk = L.length ∧ i = .int .i64 n ∧ Hid (wr.heap[w.heap.size]? = some (.cells Z 37 (0, 0))) ∧ Hid (wr.heap[w.heap.size + 1]? = some (.cells C 37 (0, 0))) ∧ Hid (wr.heap[g]? = w1.heap[g]?) ∧ Hid (MemOk C) ∧ Hid (Folds r Z (L.take n) C) ∧ Hid (Below w.heap.size w wr))
    case atStart => exact ⟨0, Z, by omega, rfl, HK0, HK1, (rfl : w1.heap[g]? = w1.heap[g]?), HZM, (by simpa using HF0.out : Folds r Z (L.take 0) Z), HKB⟩
    case round =>
      obtain ⟨n, C, hn, rfl, HX0, HX1, HXg, HCM, HFC, HXB⟩ := hrel
      by_cases hlt : n < L.length
      · have j1 : (n : Int) < (L.length : Int) := by omega
        obtain ⟨x, hx⟩ : ∃ x, L[n]? = some x := ⟨_, List.getElem?_eq_getElem hlt⟩
        have HCX : Hid (∀ W : World, W.heap[g]? = w1.heap[g]? → W.cell? ⟨g, n, none⟩ = some (.string x)) := fun W h => (cell_sameH h n).trans (HWd.out.cell hx)
        have HWX : Hid (∀ W, Calls Tryz.prog 35 #[.agg C, .string x] W fun e w' => ∃ D, e = .returned (.agg D) ∧ (WTo r C x D ∧ MemOk D) ∧ Below W.heap.size W w') := fun W => word_s HR.out C HCM.out x (hxs.out x (List.mem_of_getElem? hx)) W
        have HT1 : Hid (L.take (n + 1) = L.take n ++ [x]) := (by rw [List.take_add_one, hx]; simp : L.take (n + 1) = L.take n ++ [x])
        go_upto_region 8 with fail
        obtain ⟨S, HS⟩ : ∃ S : World → Prop, Hid (∀ W, S W ↔ ((∃ E, E.size = 136 ∧ W.heap[w.heap.size + 1]? = some (.cells E 37 (0, 0))) ∧ W.heap[w.heap.size]? = some (.cells Z 37 (0, 0)) ∧ W.heap[g]? = w1.heap[g]? ∧ Below w.heap.size w W)) := ⟨_, fun W => Iff.rfl⟩
        have hgl : Hid (∀ W : World, W.heap[g]? = w1.heap[g]? → g < W.heap.size) := fun W h => by
          have h1 := HG.out.2
          rw [Array.getElem?_eq_getElem h1] at h
          exact (Array.getElem?_eq_some_iff.1 h).1
        have hSc : Hid (∀ W W', S W → Below W.heap.size W W' → S W') := fun W W' h b => by
          obtain ⟨⟨E, hE, h1⟩, h2, h3, h4⟩ := (HS.out W).1 h
          have l1 := hgl.out W h3
          have l2 := HG.out.1
          exact (HS.out W').2 ⟨⟨E, hE, (b.block _ (by omega)).trans h1⟩, (b.block _ (by omega)).trans h2, (b.block _ l1).trans h3, h4.trans (b.mono h4.size)⟩
        have HIC : Hid ((Tryz.prog.info? 37).map (·.size) = some C.size) := (by rw [HCM.out.size]; exact zero_mem.2 : (Tryz.prog.info? 37).map (·.size) = some C.size)
        refine region_cut (R := fun a' W => ∃ D, WTo r C x D ∧ MemOk D ∧ W.heap[w.heap.size]? = some (.cells Z 37 (0, 0)) ∧ W.heap[w.heap.size + 1]? = some (.cells D 37 (0, 0)) ∧ W.heap[g]? = w1.heap[g]? ∧ Below w.heap.size w W ∧ a' = ⟨#[.string s, undef, .pointer (some ⟨w.heap.size, 0, none⟩), .bool false, .pointer (some ⟨w.heap.size + 1, 0, none⟩), .slice (some ⟨g, 0, none⟩) L.length cap, .int .i64 (n : Int), .agg Z, .string s, .int .i64 (s.size : Int), .bool false, undef, .string s, .slice (some ⟨g, 0, none⟩) L.length cap, .int .i64 (n : Int), .slice (some ⟨g, 0, none⟩) L.length cap, .int .i64 (L.length : Int), .bool true, u18, u19, .agg C, .slice (some ⟨g, 0, none⟩) L.length cap, .int .i64 (n : Int), .pointer (some ⟨g, n, none⟩), .string x, .agg D, undef, undef, undef, undef, undef, undef], []⟩) ?_ ?_
        · have S0 : S wr.drew := (HS.out _).2 ⟨⟨C, HCM.out.size, HX1.out⟩, HX0.out, HXg.out, HXB.out.drew⟩
          refine heldH_start (S := S) (by kernel_rfl) S0 7 rfl #[false, false, false, false, false, false, false] rfl (fun S0 => ?_)
          have HRc : Hid (wr.drew.heap[w.heap.size + 1]? = some (.cells C 37 (0, 0))) := HX1.out
          generalize wr.drew = Y at S0 HRc ⊢
          refine tkH_val (i := 1) rfl (by kernel_rfl) (by kernel_rfl) (by kernel_rfl) (fun _ _ _ _ h => nomatch h.1) rfl (.slice (some ⟨g, 0, none⟩) L.length cap) (fun W _ => by go_simp) S0 #[false, true, false, false, false, false, false] rfl ⟨#[.string s, undef, .pointer (some ⟨w.heap.size, 0, none⟩), .bool false, .pointer (some ⟨w.heap.size + 1, 0, none⟩), .slice (some ⟨g, 0, none⟩) L.length cap, .int .i64 (n : Int), .agg Z, .string s, .int .i64 (s.size : Int), .bool false, undef, .string s, .slice (some ⟨g, 0, none⟩) L.length cap, .int .i64 (n : Int), .slice (some ⟨g, 0, none⟩) L.length cap, .int .i64 (L.length : Int), .bool true, u18, u19, u20, .slice (some ⟨g, 0, none⟩) L.length cap, u22, u23, u24, u25, undef, undef, undef, undef, undef, undef], []⟩ rfl ?_
          refine tkH_val (i := 2) rfl (by kernel_rfl) (by kernel_rfl) (by kernel_rfl) (fun _ _ _ _ h => nomatch h.1) rfl (.int .i64 (n : Int)) (fun W _ => by go_simp) S0 #[false, true, true, false, false, false, false] rfl ⟨#[.string s, undef, .pointer (some ⟨w.heap.size, 0, none⟩), .bool false, .pointer (some ⟨w.heap.size + 1, 0, none⟩), .slice (some ⟨g, 0, none⟩) L.length cap, .int .i64 (n : Int), .agg Z, .string s, .int .i64 (s.size : Int), .bool false, undef, .string s, .slice (some ⟨g, 0, none⟩) L.length cap, .int .i64 (n : Int), .slice (some ⟨g, 0, none⟩) L.length cap, .int .i64 (L.length : Int), .bool true, u18, u19, u20, .slice (some ⟨g, 0, none⟩) L.length cap, .int .i64 (n : Int), u23, u24, u25, undef, undef, undef, undef, undef, undef], []⟩ rfl ?_
          refine tkH_val (i := 3) rfl (by kernel_rfl) (by kernel_rfl) (by kernel_rfl) (fun _ _ _ _ h => nomatch h.1) rfl (.pointer (some ⟨g, n, none⟩)) (fun W hW => by go_simp) S0 #[false, true, true, true, false, false, false] rfl ⟨#[.string s, undef, .pointer (some ⟨w.heap.size, 0, none⟩), .bool false, .pointer (some ⟨w.heap.size + 1, 0, none⟩), .slice (some ⟨g, 0, none⟩) L.length cap, .int .i64 (n : Int), .agg Z, .string s, .int .i64 (s.size : Int), .bool false, undef, .string s, .slice (some ⟨g, 0, none⟩) L.length cap, .int .i64 (n : Int), .slice (some ⟨g, 0, none⟩) L.length cap, .int .i64 (L.length : Int), .bool true, u18, u19, u20, .slice (some ⟨g, 0, none⟩) L.length cap, .int .i64 (n : Int), .pointer (some ⟨g, n, none⟩), u24, u25, undef, undef, undef, undef, undef, undef], []⟩ rfl ?_
          refine tkH_val (i := 4) rfl (by kernel_rfl) (by kernel_rfl) (by kernel_rfl) (fun _ _ _ _ h => nomatch h.1) rfl (.string x) (fun W hW => by have cx := HCX.out W ((HS.out W).1 hW).2.2.1; go_simp) S0 #[false, true, true, true, true, false, false] rfl ⟨#[.string s, undef, .pointer (some ⟨w.heap.size, 0, none⟩), .bool false, .pointer (some ⟨w.heap.size + 1, 0, none⟩), .slice (some ⟨g, 0, none⟩) L.length cap, .int .i64 (n : Int), .agg Z, .string s, .int .i64 (s.size : Int), .bool false, undef, .string s, .slice (some ⟨g, 0, none⟩) L.length cap, .int .i64 (n : Int), .slice (some ⟨g, 0, none⟩) L.length cap, .int .i64 (L.length : Int), .bool true, u18, u19, u20, .slice (some ⟨g, 0, none⟩) L.length cap, .int .i64 (n : Int), .pointer (some ⟨g, n, none⟩), .string x, u25, undef, undef, undef, undef, undef, undef], []⟩ rfl ?_
          refine wpAnyH_all (rs := [0]) (by kernel_rfl) (by simp) (fun i hi => ?_)
          obtain rfl := List.mem_singleton.1 hi
          refine upH_load rfl rfl 37 _ rfl _ _ rfl (.agg C) (load_all HRc.out _ _ Tryz.underlying37 rfl HIC.out) S0 #[true, true, true, true, true, false, false] rfl ⟨#[.string s, undef, .pointer (some ⟨w.heap.size, 0, none⟩), .bool false, .pointer (some ⟨w.heap.size + 1, 0, none⟩), .slice (some ⟨g, 0, none⟩) L.length cap, .int .i64 (n : Int), .agg Z, .string s, .int .i64 (s.size : Int), .bool false, undef, .string s, .slice (some ⟨g, 0, none⟩) L.length cap, .int .i64 (n : Int), .slice (some ⟨g, 0, none⟩) L.length cap, .int .i64 (L.length : Int), .bool true, u18, u19, .agg C, .slice (some ⟨g, 0, none⟩) L.length cap, .int .i64 (n : Int), .pointer (some ⟨g, n, none⟩), .string x, u25, undef, undef, undef, undef, undef, undef], []⟩ rfl ?_
          refine wpAnyH_all (rs := [5]) (by kernel_rfl) (by simp) (fun i hi => ?_)
          obtain rfl := List.mem_singleton.1 hi
          refine up_fcallV rfl rfl Tryz.func35 (by kernel_rfl) (by kernel_rfl) rfl [.agg C, .string x] rfl #[true, true, true, true, true, true, false] rfl (fun v => ⟨#[.string s, undef, .pointer (some ⟨w.heap.size, 0, none⟩), .bool false, .pointer (some ⟨w.heap.size + 1, 0, none⟩), .slice (some ⟨g, 0, none⟩) L.length cap, .int .i64 (n : Int), .agg Z, .string s, .int .i64 (s.size : Int), .bool false, undef, .string s, .slice (some ⟨g, 0, none⟩) L.length cap, .int .i64 (n : Int), .slice (some ⟨g, 0, none⟩) L.length cap, .int .i64 (L.length : Int), .bool true, u18, u19, .agg C, .slice (some ⟨g, 0, none⟩) L.length cap, .int .i64 (n : Int), .pointer (some ⟨g, n, none⟩), .string x, v, undef, undef, undef, undef, undef, undef], []⟩) (fun v => rfl) (fun v W' => ∃ D, v = .agg D ∧ (WTo r C x D ∧ MemOk D) ∧ Below Y.heap.size Y W') ((HWX.out Y).mono fun e w' ⟨D, h1, h2, h3⟩ => ⟨_, h1, D, rfl, h2, h3⟩) ?_
          rintro v w2 ⟨D, rfl, ⟨hWT, hDM⟩, g2⟩
          have S2 := hSc.out _ _ S0 g2
          refine ⟨S2, ?_⟩
          have HID : (Tryz.prog.info? 37).map (·.size) = some D.size := by rw [hDM.size]; exact zero_mem.2
          refine wpAnyH_all (rs := [6]) (by kernel_rfl) (by simp) (fun i hi => ?_)
          obtain rfl := List.mem_singleton.1 hi
          obtain ⟨⟨E, hE, p1⟩, p2, p3, p4⟩ := (HS.out _).1 S2
          have l2 := HG.out.1
          have p3' : (w2.setRow (w.heap.size + 1) D).heap[g]? = w1.heap[g]? := by
            obtain ⟨q, hq⟩ : ∃ q, w2.heap[g]? = some q := ⟨_, Array.getElem?_eq_getElem (hgl.out _ p3)⟩
            rw [← p3, hq]
            exact row_beside hq _ (by omega) _
          have S3 : S (w2.setRow (w.heap.size + 1) D) := (HS.out _).2 ⟨⟨D, hDM.size, row_set p1 _⟩, row_beside p2 _ (by omega) _, p3', below_setRow p4 (by omega) _⟩
          refine up_store' rfl rfl 37 _ _ rfl _ _ rfl _ rfl _ (store_all p1 _ _ (hE.trans hDM.size.symm) HID hDM.one) S3 #[true, true, true, true, true, true, true] rfl ⟨#[.string s, undef, .pointer (some ⟨w.heap.size, 0, none⟩), .bool false, .pointer (some ⟨w.heap.size + 1, 0, none⟩), .slice (some ⟨g, 0, none⟩) L.length cap, .int .i64 (n : Int), .agg Z, .string s, .int .i64 (s.size : Int), .bool false, undef, .string s, .slice (some ⟨g, 0, none⟩) L.length cap, .int .i64 (n : Int), .slice (some ⟨g, 0, none⟩) L.length cap, .int .i64 (L.length : Int), .bool true, u18, u19, .agg C, .slice (some ⟨g, 0, none⟩) L.length cap, .int .i64 (n : Int), .pointer (some ⟨g, n, none⟩), .string x, .agg D, undef, undef, undef, undef, undef, undef], []⟩ rfl ?_
          exact wpAnyH_done (by kernel_rfl) ⟨rfl, D, hWT, hDM, row_beside p2 _ (by omega) _, row_set p1 _, p3', below_setRow p4 (by omega) _, rfl⟩ _
        · rintro a' W ⟨D, hWT, hDM, k0, k1, kg, kB, rfl⟩
          have HY0 : Hid (W.heap[w.heap.size]? = some (.cells Z 37 (0, 0))) := k0
          have HY1 : Hid (W.heap[w.heap.size + 1]? = some (.cells D 37 (0, 0))) := k1
          have HYg : Hid (W.heap[g]? = w1.heap[g]?) := kg
          have HDM : Hid (MemOk D) := hDM
          have HFD : Hid (Folds r Z (L.take (n + 1)) D) := (by rw [HT1.out]; exact .snoc HFC.out hWT : Folds r Z (L.take (n + 1)) D)
          have HYB : Hid (Below w.heap.size w W) := kB
          clear k0 k1 kg kB hDM hWT HS hSc hgl HIC HCX HWX HT1 HX0 HX1 HXg HCM HFC HXB hx
          go_wp2
          go_roundg (gk - 1)
          case measure => omega
          case rel => exact ⟨n + 1, D, by omega, by go_num, HY0, HY1, HYg, HDM, HFD, HYB⟩
      · have j1 : ¬ ((n : Int) < (L.length : Int)) := by omega
        have HFL : Hid (Folds r Z L C) := (by have h := HFC.out; rwa [List.take_of_length_le (by omega)] at h : Folds r Z L C)
        have HIC : Hid ((Tryz.prog.info? 37).map (·.size) = some C.size) := (by rw [HCM.out.size]; exact zero_mem.2 : (Tryz.prog.info? 37).map (·.size) = some C.size)
        have HLD : Hid ((loadVar 37 ⟨w.heap.size + 1, 0, none⟩).run Tryz.prog wr = .ok (.agg C) wr) := load_all HX1.out _ _ Tryz.underlying37 rfl HIC.out
        have HGw : Hid (w.heap.size + 2 ≤ wr.heap.size) := (by have := (Array.getElem?_eq_some_iff.1 HX1.out).1; omega : w.heap.size + 2 ≤ wr.heap.size)
        clear hlt hn hlen HWd HXg HG HK0 HK1 HKB HFC
        go_wp2_with (first | (refine wpL_load rfl 37 _ rfl _ _ rfl _ HLD.out ?_) | fail)
        refine (HM.out C HCM.out _).mono ?_
        rintro e w2 ⟨t, rfl, hMT, g2⟩
        have HMT : Hid (MT C t) := hMT
        have HR0 : Hid (w2.heap[w.heap.size]? = some (.cells Z 37 (0, 0))) := (g2.block _ (by have := HGw.out; omega)).trans HX0.out
        have HR1 : Hid (w2.heap[w.heap.size + 1]? = some (.cells C 37 (0, 0))) := (g2.block _ (by have := HGw.out; omega)).trans HX1.out
        have HB2 : Hid (Below w.heap.size w w2) := HXB.out.trans (g2.mono HXB.out.size)
        clear g2 hMT HLD HX0 HX1 HXB HGw
        by_cases hq : t = s
        · have HQ : Hid (QR (.returned (.tuple #[.agg C, .bool true]))) := HQ2.out C t L HLL.out HFL.out HCM.out HMT.out hq
          have hq2 : (t.toList == s.toList) = true := by rw [hq]; simp
          have HLD : Hid ((loadVar 37 ⟨w.heap.size + 1, 0, none⟩).run Tryz.prog w2 = .ok (.agg C) w2) := load_all HR1.out _ _ Tryz.underlying37 rfl HIC.out
          have HSD : Hid ((storeVar 37 ⟨w.heap.size, 0, none⟩ (.agg C)).run Tryz.prog w2 = .ok () (w2.setRow w.heap.size C)) := store_all HR0.out _ _ (HZM.out.size.trans HCM.out.size.symm) HIC.out HCM.out.one
          have HLR : Hid ((loadVar 37 ⟨w.heap.size, 0, none⟩).run Tryz.prog (w2.setRow w.heap.size C) = .ok (.agg C) (w2.setRow w.heap.size C)) := load_all (row_set HR0.out _) _ _ Tryz.underlying37 rfl HIC.out
          have HB : Hid (Below w.heap.size w (w2.setRow w.heap.size C)) := below_setRow HB2.out (Nat.le_refl _) _
          clear hq
          go_wp2_with (first | (refine wpL_load rfl 37 _ rfl _ _ rfl _ HLD.out ?_) | (refine wpL_store rfl 37 _ _ rfl _ _ rfl _ rfl _ HSD.out ?_) | exact ret_rowH rfl rfl rfl HLR.out rfl ⟨HQ.out, HB.out⟩ | fail)
        · have HQ : Hid (QR (.returned (.tuple #[.agg Z, .bool false]))) := HQ3.out C t L HLL.out HFL.out HCM.out HMT.out hq
          have hq2 : (t.toList == s.toList) = false := by
            rw [Lib.toList_data, Lib.toList_data, beq_eq_false_iff_ne]
            exact fun h => hq (by apply ByteArray.ext; apply Array.ext'; exact h)
          have hz := HZZ.out
          have HSD : Hid ((storeVar 37 ⟨w.heap.size, 0, none⟩ (.agg Z)).run Tryz.prog w2 = .ok () (w2.setRow w.heap.size Z)) := store_all HR0.out _ _ rfl HI.out HZM.out.one
          have HLR : Hid ((loadVar 37 ⟨w.heap.size, 0, none⟩).run Tryz.prog (w2.setRow w.heap.size Z) = .ok (.agg Z) (w2.setRow w.heap.size Z)) := load_all (row_set HR0.out _) _ _ Tryz.underlying37 rfl HI.out
          have HB : Hid (Below w.heap.size w (w2.setRow w.heap.size Z)) := below_setRow HB2.out (Nat.le_refl _) _
          clear hq
          go_wp2_with (first | (refine wpL_store rfl 37 _ _ rfl _ _ rfl _ rfl _ HSD.out ?_) | exact ret_rowH rfl rfl rfl HLR.out rfl ⟨HQ.out, HB.out⟩ | fail)
end Go.Proofs.YtjnddfpieogpiaaGreatDoor
/- The program's MemRead and memNumber, over what reading and writing say. -/
namespace Go.Proofs.YtjnddfpieogpiaaGreatDoor
open Go.RowKit Go.Shelf
set_option linter.unusedVariables false

/-- Words, one after the other, whatever each does. -/
inductive FoldsP (PW : Array Value → ByteArray → Array Value → Prop) : Array Value → List ByteArray → Array Value → Prop
  | nil (c : Array Value) : FoldsP PW c [] c
  | snoc {c d e : Array Value} {L : List ByteArray} {x : ByteArray} : FoldsP PW c L d → PW d x e → FoldsP PW c (L ++ [x]) e

/-- What the program's MemRead answers. -/
def IsMReadP (PW : Array Value → ByteArray → Array Value → Prop) (MT : Array Value → ByteArray → Prop) (s : ByteArray) (e : Ending) : Prop :=
  (6000 < s.size ∧ e = .returned (.tuple #[.agg memZero, .bool false])) ∨
  (s.size ≤ 6000 ∧ ∃ (C : Array Value) (t : ByteArray) (L : List ByteArray), L.map (·.data.toList) = pieces 32 s.data.toList ∧ FoldsP PW memZero L C ∧ MemOk C ∧ MT C t ∧
    ((t = s ∧ e = .returned (.tuple #[.agg C, .bool true])) ∨ (t ≠ s ∧ e = .returned (.tuple #[.agg memZero, .bool false]))))

set_option maxRecDepth 10000 in
set_option maxHeartbeats 4000000 in
theorem mread_i (PW : Array Value → ByteArray → Array Value → Prop) (MT : Array Value → ByteArray → Prop) (T : World → Prop) (HT : Hid (∀ W W', T W → Below W.heap.size W W' → T W'))
    (HWD : Hid (∀ C, MemOk C → ∀ x : ByteArray, x.size ≤ 1048576 → ∀ W, T W → Calls Tryz.prog 29 #[.agg C, .string x] W fun e w' => ∃ D, e = .returned (.agg D) ∧ (PW C x D ∧ MemOk D) ∧ Below W.heap.size W w'))
    (HM : Hid (∀ C, MemOk C → ∀ W, T W → Calls Tryz.prog 7 #[.agg C] W fun e w' => ∃ t, e = .returned (.string t) ∧ MT C t ∧ Below W.heap.size W w')) (s : ByteArray) (hs : s.size ≤ 1048576)
    (HSP : Hid (∀ W, T W → Calls Tryz.prog 28 #[.string s, .string ⟨#[32]⟩] W fun e w' => ∃ (g cap : Nat) (L : List ByteArray), e = .returned (.slice (some ⟨g, 0, none⟩) L.length cap) ∧ (∀ n x, L[n]? = some x → w'.cell? ⟨g, n, none⟩ = some (.string x)) ∧ (W.heap.size ≤ g ∧ g < w'.heap.size) ∧ Below W.heap.size W w' ∧ L.map (·.data.toList) = pieces 32 s.data.toList)) (w : World) (hw : T w) :
    Calls Tryz.prog 8 #[.string s] w fun e w' => IsMReadP PW MT s e ∧ Below w.heap.size w w' := by
  have HTw : Hid (T w) := hw
  clear hw
  have hz := zero_mem.1
  have HZM : Hid (MemOk memZero) := memOk_zeroH
  obtain ⟨QR, HQR⟩ : ∃ QR : Ending → Prop, Hid (∀ e, QR e ↔ IsMReadP PW MT s e) := ⟨_, fun e => Iff.rfl⟩
  rw [show (fun (e : Ending) (w' : World) => IsMReadP PW MT s e ∧ Below w.heap.size w w') = fun e w' => QR e ∧ Below w.heap.size w w' from funext fun e => funext fun w' => by rw [HQR.out]]
  have HQ1 : Hid (6000 < s.size → QR (.returned (.tuple #[.agg memZero, .bool false]))) := fun h => (HQR.out _).2 (.inl ⟨h, rfl⟩)
  have HQ2 : Hid (s.size ≤ 6000 → ∀ (C : Array Value) (t : ByteArray) (L : List ByteArray), L.map (·.data.toList) = pieces 32 s.data.toList → FoldsP PW memZero L C → MemOk C → MT C t → t = s → QR (.returned (.tuple #[.agg C, .bool true]))) := fun h C t L h1 h2 h3 h4 h5 => (HQR.out _).2 (.inr ⟨h, C, t, L, h1, h2, h3, h4, .inl ⟨h5, rfl⟩⟩)
  have HQ3 : Hid (s.size ≤ 6000 → ∀ (C : Array Value) (t : ByteArray) (L : List ByteArray), L.map (·.data.toList) = pieces 32 s.data.toList → FoldsP PW memZero L C → MemOk C → MT C t → t ≠ s → QR (.returned (.tuple #[.agg memZero, .bool false]))) := fun h C t L h1 h2 h3 h4 h5 => (HQR.out _).2 (.inr ⟨h, C, t, L, h1, h2, h3, h4, .inr ⟨h5, rfl⟩⟩)
  have HF0 : Hid (FoldsP PW memZero [] memZero) := FoldsP.nil _
  clear HQR
  generalize memZero = Z at *
  have HI : Hid ((Tryz.prog.info? 37).map (·.size) = some Z.size) := (by rw [HZM.out.size]; exact zero_mem.2 : (Tryz.prog.info? 37).map (·.size) = some Z.size)
  by_cases hL : 6000 < s.size
  · have i1 : (6000 : Int) < (s.size : Int) := by omega
    have HQ : Hid (QR (.returned (.tuple #[.agg Z, .bool false]))) := HQ1.out hL
    have HR0 : Hid ((w.alloc (.cells Z 37)).heap[w.heap.size]? = some (.cells Z 37 (0, 0))) := heap_alloc_last _ _
    have HSD : Hid ((storeVar 37 ⟨w.heap.size, 0, none⟩ (.agg Z)).run Tryz.prog (w.alloc (.cells Z 37)) = .ok () ((w.alloc (.cells Z 37)).setRow w.heap.size Z)) := store_all HR0.out _ _ rfl HI.out HZM.out.one
    have HLR : Hid ((loadVar 37 ⟨w.heap.size, 0, none⟩).run Tryz.prog ((w.alloc (.cells Z 37)).setRow w.heap.size Z) = .ok (.agg Z) ((w.alloc (.cells Z 37)).setRow w.heap.size Z)) := load_all (row_set HR0.out _) _ _ Tryz.underlying37 rfl HI.out
    have HB : Hid (Below w.heap.size w ((w.alloc (.cells Z 37)).setRow w.heap.size Z)) := below_setRow ((Below.refl _ _).alloc (Nat.le_refl _) _) (Nat.le_refl _) _
    clear HQ1 HQ2 HQ3 HF0 hL HR0
    go_enter Tryz.func8, Tryz.ntmps8
    go_wp2_with (first | (refine wpL_store rfl 37 _ _ rfl _ _ rfl _ rfl _ HSD.out ?_) | exact ret_rowH rfl rfl rfl HLR.out rfl ⟨HQ.out, HB.out⟩ | fail)
  · have i1 : ¬ ((6000 : Int) < (s.size : Int)) := by omega
    have HQ2 : Hid (∀ (C : Array Value) (t : ByteArray) (L : List ByteArray), L.map (·.data.toList) = pieces 32 s.data.toList → FoldsP PW Z L C → MemOk C → MT C t → t = s → QR (.returned (.tuple #[.agg C, .bool true]))) := HQ2.out (by omega)
    have HQ3 : Hid (∀ (C : Array Value) (t : ByteArray) (L : List ByteArray), L.map (·.data.toList) = pieces 32 s.data.toList → FoldsP PW Z L C → MemOk C → MT C t → t ≠ s → QR (.returned (.tuple #[.agg Z, .bool false]))) := HQ3.out (by omega)
    obtain ⟨W1, HW1⟩ : ∃ W1, Hid (W1 = (w.alloc (.cells Z 37)).alloc (.cells Z 37)) := ⟨_, rfl⟩
    have HR0 : Hid (W1.heap[w.heap.size]? = some (.cells Z 37 (0, 0))) := (by rw [HW1.out]; exact (rows2 w _ _).1 : W1.heap[w.heap.size]? = some (.cells Z 37 (0, 0)))
    have HR1 : Hid (W1.heap[w.heap.size + 1]? = some (.cells Z 37 (0, 0))) := (by rw [HW1.out]; exact (rows2 w _ _).2 : W1.heap[w.heap.size + 1]? = some (.cells Z 37 (0, 0)))
    have HB1 : Hid (Below w.heap.size w W1) := (by rw [HW1.out]; exact ((Below.refl _ _).alloc (Nat.le_refl _) _).alloc (by simp) _ : Below w.heap.size w W1)
    have HzW : Hid (W1.heap.size = w.heap.size + 2) := (by rw [HW1.out]; simp : W1.heap.size = w.heap.size + 2)
    clear HQ1 hL
    go_enter Tryz.func8, Tryz.ntmps8
    go_wp2_with fail
    rw [← HW1.out]
    refine (HSP.out W1 (HT.out _ _ HTw.out HB1.out)).mono ?_
    rintro e w1 ⟨g, cap, L, rfl, HW, hgs, HB, HL⟩
    have hlen : L.length ≤ s.size + 1 := by
      have h1 := congrArg List.length HL
      have h2 := pieces_len 32 s.data.toList
      simp at h1 h2
      omega
    have hxs : Hid (∀ x ∈ L, x.size ≤ 1048576) := fun x hx => by have := M_size HL x hx; omega
    have HWd : Hid (∀ n x, L[n]? = some x → w1.cell? ⟨g, n, none⟩ = some (.string x)) := HW
    have HLL : Hid (L.map (·.data.toList) = pieces 32 s.data.toList) := HL
    rw [HzW.out] at hgs
    have HG : Hid (w.heap.size + 2 ≤ g ∧ g < w1.heap.size) := hgs
    have HK0 : Hid (w1.heap[w.heap.size]? = some (.cells Z 37 (0, 0))) := (HB.block _ (by rw [HzW.out]; omega)).trans HR0.out
    have HK1 : Hid (w1.heap[w.heap.size + 1]? = some (.cells Z 37 (0, 0))) := (HB.block _ (by rw [HzW.out]; omega)).trans HR1.out
    have HKB : Hid (Below w.heap.size w w1) := HB1.out.trans (HB.mono (by rw [HzW.out]; omega))
    have HZZ : Hid (∀ (w : World), (zeroValue 37).run Tryz.prog w = .ok (.agg Z) w) := hz
    clear HW HB HL hgs HR0 HR1 HB1 HzW HW1 hz
    go_wp2_with fail
    go_loopg [14] L.length (fun gk i wr => ∃ (n : Nat) (C : Array Value), n + gk = L.length ∧ i = .int .i64 n ∧ Hid (wr.heap[w.heap.size]? = some (.cells Z 37 (0, 0))) ∧ Hid (wr.heap[w.heap.size + 1]? = some (.cells C 37 (0, 0))) ∧ Hid (wr.heap[g]? = w1.heap[g]?) ∧ Hid (MemOk C) ∧ Hid (FoldsP PW Z (L.take n) C) ∧ Hid (Below w.heap.size w wr))
    case atStart => exact ⟨0, Z, by omega, rfl, HK0, HK1, (rfl : w1.heap[g]? = w1.heap[g]?), HZM, (by simpa using HF0.out : FoldsP PW Z (L.take 0) Z), HKB⟩
    case round =>
      obtain ⟨n, C, hn, rfl, HX0, HX1, HXg, HCM, HFC, HXB⟩ := hrel
      have HIC : Hid ((Tryz.prog.info? 37).map (·.size) = some C.size) := (by rw [HCM.out.size]; exact zero_mem.2 : (Tryz.prog.info? 37).map (·.size) = some C.size)
      have HLD : Hid ((loadVar 37 ⟨w.heap.size + 1, 0, none⟩).run Tryz.prog wr = .ok (.agg C) wr) := load_all HX1.out _ _ Tryz.underlying37 rfl HIC.out
      by_cases hlt : n < L.length
      · have j1 : (n : Int) < (L.length : Int) := by omega
        obtain ⟨x, hx⟩ : ∃ x, L[n]? = some x := ⟨_, List.getElem?_eq_getElem hlt⟩
        have cx : wr.cell? ⟨g, n, none⟩ = some (.string x) := (cell_sameH HXg.out n).trans (HWd.out n x hx)
        have HT1 : Hid (L.take (n + 1) = L.take n ++ [x]) := (by rw [List.take_add_one, hx]; simp : L.take (n + 1) = L.take n ++ [x])
        have HX : Hid (x.size ≤ 1048576) := hxs.out x (List.mem_of_getElem? hx)
        clear hx
        go_wp2_with (first | (refine wpL_load rfl 37 _ rfl _ _ rfl _ HLD.out ?_) | fail)
        refine (HWD.out C HCM.out x HX.out wr (HT.out _ _ HTw.out HXB.out)).mono ?_
        rintro e w2 ⟨D, rfl, ⟨hWT, hDM⟩, g2⟩
        have hgw : g < wr.heap.size := by
          have h := HXg.out
          rw [Array.getElem?_eq_getElem HG.out.2] at h
          exact (Array.getElem?_eq_some_iff.1 h).1
        have l2 := HG.out.1
        have k0 := (g2.block _ (by omega)).trans HX0.out
        have k1 := (g2.block _ (by omega)).trans HX1.out
        have kg := (g2.block _ hgw).trans HXg.out
        have kB := HXB.out.trans (g2.mono HXB.out.size)
        have HID : (Tryz.prog.info? 37).map (·.size) = some D.size := by rw [hDM.size]; exact zero_mem.2
        have HST : Hid ((storeVar 37 ⟨w.heap.size + 1, 0, none⟩ (.agg D)).run Tryz.prog w2 = .ok () (w2.setRow (w.heap.size + 1) D)) := store_all k1 _ _ (HCM.out.size.trans hDM.size.symm) HID hDM.one
        have HY0 : Hid ((w2.setRow (w.heap.size + 1) D).heap[w.heap.size]? = some (.cells Z 37 (0, 0))) := row_beside k0 _ (by omega) _
        have HY1 : Hid ((w2.setRow (w.heap.size + 1) D).heap[w.heap.size + 1]? = some (.cells D 37 (0, 0))) := row_set k1 _
        have HYg : Hid ((w2.setRow (w.heap.size + 1) D).heap[g]? = w1.heap[g]?) := by
          have h1 : g < w2.heap.size := Nat.lt_of_lt_of_le hgw g2.size
          obtain ⟨q, hq⟩ : ∃ q, w2.heap[g]? = some q := ⟨_, Array.getElem?_eq_getElem h1⟩
          show (w2.setRow (w.heap.size + 1) D).heap[g]? = w1.heap[g]?
          rw [← kg, hq]
          exact row_beside hq _ (by omega) _
        have HYB : Hid (Below w.heap.size w (w2.setRow (w.heap.size + 1) D)) := below_setRow kB (by omega) _
        have HDM : Hid (MemOk D) := hDM
        have HFD : Hid (FoldsP PW Z (L.take (n + 1)) D) := (by rw [HT1.out]; exact .snoc HFC.out hWT : FoldsP PW Z (L.take (n + 1)) D)
        clear g2 hWT hDM k0 k1 kg kB HID cx HX0 HX1 HXg HXB HCM HFC HT1 HX HLD HIC hgw l2
        go_wp2_with (first | (refine wpL_store rfl 37 _ _ rfl _ _ rfl _ rfl _ HST.out ?_) | fail)
        go_roundg (gk - 1)
        case measure => omega
        case rel => exact ⟨n + 1, D, by omega, by go_num, HY0, HY1, HYg, HDM, HFD, HYB⟩
      · have j1 : ¬ ((n : Int) < (L.length : Int)) := by omega
        have HFL : Hid (FoldsP PW Z L C) := (by have h := HFC.out; rwa [List.take_of_length_le (by omega)] at h : FoldsP PW Z L C)
        have HGw : Hid (w.heap.size + 2 ≤ wr.heap.size) := (by have := (Array.getElem?_eq_some_iff.1 HX1.out).1; omega : w.heap.size + 2 ≤ wr.heap.size)
        clear hlt hn hlen HWd HXg HG HK0 HK1 HKB HFC
        go_wp2_with (first | (refine wpL_load rfl 37 _ rfl _ _ rfl _ HLD.out ?_) | fail)
        refine (HM.out C HCM.out _ (HT.out _ _ HTw.out HXB.out)).mono ?_
        rintro e w2 ⟨t, rfl, hMT, g2⟩
        have HMT : Hid (MT C t) := hMT
        have HR0 : Hid (w2.heap[w.heap.size]? = some (.cells Z 37 (0, 0))) := (g2.block _ (by have := HGw.out; omega)).trans HX0.out
        have HR1 : Hid (w2.heap[w.heap.size + 1]? = some (.cells C 37 (0, 0))) := (g2.block _ (by have := HGw.out; omega)).trans HX1.out
        have HB2 : Hid (Below w.heap.size w w2) := HXB.out.trans (g2.mono HXB.out.size)
        clear g2 hMT HLD HX0 HX1 HXB HGw
        by_cases hq : t = s
        · have HQ : Hid (QR (.returned (.tuple #[.agg C, .bool true]))) := HQ2.out C t L HLL.out HFL.out HCM.out HMT.out hq
          have hq2 : (t.toList == s.toList) = true := by rw [hq]; simp
          have HLD : Hid ((loadVar 37 ⟨w.heap.size + 1, 0, none⟩).run Tryz.prog w2 = .ok (.agg C) w2) := load_all HR1.out _ _ Tryz.underlying37 rfl HIC.out
          have HSD : Hid ((storeVar 37 ⟨w.heap.size, 0, none⟩ (.agg C)).run Tryz.prog w2 = .ok () (w2.setRow w.heap.size C)) := store_all HR0.out _ _ (HZM.out.size.trans HCM.out.size.symm) HIC.out HCM.out.one
          have HLR : Hid ((loadVar 37 ⟨w.heap.size, 0, none⟩).run Tryz.prog (w2.setRow w.heap.size C) = .ok (.agg C) (w2.setRow w.heap.size C)) := load_all (row_set HR0.out _) _ _ Tryz.underlying37 rfl HIC.out
          have HB : Hid (Below w.heap.size w (w2.setRow w.heap.size C)) := below_setRow HB2.out (Nat.le_refl _) _
          clear hq
          go_wp2_with (first | (refine wpL_load rfl 37 _ rfl _ _ rfl _ HLD.out ?_) | (refine wpL_store rfl 37 _ _ rfl _ _ rfl _ rfl _ HSD.out ?_) | exact ret_rowH rfl rfl rfl HLR.out rfl ⟨HQ.out, HB.out⟩ | fail)
        · have HQ : Hid (QR (.returned (.tuple #[.agg Z, .bool false]))) := HQ3.out C t L HLL.out HFL.out HCM.out HMT.out hq
          have hq2 : (t.toList == s.toList) = false := by
            rw [Lib.toList_data, Lib.toList_data, beq_eq_false_iff_ne]
            exact fun h => hq (by apply ByteArray.ext; apply Array.ext'; exact h)
          have hz := HZZ.out
          have HSD : Hid ((storeVar 37 ⟨w.heap.size, 0, none⟩ (.agg Z)).run Tryz.prog w2 = .ok () (w2.setRow w.heap.size Z)) := store_all HR0.out _ _ rfl HI.out HZM.out.one
          have HLR : Hid ((loadVar 37 ⟨w.heap.size, 0, none⟩).run Tryz.prog (w2.setRow w.heap.size Z) = .ok (.agg Z) (w2.setRow w.heap.size Z)) := load_all (row_set HR0.out _) _ _ Tryz.underlying37 rfl HI.out
          have HB : Hid (Below w.heap.size w (w2.setRow w.heap.size Z)) := below_setRow HB2.out (Nat.le_refl _) _
          clear hq
          go_wp2_with (first | (refine wpL_store rfl 37 _ _ rfl _ _ rfl _ rfl _ HSD.out ?_) | exact ret_rowH rfl rfl rfl HLR.out rfl ⟨HQ.out, HB.out⟩ | fail)
end Go.Proofs.YtjnddfpieogpiaaGreatDoor
/- The program's memWithBit at every operand. -/
namespace Go.Proofs.YtjnddfpieogpiaaGreatDoor
open Go.RowKit Go.Shelf
set_option linter.unusedVariables false

set_option maxRecDepth 10000 in
set_option maxHeartbeats 2000000 in
theorem putb1_i (c : Array Value) (hc : MemOk c) (n p : Int) (b : Bool) (w : World) (hT : KT w) : Calls Tryz.prog 61 #[.agg c, .agg #[.int .i64 1, .int .i64 n, .int .i64 p], .bool b] w fun e w' => e = .returned (.agg (c.setIfInBounds 0 (.int .u32 (bput (word c 0) (pl 1 n) b)))) ∧ Below w.heap.size w w' := by
  have HT : Hid (KT w) := hT
  clear hT
  have HC : Hid (MemOk c) := hc
  obtain ⟨X, hx, x0, x1⟩ := hc.u32 (i := 0) (by omega) rfl
  rw [word_of hx]
  obtain ⟨x, rfl⟩ : ∃ x : Nat, X = x := ⟨X.toNat, by omega⟩
  have hx1 : x < 4294967296 := by omega
  obtain ⟨q0, q1⟩ := pl_lt 1 n (by decide)
  rw [show kZ 1 = 32 from rfl] at q1
  obtain ⟨q, hq⟩ : ∃ q : Nat, pl 1 n = q := ⟨(pl 1 n).toNat, by omega⟩
  rw [hq] at q0 q1
  rw [hq]
  obtain ⟨y, Hy⟩ : ∃ y, Hid (y = bput x q b) := ⟨_, rfl⟩
  rw [← Hy.out]
  have yb := bput_bd x q 32 b (by omega) (by simpa using hx1) (by omega)
  rw [← Hy.out] at yb
  obtain ⟨y0, y1⟩ := yb
  have y2 : y < 4294967296 := by simpa using y1
  obtain ⟨M, HM⟩ : ∃ M : Int, Hid (M = ((2 ^ q : Nat) : Int)) := ⟨_, rfl⟩
  have hm : IntKind.u64.wrap (2 ^ q) = M := by rw [HM.out]; exact mask_eq q (by omega)
  have HTT : Hid (∀ V, Calls Tryz.prog 114 #[.int .u32 (x : Int), .func (.func 113) #[.agg #[.int .u64 M, .bool b]] #[]] V fun e w' => e = .returned (.int .u32 y) ∧ Below V.heap.size V w') := fun V => by
    rw [HM.out, Hy.out]; exact turned32 x q b hx1 (by omega) V
  obtain ⟨C, HCC⟩ : ∃ C, Hid (C = c.setIfInBounds 0 (.int .u32 y)) := ⟨_, rfl⟩
  rw [← HCC.out]
  have HCs : Hid (C.size = 136) := (by rw [HCC.out]; simpa using HC.out.size : C.size = 136)
  have HCo : Hid (C.all (·.oneCell') = true) := (by rw [HCC.out]; exact one_set HC.out.one _ rfl : C.all (·.oneCell') = true)
  have HI : Hid ((Tryz.prog.info? 37).map (·.size) = some C.size) := (by rw [HCs.out]; exact zero_mem.2 : (Tryz.prog.info? 37).map (·.size) = some C.size)
  have hz := zero_mem.1
  obtain ⟨Z, HZ⟩ : ∃ Z, Hid (Z = memZero) := ⟨_, rfl⟩
  rw [← HZ.out] at hz
  have HZs : Hid (Z.size = 136) := (by rw [HZ.out, memZero_size] : Z.size = 136)
  clear hc y1
  go_enter Tryz.func61, Tryz.ntmps61
  go_wp2_with fail
  refine (place_r _ _ _ _ (((HT.out.alloc _).alloc _).alloc _)).mono ?_
  rintro e w1 ⟨rfl, g1⟩
  have b1 : Below w.heap.size w w1 := ((((Below.refl _ _).alloc (Nat.le_refl _) _).alloc (by simp) _).alloc (by simp <;> omega) _).trans (g1.mono (by simp <;> omega))
  have h1 : w1.heap[w.heap.size]? = some (.cells c 37 (0, 0)) := (g1.block _ (by simp <;> omega)).trans (rows3 w _ _ _).1
  have h2 := (g1.block _ (by simp <;> omega)).trans (rows3 w _ _ _).2.1
  have h3 : w1.heap[w.heap.size + 1 + 1]? = some (.cells Z 37 (0, 0)) := (g1.block _ (by simp <;> omega)).trans (rows3 w _ _ _).2.2
  have s3 : w.heap.size + 1 + 1 < w1.heap.size := (Array.getElem?_eq_some_iff.1 h3).1
  have r0 : w1.cell? ⟨w.heap.size + 1, 0, none⟩ = some (.int .i64 1) := (cell_of_row _ _ _ _ _ _ h2).trans rfl
  have r1 : w1.cell? ⟨w.heap.size, 0, none⟩ = some (.int .u32 (x : Int)) := (cell_of_row _ _ _ _ _ _ h1).trans hx
  clear g1 h2 hz
  rw [hq]
  go_wp2_with fail
  refine (HTT.out _).mono ?_
  rintro e w2 ⟨rfl, g2⟩
  have h1' := (g2.block _ (by omega)).trans h1
  have h3' := (g2.block _ (by omega)).trans h3
  have b2 := b1.trans (g2.mono b1.size)
  have r2 : w2.cell? ⟨w.heap.size, 0, none⟩ = some (.int .u32 (x : Int)) := (cell_of_row _ _ _ _ _ _ h1').trans hx
  have f2 : w2.frozen? ⟨w.heap.size, 0, none⟩ = false := by simp [World.frozen?, h1']
  have HR1 : Hid ((w2.setCell ⟨w.heap.size, 0, none⟩ (.int .u32 y)).heap[w.heap.size]? = some (.cells C 37 (0, 0))) := (by rw [HCC.out]; exact row_put h1' _ _ : (w2.setCell ⟨w.heap.size, 0, none⟩ (.int .u32 y)).heap[w.heap.size]? = some (.cells C 37 (0, 0)))
  have HR3 : Hid ((w2.setCell ⟨w.heap.size, 0, none⟩ (.int .u32 y)).heap[w.heap.size + 1 + 1]? = some (.cells Z 37 (0, 0))) := row_other h3' _ _ (by omega) _
  have HLD : Hid ((loadVar 37 ⟨w.heap.size, 0, none⟩).run Tryz.prog (w2.setCell ⟨w.heap.size, 0, none⟩ (.int .u32 y)) = .ok (.agg C) (w2.setCell ⟨w.heap.size, 0, none⟩ (.int .u32 y))) := load_all HR1.out _ _ Tryz.underlying37 rfl HI.out
  have HSD : Hid ((storeVar 37 ⟨w.heap.size + 1 + 1, 0, none⟩ (.agg C)).run Tryz.prog (w2.setCell ⟨w.heap.size, 0, none⟩ (.int .u32 y)) = .ok () ((w2.setCell ⟨w.heap.size, 0, none⟩ (.int .u32 y)).setRow (w.heap.size + 1 + 1) C)) := store_all HR3.out _ _ (HZs.out.trans HCs.out.symm) HI.out HCo.out
  have HB : Hid (Below w.heap.size w ((w2.setCell ⟨w.heap.size, 0, none⟩ (.int .u32 y)).setRow (w.heap.size + 1 + 1) C)) := below_setRow (b2.setCell (p := ⟨w.heap.size, 0, none⟩) (by simp) _) (by omega) _
  clear g2 h1 h3 h1' h3' b1 b2 r0 r1 hq s3
  go_wp2_with (first | (refine wpL_load rfl 37 _ rfl _ _ rfl _ HLD.out ?_) | (refine wpL_store rfl 37 _ _ rfl _ _ rfl _ rfl _ HSD.out ?_) | exact ret_row rfl rfl (row_set HR3.out _) Tryz.underlying37 rfl HI.out rfl ⟨rfl, HB.out⟩ | fail)


/-- The memory with a bit put, inputs too. -/
def putx (c : Array Value) (k n : Int) : Array Value := if k = 1 then c.setIfInBounds 0 (.int .u32 (bput (word c 0) (pl 1 n) true)) else putb c k n true
theorem memOk_putx {c : Array Value} (hc : MemOk c) (k n : Int) : MemOk (putx c k n) := by
  unfold putx
  split
  · obtain ⟨q0, q1⟩ := pl_lt 1 n (by decide)
    rw [show kZ 1 = 32 from rfl] at q1
    have := memOk_x hc (pl 1 n).toNat (by omega)
    rwa [show (((pl 1 n).toNat : Nat) : Int) = pl 1 n by omega] at this
  · exact memOk_putbH hc _ _ _
theorem withx_i (c : Array Value) (hc : MemOk c) (k n p : Int) (w : World) (hT : KT w) : Calls Tryz.prog 61 #[.agg c, .agg #[.int .i64 k, .int .i64 n, .int .i64 p], .bool true] w fun e w' => e = .returned (.agg (putx c k n)) ∧ Below w.heap.size w w' := by
  by_cases hk : k = 1
  · subst hk
    unfold putx
    rw [if_pos rfl]
    exact putb1_i c hc n p true w hT
  · unfold putx
    rw [if_neg hk]
    exact withbit c hc k n p hk true w hT
end Go.Proofs.YtjnddfpieogpiaaGreatDoor
