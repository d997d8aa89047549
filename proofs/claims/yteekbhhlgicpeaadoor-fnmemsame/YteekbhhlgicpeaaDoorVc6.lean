/- MemText of the program. -/
import Derived.Test.YteekbhhlgicpeaaDoorVb6
import Derived.Deep.AppendLies
import Derived.Laws.OwnMore
import Derived.Laws.AppendOwn
import Derived.Deep.Cut
namespace Go.Proofs.YteekbhhlgicpeaaDoor
open Go.RowKit Go.Shelf
open Go.Lib (decDigits itoa)
set_option linter.unusedVariables false

theorem owns_later {W W' : World} {base : Nat} {e : TypeId} {size : Nat} {v : Value} {n : Nat} {xs : List Value} (h : W.ownsRow base e size v n xs) (g : Below W.heap.size W W') : W'.ownsRow base e size v n xs := by
  obtain ⟨h1, h2 | ⟨g', cap, cur, hv, hb, hh, h3, h4, h5, h6⟩⟩ := h
  · exact ⟨h1, .inl h2⟩
  · exact ⟨h1, .inr ⟨g', cap, cur, hv, hb, (g.block _ (Array.getElem?_eq_some_iff.1 hh).1).trans hh, h3, h4, h5, h6⟩⟩
theorem owns_cap {W : World} {base : Nat} {e : TypeId} {size g n cap : Nat} {xs : List Value} (h : W.ownsRow base e size (.slice (some ⟨g, 0, none⟩) n cap) n xs) : n ≤ cap := by
  obtain ⟨_, ⟨h, _⟩ | ⟨g', cap', cur, hv, _, _, h3, _⟩⟩ := h
  · cases h
  · simp only [Value.slice.injEq] at hv; omega
theorem new_one (W : World) (v : Value) : ∀ (q : Nat) (u : Value), [v][q]? = some u → (W.alloc (.cells #[v] 9)).cell? ((⟨W.heap.size, 0, none⟩ : Addr).add q) = some u := by
  intro q u h
  have hq : q = 0 := by have := (List.getElem?_eq_some_iff.1 h).1; simpa using this
  subst hq
  simp at h
  subst h
  simp [Addr.add]
theorem optW_len (b : Bool) (s : ByteArray) : (optW b s).length ≤ 1 := by unfold optW; split <;> simp
def strs (L : List ByteArray) : List Value := L.map Value.string
/-- The words gathered: a row of strings of one's own. -/
def Words (W : World) (base g cap : Nat) (L : List ByteArray) : Prop := W.ownsRow base 9 1 (.slice (some ⟨g, 0, none⟩) L.length cap) L.length (strs L)
theorem Words.later {W W' : World} {base g cap : Nat} {L : List ByteArray} (h : Words W base g cap L) (b : Below W.heap.size W W') : Words W' base g cap L := owns_later h b

set_option maxRecDepth 10000 in
set_option maxHeartbeats 20000000 in
theorem text_inner (c : Array Value) (hc : MemOk c) (V NM : Nat → Nat → ByteArray) (Pd : Nat → Nat → Bool) (WD : Nat → List ByteArray) (TM : ByteArray) (RES : ByteArray) (w : World) (hT : Tabs w)
    (tm : Nat) (ran fault : Bool) (htm : c[133]? = some (.int .u32 tm)) (hran : c[134]? = some (.bool ran)) (hfault : c[135]? = some (.bool fault)) (htm32 : tm < 4294967296)
    (HV : Hid (∀ k n : Nat, 1 ≤ k → k ≤ 10 → n < (kS (k : Int)).toNat → ∀ W, Tabs W → Calls Tryd.prog 19 #[.agg c, .agg #[.int .i64 k, .int .i64 n, .int .i64 0]] W fun e w' => e = .returned (.tuple #[.string (V k n), .bool (Pd k n)]) ∧ Below W.heap.size W w'))
    (HD : Hid (∀ k n : Nat, 1 ≤ k → k ≤ 10 → n < (kS (k : Int)).toNat → ∀ W, Tabs W → Calls Tryd.prog 20 #[.agg #[.int .i64 k, .int .i64 n, .int .i64 0]] W fun e w' => e = .returned (.string (NM k n)) ∧ Below W.heap.size W w'))
    (HZ : Hid (∀ k n : Nat, 1 ≤ k → k ≤ 10 → n < (kS (k : Int)).toNat → (NM k n).size + (V k n).size ≤ 200))
    (HW0 : Hid (WD 0 = []))
    (HWs : Hid (∀ j, WD (j + 1) = accL (WD j) (Pd (j + 1)) (fun n => NM (j + 1) n ++ V (j + 1) n) (kS ((j : Int) + 1)).toNat))
    (HWl : Hid (∀ j, j ≤ 10 → (WD j).length ≤ 64 * j))
    (HTm : Hid (∀ W, Tabs W → Calls Tryd.prog 21 #[.int .u32 tm] W fun e w' => e = .returned (.string TM) ∧ Below W.heap.size W w')) (hTM : TM.size ≤ 100)
    (HJ : Hid (∀ W g cap base, Words W base g cap (WD 10 ++ optW (decide (0 < (tm : Int))) (⟨#[116, 105, 109, 101, 61]⟩ ++ TM) ++ optW ran ⟨#[114, 97, 110]⟩ ++ optW fault ⟨#[102, 97, 117, 108, 116]⟩) → Calls Tryd.prog 22 #[.slice (some ⟨g, 0, none⟩) (WD 10 ++ optW (decide (0 < (tm : Int))) (⟨#[116, 105, 109, 101, 61]⟩ ++ TM) ++ optW ran ⟨#[114, 97, 110]⟩ ++ optW fault ⟨#[102, 97, 117, 108, 116]⟩).length cap, .string ⟨#[32]⟩] W fun e w' => e = .returned (.string RES) ∧ Below W.heap.size W w')) :
    Calls Tryd.prog 7 #[.agg c] w fun e w' => e = .returned (.string RES) ∧ Below w.heap.size w w' := by
  have hinfo : (Tryd.prog.info? 9).map (fun i => (i.zero, i.size, i.bytes)) = some (some (.string ⟨#[]⟩), 1, 16) := by kernel_rfl
  obtain ⟨i0, hi, hzz⟩ := Option.map_eq_some_iff.1 hinfo
  simp only [Prod.mk.injEq] at hzz
  obtain ⟨hz0, hz1, hz2⟩ := hzz
  have HI : Hid (Tryd.prog.info? 9 = some i0 ∧ i0.zero = some (.string ⟨#[]⟩) ∧ i0.size = 1 ∧ i0.bytes = 16) := ⟨hi, hz0, hz1, hz2⟩
  have HIm : Hid ((Tryd.prog.info? 37).map (·.size) = some c.size) := by rw [hc.size]; exact zero_mem.2
  have HTb : Hid (Tabs w) := hT
  have HCt : Hid (c[133]? = some (.int .u32 tm) ∧ c[134]? = some (.bool ran) ∧ c[135]? = some (.bool fault) ∧ tm < 4294967296) := ⟨htm, hran, hfault, htm32⟩
  have HSz : Hid (∀ k W, Tabs W → Calls Tryd.prog 18 #[.int .i64 k] W fun e w' => e = .returned (.int .i64 (kS k)) ∧ Below W.heap.size W w') := fun k W h => impl_size k W h.k
  clear hi hz0 hz1 hz2 hinfo hT htm hran hfault htm32 hc
  go_enter Tryd.func7, Tryd.ntmps7
  go_wp2_with fail
  go_loopg [3, 4] 10 (fun g s i wr => ∃ (j gb cap : Nat), j + g = 10 ∧ i = .int .i64 ((j : Int) + 1) ∧ s = .slice (some ⟨gb, 0, none⟩) (WD j).length cap ∧ Words wr (w.heap.size + 1) gb cap (WD j) ∧ Below w.heap.size w wr ∧ wr.heap[w.heap.size]? = some (.cells c 37 (0, 0)))
  case atStart =>
    refine ⟨0, w.heap.size + 1, 0, by omega, rfl, by rw [HW0.out]; rfl, ?_, ((Below.refl _ _).alloc (Nat.le_refl _) _).alloc (by simp) _, (rows2 w _ _).1⟩
    rw [HW0.out]
    have := World.ownsRow_made (base := w.heap.size + 1) (e := 9) (size := 1) (w.alloc (.cells c 37)) #[] 0 (by simp) (by unfold maxLen; omega) rfl
    simpa [Words, strs] using this
  case round =>
    obtain ⟨j, gb, cap, hj, rfl, rfl, hW, hb, h1⟩ := hrel

    obtain ⟨go, hgo⟩ : ∃ go, go = gk := ⟨_, rfl⟩
    by_cases hlt : j < 10
    · have i1 : (j : Int) + 1 ≤ 10 := by omega
      have HWj : Hid (Words wr (w.heap.size + 1) gb cap (WD j)) := hW
      have HB : Hid (Below w.heap.size w wr) := hb
      have H1 : Hid (wr.heap[w.heap.size]? = some (.cells c 37 (0, 0))) := h1
      have hlen := HWl.out j (by omega)
      clear hb h1 hW
      go_wp2_with fail
      refine (HSz.out _ _ (HTb.out.later HB.out)).mono ?_
      rintro e w1 ⟨rfl, g1⟩
      have HW1 : Hid (Words w1 (w.heap.size + 1) gb cap (WD j)) := HWj.out.later g1
      have HB1 : Hid (Below w.heap.size w w1) := HB.out.trans (g1.mono HB.out.size)
      have H11 : Hid (w1.heap[w.heap.size]? = some (.cells c 37 (0, 0))) := (g1.block _ (Array.getElem?_eq_some_iff.1 H1.out).1).trans H1.out
      have hzb := kS_bd ((j : Int) + 1)
      obtain ⟨z, hz⟩ := Int.eq_ofNat_of_zero_le hzb.1
      have HZz : Hid (z = (kS ((j : Int) + 1)).toNat) := (by rw [hz]; rfl : z = (kS ((j : Int) + 1)).toNat)
      have hz64 : z ≤ 64 := by omega
      rw [hz]
      clear hz hzb g1 HWj HB H1
      go_wp2_with fail
      go_loopg [3, 16] z (fun g s i wr => ∃ (n gb cap : Nat) (L : List ByteArray), n + g = z ∧ i = .int .i64 n ∧ s = .slice (some ⟨gb, 0, none⟩) L.length cap ∧ Hid (Words wr (w.heap.size + 1) gb cap L) ∧ Hid (L = accL (WD j) (Pd (j + 1)) (fun n => NM (j + 1) n ++ V (j + 1) n) n) ∧ L.length ≤ 64 * j + n ∧ Hid (Below w.heap.size w wr) ∧ Hid (wr.heap[w.heap.size]? = some (.cells c 37 (0, 0))))
      case atStart => exact ⟨0, gb, cap, WD j, by omega, rfl, rfl, HW1, rfl, by omega, HB1, H11⟩
      case round =>
        obtain ⟨n, gb, cap, L, hn, rfl, rfl, HW, HL, hLl, HB, H1⟩ := hrel
        by_cases hlz : n < z
        · have i2 : (n : Int) < (z : Int) := by omega
          have hnz : n < (kS (((j + 1 : Nat)) : Int)).toNat := by have := HZz.out; rw [show ((j + 1 : Nat) : Int) = (j : Int) + 1 by omega]; omega
          have HVx : Hid (∀ W, Tabs W → Calls Tryd.prog 19 #[.agg c, .agg #[.int .i64 ((j : Int) + 1), .int .i64 n, .int .i64 0]] W fun e w' => e = .returned (.tuple #[.string (V (j + 1) n), .bool (Pd (j + 1) n)]) ∧ Below W.heap.size W w') := fun W h => HV.out (j + 1) n (by omega) (by omega) hnz W h
          have HDx : Hid (∀ W, Tabs W → Calls Tryd.prog 20 #[.agg #[.int .i64 ((j : Int) + 1), .int .i64 n, .int .i64 0]] W fun e w' => e = .returned (.string (NM (j + 1) n)) ∧ Below W.heap.size W w') := fun W h => HD.out (j + 1) n (by omega) (by omega) hnz W h
          have hzs := HZ.out (j + 1) n (by omega) (by omega) hnz
          have HLs : Hid (Pd (j + 1) n = true → L ++ [NM (j + 1) n ++ V (j + 1) n] = accL (WD j) (Pd (j + 1)) (fun n => NM (j + 1) n ++ V (j + 1) n) (n + 1)) := fun h => by rw [accL_yes h, ← HL.out]
          have HLn : Hid (Pd (j + 1) n = false → L = accL (WD j) (Pd (j + 1)) (fun n => NM (j + 1) n ++ V (j + 1) n) (n + 1)) := fun h => by rw [accL_no h, ← HL.out]
          generalize V (j + 1) n = vv at HVx hzs HLs HLn
          generalize NM (j + 1) n = nn at HDx hzs HLs HLn
          generalize Pd (j + 1) n = pp at HVx HLs HLn
          have z1 : ¬ 9223372036854775807 < nn.size + vv.size := by omega
          have HLd : Hid ((loadVar 37 ⟨w.heap.size, 0, none⟩).run Tryd.prog (wr.alloc (.cells #[.int .i64 ((j : Int) + 1), .int .i64 n, .int .i64 0] 58)) = .ok (.agg c) (wr.alloc (.cells #[.int .i64 ((j : Int) + 1), .int .i64 n, .int .i64 0] 58))) := load_all ((((Below.refl wr.heap.size wr).alloc (Nat.le_refl _) _).block _ (Array.getElem?_eq_some_iff.1 H1.out).1).trans H1.out) _ _ Tryd.underlying37 rfl HIm.out
          have bA : Below w.heap.size w (wr.alloc (.cells #[.int .i64 ((j : Int) + 1), .int .i64 n, .int .i64 0] 58)) := HB.out.alloc HB.out.size _
          have hA := heap_alloc_last wr (.cells #[.int .i64 ((j : Int) + 1), .int .i64 n, .int .i64 0] 58)
          have hA1 := (((Below.refl wr.heap.size wr).alloc (Nat.le_refl _) (.cells #[.int .i64 ((j : Int) + 1), .int .i64 n, .int .i64 0] 58)).block _ (Array.getElem?_eq_some_iff.1 H1.out).1).trans H1.out
          have hWA : Words (wr.alloc (.cells #[.int .i64 ((j : Int) + 1), .int .i64 n, .int .i64 0] 58)) (w.heap.size + 1) gb cap L := HW.out.later ((Below.refl _ _).alloc (Nat.le_refl _) _)
          have szA : (wr.alloc (.cells #[.int .i64 ((j : Int) + 1), .int .i64 n, .int .i64 0] 58)).heap.size = wr.heap.size + 1 := by simp
          have HAA : Hid (Below w.heap.size w (wr.alloc (.cells #[.int .i64 ((j : Int) + 1), .int .i64 n, .int .i64 0] 58)) ∧ (wr.alloc (.cells #[.int .i64 ((j : Int) + 1), .int .i64 n, .int .i64 0] 58)).heap[wr.heap.size]? = some (.cells #[.int .i64 ((j : Int) + 1), .int .i64 n, .int .i64 0] 58 (0, 0)) ∧ (wr.alloc (.cells #[.int .i64 ((j : Int) + 1), .int .i64 n, .int .i64 0] 58)).heap[w.heap.size]? = some (.cells c 37 (0, 0)) ∧ Words (wr.alloc (.cells #[.int .i64 ((j : Int) + 1), .int .i64 n, .int .i64 0] 58)) (w.heap.size + 1) gb cap L ∧ (wr.alloc (.cells #[.int .i64 ((j : Int) + 1), .int .i64 n, .int .i64 0] 58)).heap.size = wr.heap.size + 1) := ⟨bA, hA, hA1, hWA, szA⟩
          clear bA hA hA1 hWA szA hzs hnz HW HB H1 HL
          go_wp2_with (first | (refine wpL_load rfl 37 _ rfl _ _ rfl _ HLd.out ?_) | fail)
          refine (HVx.out _ (HTb.out.later HAA.out.1)).mono ?_
          rintro e w2 ⟨rfl, g2⟩
          obtain ⟨bA, hA, hA1, hWA, szA⟩ := HAA.out
          have h2 := (g2.block _ (by omega)).trans hA
          have HB2 : Hid (Below w.heap.size w w2) := bA.trans (g2.mono bA.size)
          have H12 : Hid (w2.heap[w.heap.size]? = some (.cells c 37 (0, 0))) := (g2.block _ (Array.getElem?_eq_some_iff.1 hA1).1).trans hA1
          have HW2 : Hid (Words w2 (w.heap.size + 1) gb cap L) := hWA.later g2
          have d0 : w2.cell? ⟨wr.heap.size, 0, none⟩ = some (.int .i64 ((j : Int) + 1)) := (cell_of_row _ _ _ _ _ _ h2).trans rfl
          have d1 : w2.cell? ⟨wr.heap.size, 1, none⟩ = some (.int .i64 n) := (cell_of_row _ _ _ _ _ _ h2).trans rfl
          have d2 : w2.cell? ⟨wr.heap.size, 2, none⟩ = some (.int .i64 0) := (cell_of_row _ _ _ _ _ _ h2).trans rfl
          clear bA hA hA1 hWA szA g2 h2 HAA HLd HVx
          cases pp with
          | true =>
            go_wp2_with fail
            refine (HDx.out _ (HTb.out.later HB2.out)).mono ?_
            rintro e w3 ⟨rfl, g3⟩
            have HB3 : Hid (Below w.heap.size w w3) := HB2.out.trans (g3.mono HB2.out.size)
            have H13 : Hid (w3.heap[w.heap.size]? = some (.cells c 37 (0, 0))) := (g3.block _ (Array.getElem?_eq_some_iff.1 H12.out).1).trans H12.out
            have HW3 : Hid (Words w3 (w.heap.size + 1) gb cap L) := HW2.out.later g3
            clear g3 d0 d1 d2 HDx
            have own3 : (w3.alloc (.cells #[.string (nn ++ vv)] 9)).ownsRow (w.heap.size + 1) 9 1 (.slice (some ⟨gb, 0, none⟩) L.length cap) L.length (strs L) := World.ownsRow.alloc HW3.out _
            have news3 : ∀ (q : Nat) (u : Value), [Value.string (nn ++ vv)][q]? = some u → (w3.alloc (.cells #[.string (nn ++ vv)] 9)).cell? ((⟨w3.heap.size, 0, none⟩ : Addr).add q) = some u := new_one w3 _
            go_wp2_with (first | (at_builtin; refine wpList_append_lies _ rfl _ _ 62 rfl (w.heap.size + 1) 9 i0 (.string ⟨#[]⟩) 1 16 Tryd.underlying62 HI.out.1 HI.out.2.1 HI.out.2.2.1 HI.out.2.2.2 rfl (by decide) _ (L).length (strs (L)) rfl own3 ⟨w3.heap.size, 0, none⟩ 1 1 [.string (nn ++ vv)] rfl rfl news3 (by intro u hu; simp at hu; rw [hu]; rfl) (by omega) ?c3 ?c4 ?c5 _ rfl ?_) | fail)
            case c3 => unfold maxLen; omega
            case c4 => omega
            case c5 => have := HB3.out.size; have := (Array.getElem?_eq_some_iff.1 H13.out).1; simp; omega
            intro g cap1 w4 own4 g4 hat hlt4
            have hgb : w.heap.size + 1 ≤ gb := (own3.lt gb rfl).1
            have B4 : Below w.heap.size w w4 := (HB3.out.alloc HB3.out.size _).grown g4 (by have := HB3.out.size; simp; omega) (fun k hk => by simp [Value.ownBlock] at hk; omega)
            have B4' : Below (w.heap.size + 1) (w3.alloc (.cells #[.string (nn ++ vv)] 9)) w4 := (Below.refl _ _).grown g4 (by have := (Array.getElem?_eq_some_iff.1 H13.out).1; simp; omega) (fun k hk => by simp [Value.ownBlock] at hk; omega)
            have h14 : w4.heap[w.heap.size]? = some (.cells c 37 (0, 0)) := (B4'.block _ (by omega)).trans ((((Below.refl w3.heap.size w3).alloc (Nat.le_refl _) _).block _ (Array.getElem?_eq_some_iff.1 H13.out).1).trans H13.out)
            have HW4 : Hid (Words w4 (w.heap.size + 1) g cap1 (L ++ [nn ++ vv])) := by
              show World.ownsRow _ _ _ _ _ _ _
              simpa [strs] using own4
            have HB4 : Hid (Below w.heap.size w w4) := B4
            have H14 : Hid (w4.heap[w.heap.size]? = some (.cells c 37 (0, 0))) := h14
            clear own3 news3 own4 g4 hat hlt4 B4 B4' h14 HB3 H13 HW3 HB2 H12 HW2
            go_wp2
            go_roundg (gk - 1)
            case measure => omega
            case rel => exact ⟨n + 1, g, cap1, L ++ [nn ++ vv], by omega, by simp, by simp, HW4, HLs.out (by simp), by simp; omega, HB4, H14⟩
          | false =>
            clear d0 d1 d2 HDx
            go_wp2
            go_roundg (gk - 1)
            case measure => omega
            case rel => exact ⟨n + 1, gb, cap, L, by omega, by simp, rfl, HW2, HLn.out (by simp), by omega, HB2, H12⟩
        · have i2 : ¬ ((n : Int) < (z : Int)) := by omega
          have hnz : n = z := by omega
          have HLL : Hid (L = WD (j + 1)) := (by rw [HWs.out, HL.out, ← HZz.out, hnz] : L = WD (j + 1))
          go_wp2
          go_roundg (go - 1)
          case measure => omega
          case rel => exact ⟨j + 1, gb, cap, by omega, by simp, by rw [HLL.out], by rw [← HLL.out]; exact HW.out, HB.out, H1.out⟩
    · have hj10 : j = 10 := by omega
      subst hj10
      rw [show (((10 : Nat) : Int) + 1) = 11 from rfl]
      have i1 : ¬ (11 : Int) ≤ 10 := by omega
      have hl10 := HWl.out 10 (by omega)
      have HB : Hid (Below w.heap.size w wr) := hb
      have HW : Hid (Words wr (w.heap.size + 1) gb cap (WD 10)) := hW
      have H1 : Hid (wr.heap[w.heap.size]? = some (.cells c 37 (0, 0))) := h1
      obtain ⟨L0, HL0⟩ : ∃ L, Hid (L = WD 10) := ⟨_, rfl⟩
      rw [← HL0.out] at HW HJ hl10 ⊢
      clear hb hW h1 HL0 HWs HWl HV HD HZ HW0 hlt hj
      have hl0 : L0.length ≤ 640 := hl10
      obtain ⟨L1, HLL1⟩ : ∃ l : List ByteArray, Hid (l = L0 ++ optW (decide (0 < (tm : Int))) (⟨#[116, 105, 109, 101, 61]⟩ ++ TM)) := ⟨_, rfl⟩
      have cc : wr.cell? ⟨w.heap.size, 133, none⟩ = some (.int .u32 tm) := (cell_of_row _ _ _ _ _ _ H1.out).trans HCt.out.1
      go_upto_if 39 with fail
      go_cut [3] from 39 (fun s wc => ∃ gb cap : Nat, s = .slice (some ⟨gb, 0, none⟩) (L1).length cap ∧ Hid (Words wc (w.heap.size + 1) gb cap L1) ∧ Hid (Below w.heap.size w wc) ∧ Hid (wc.heap[w.heap.size]? = some (.cells c 37 (0, 0))))
      case first =>
        by_cases ht : tm = 0
        · have e0 : decide (0 < (tm : Int)) = false := by simp; omega
          have n0 : ((tm : Int) == 0) = true := by simp; omega
          have n1 : ((tm : Int) != 0) = false := by simp; omega
          have hN : L1 = L0 := by rw [HLL1.out, e0]; simp [optW]
          clear cc ht
          go_wp2
          go_meet
          case rel => exact ⟨gb, cap, by rw [hN], by rw [hN]; exact HW, HB, H1⟩
        · have e0 : decide (0 < (tm : Int)) = true := by simp; omega
          have n0 : ((tm : Int) == 0) = false := by simp; omega
          have n1 : ((tm : Int) != 0) = true := by simp; omega
          have HN : Hid (L1 = L0 ++ [⟨#[116, 105, 109, 101, 61]⟩ ++ TM]) := (by rw [HLL1.out, e0]; simp [optW] : L1 = L0 ++ [⟨#[116, 105, 109, 101, 61]⟩ ++ TM])
          have z1 : ¬ 9223372036854775807 < 5 + TM.size := by omega
          go_wp2_with fail
          refine (HTm.out _ (HTb.out.later HB.out)).mono ?_
          rintro e wu ⟨rfl, gu⟩
          have HBu : Hid (Below w.heap.size w wu) := HB.out.trans (gu.mono HB.out.size)
          have H1u : Hid (wu.heap[w.heap.size]? = some (.cells c 37 (0, 0))) := (gu.block _ (Array.getElem?_eq_some_iff.1 H1.out).1).trans H1.out
          have HWu : Hid (Words wu (w.heap.size + 1) gb cap L0) := HW.out.later gu
          clear gu
          clear cc ht
          have ownx : (wu.alloc (.cells #[.string (⟨#[116, 105, 109, 101, 61]⟩ ++ TM)] 9)).ownsRow (w.heap.size + 1) 9 1 (.slice (some ⟨gb, 0, none⟩) L0.length cap) L0.length (strs L0) := World.ownsRow.alloc HWu.out _
          have newsx : ∀ (q : Nat) (u : Value), [Value.string (⟨#[116, 105, 109, 101, 61]⟩ ++ TM)][q]? = some u → (wu.alloc (.cells #[.string (⟨#[116, 105, 109, 101, 61]⟩ ++ TM)] 9)).cell? ((⟨wu.heap.size, 0, none⟩ : Addr).add q) = some u := new_one wu _
          go_wp2_with (first | (at_builtin; refine wpList_append_lies _ rfl _ _ 62 rfl (w.heap.size + 1) 9 i0 (.string ⟨#[]⟩) 1 16 Tryd.underlying62 HI.out.1 HI.out.2.1 HI.out.2.2.1 HI.out.2.2.2 rfl (by decide) _ (L0).length (strs (L0)) rfl ownx ⟨wu.heap.size, 0, none⟩ 1 1 [.string (⟨#[116, 105, 109, 101, 61]⟩ ++ TM)] rfl rfl newsx (by intro u hu; simp at hu; rw [hu]; rfl) (by omega) ?c3 ?c4 ?c5 _ rfl ?_) | fail)
          case c3 => unfold maxLen; omega
          case c4 => omega
          case c5 => have := HBu.out.size; have := (Array.getElem?_eq_some_iff.1 H1u.out).1; simp; omega
          intro gx capx wx owx ggx hatx hltx
          have hgbx : w.heap.size + 1 ≤ gb := (ownx.lt gb rfl).1
          have HBx : Hid (Below w.heap.size w wx) := (HBu.out.alloc HBu.out.size _).grown ggx (by have := HBu.out.size; simp; omega) (fun k hk => by simp [Value.ownBlock] at hk; omega)
          have B4x : Below (w.heap.size + 1) (wu.alloc (.cells #[.string (⟨#[116, 105, 109, 101, 61]⟩ ++ TM)] 9)) wx := (Below.refl _ _).grown ggx (by have := (Array.getElem?_eq_some_iff.1 H1u.out).1; simp; omega) (fun k hk => by simp [Value.ownBlock] at hk; omega)
          have H1x : Hid (wx.heap[w.heap.size]? = some (.cells c 37 (0, 0))) := (B4x.block _ (by omega)).trans ((((Below.refl wu.heap.size wu).alloc (Nat.le_refl _) _).block _ (Array.getElem?_eq_some_iff.1 H1u.out).1).trans H1u.out)
          have HWx : Hid (Words wx (w.heap.size + 1) gx capx (L0 ++ [⟨#[116, 105, 109, 101, 61]⟩ ++ TM])) := by
            show World.ownsRow _ _ _ _ _ _ _
            simpa [strs] using owx
          clear ownx newsx owx ggx hatx hltx B4x
          go_wp2
          go_meet
          case rel => exact ⟨gx, capx, by rw [HN.out]; simp, by rw [HN.out]; exact HWx, HBx, H1x⟩
      case rest =>
        clear cc HW HB H1
        obtain ⟨gb, cap, rfl, HW, HB, H1⟩ := hcut
        have hl1 : L1.length ≤ 641 := by rw [HLL1.out]; have := optW_len (decide (0 < (tm : Int))) (⟨#[116, 105, 109, 101, 61]⟩ ++ TM); simp only [List.length_append]; omega
        obtain ⟨L2, HLL2⟩ : ∃ l : List ByteArray, Hid (l = L1 ++ optW (ran) (⟨#[114, 97, 110]⟩)) := ⟨_, rfl⟩
        have cc : wc.cell? ⟨w.heap.size, 134, none⟩ = some (.bool ran) := (cell_of_row _ _ _ _ _ _ H1.out).trans HCt.out.2.1
        go_upto_if 48 with fail
        go_cut [3] from 48 (fun s wc => ∃ gb cap : Nat, s = .slice (some ⟨gb, 0, none⟩) (L2).length cap ∧ Hid (Words wc (w.heap.size + 1) gb cap L2) ∧ Hid (Below w.heap.size w wc) ∧ Hid (wc.heap[w.heap.size]? = some (.cells c 37 (0, 0))))
        case first =>
          cases hc1 : ran with
          | false =>
            rw [hc1] at cc
            have hN : L2 = L1 := by rw [HLL2.out, hc1]; simp [optW]
            clear cc
            go_wp2
            go_meet
            case rel => exact ⟨gb, cap, by rw [hN], by rw [hN]; exact HW, HB, H1⟩
          | true =>
            rw [hc1] at cc
            have HN : Hid (L2 = L1 ++ [⟨#[114, 97, 110]⟩]) := (by rw [HLL2.out, hc1]; simp [optW] : L2 = L1 ++ [⟨#[114, 97, 110]⟩])
            clear cc
            have ownx : (wc.alloc (.cells #[.string (⟨#[114, 97, 110]⟩)] 9)).ownsRow (w.heap.size + 1) 9 1 (.slice (some ⟨gb, 0, none⟩) L1.length cap) L1.length (strs L1) := World.ownsRow.alloc HW.out _
            have newsx : ∀ (q : Nat) (u : Value), [Value.string (⟨#[114, 97, 110]⟩)][q]? = some u → (wc.alloc (.cells #[.string (⟨#[114, 97, 110]⟩)] 9)).cell? ((⟨wc.heap.size, 0, none⟩ : Addr).add q) = some u := new_one wc _
            go_wp2_with (first | (at_builtin; refine wpList_append_lies _ rfl _ _ 62 rfl (w.heap.size + 1) 9 i0 (.string ⟨#[]⟩) 1 16 Tryd.underlying62 HI.out.1 HI.out.2.1 HI.out.2.2.1 HI.out.2.2.2 rfl (by decide) _ (L1).length (strs (L1)) rfl ownx ⟨wc.heap.size, 0, none⟩ 1 1 [.string (⟨#[114, 97, 110]⟩)] rfl rfl newsx (by intro u hu; simp at hu; rw [hu]; rfl) (by omega) ?c3 ?c4 ?c5 _ rfl ?_) | fail)
            case c3 => unfold maxLen; omega
            case c4 => omega
            case c5 => have := HB.out.size; have := (Array.getElem?_eq_some_iff.1 H1.out).1; simp; omega
            intro gx capx wx owx ggx hatx hltx
            have hgbx : w.heap.size + 1 ≤ gb := (ownx.lt gb rfl).1
            have HBx : Hid (Below w.heap.size w wx) := (HB.out.alloc HB.out.size _).grown ggx (by have := HB.out.size; simp; omega) (fun k hk => by simp [Value.ownBlock] at hk; omega)
            have B4x : Below (w.heap.size + 1) (wc.alloc (.cells #[.string (⟨#[114, 97, 110]⟩)] 9)) wx := (Below.refl _ _).grown ggx (by have := (Array.getElem?_eq_some_iff.1 H1.out).1; simp; omega) (fun k hk => by simp [Value.ownBlock] at hk; omega)
            have H1x : Hid (wx.heap[w.heap.size]? = some (.cells c 37 (0, 0))) := (B4x.block _ (by omega)).trans ((((Below.refl wc.heap.size wc).alloc (Nat.le_refl _) _).block _ (Array.getElem?_eq_some_iff.1 H1.out).1).trans H1.out)
            have HWx : Hid (Words wx (w.heap.size + 1) gx capx (L1 ++ [⟨#[114, 97, 110]⟩])) := by
              show World.ownsRow _ _ _ _ _ _ _
              simpa [strs] using owx
            clear ownx newsx owx ggx hatx hltx B4x
            go_wp2
            go_meet
            case rel => exact ⟨gx, capx, by rw [HN.out]; simp, by rw [HN.out]; exact HWx, HBx, H1x⟩
        case rest =>
          clear cc HW HB H1
          obtain ⟨gb, cap, rfl, HW, HB, H1⟩ := hcut
          have hl2 : L2.length ≤ 642 := by rw [HLL2.out]; have := optW_len (ran) (⟨#[114, 97, 110]⟩); simp only [List.length_append]; omega
          obtain ⟨L3, HLL3⟩ : ∃ l : List ByteArray, Hid (l = L2 ++ optW (fault) (⟨#[102, 97, 117, 108, 116]⟩)) := ⟨_, rfl⟩
          have cc : wc.cell? ⟨w.heap.size, 135, none⟩ = some (.bool fault) := (cell_of_row _ _ _ _ _ _ H1.out).trans HCt.out.2.2.1
          go_upto_if 53 with fail
          go_cut [3] from 53 (fun s wc => ∃ gb cap : Nat, s = .slice (some ⟨gb, 0, none⟩) (L3).length cap ∧ Hid (Words wc (w.heap.size + 1) gb cap L3) ∧ Hid (Below w.heap.size w wc) ∧ Hid (wc.heap[w.heap.size]? = some (.cells c 37 (0, 0))))
          case first =>
            cases hc2 : fault with
            | false =>
              rw [hc2] at cc
              have hN : L3 = L2 := by rw [HLL3.out, hc2]; simp [optW]
              clear cc
              go_wp2
              go_meet
              case rel => exact ⟨gb, cap, by rw [hN], by rw [hN]; exact HW, HB, H1⟩
            | true =>
              rw [hc2] at cc
              have HN : Hid (L3 = L2 ++ [⟨#[102, 97, 117, 108, 116]⟩]) := (by rw [HLL3.out, hc2]; simp [optW] : L3 = L2 ++ [⟨#[102, 97, 117, 108, 116]⟩])
              clear cc
              have ownx : (wc.alloc (.cells #[.string (⟨#[102, 97, 117, 108, 116]⟩)] 9)).ownsRow (w.heap.size + 1) 9 1 (.slice (some ⟨gb, 0, none⟩) L2.length cap) L2.length (strs L2) := World.ownsRow.alloc HW.out _
              have newsx : ∀ (q : Nat) (u : Value), [Value.string (⟨#[102, 97, 117, 108, 116]⟩)][q]? = some u → (wc.alloc (.cells #[.string (⟨#[102, 97, 117, 108, 116]⟩)] 9)).cell? ((⟨wc.heap.size, 0, none⟩ : Addr).add q) = some u := new_one wc _
              go_wp2_with (first | (at_builtin; refine wpList_append_lies _ rfl _ _ 62 rfl (w.heap.size + 1) 9 i0 (.string ⟨#[]⟩) 1 16 Tryd.underlying62 HI.out.1 HI.out.2.1 HI.out.2.2.1 HI.out.2.2.2 rfl (by decide) _ (L2).length (strs (L2)) rfl ownx ⟨wc.heap.size, 0, none⟩ 1 1 [.string (⟨#[102, 97, 117, 108, 116]⟩)] rfl rfl newsx (by intro u hu; simp at hu; rw [hu]; rfl) (by omega) ?c3 ?c4 ?c5 _ rfl ?_) | fail)
              case c3 => unfold maxLen; omega
              case c4 => omega
              case c5 => have := HB.out.size; have := (Array.getElem?_eq_some_iff.1 H1.out).1; simp; omega
              intro gx capx wx owx ggx hatx hltx
              have hgbx : w.heap.size + 1 ≤ gb := (ownx.lt gb rfl).1
              have HBx : Hid (Below w.heap.size w wx) := (HB.out.alloc HB.out.size _).grown ggx (by have := HB.out.size; simp; omega) (fun k hk => by simp [Value.ownBlock] at hk; omega)
              have B4x : Below (w.heap.size + 1) (wc.alloc (.cells #[.string (⟨#[102, 97, 117, 108, 116]⟩)] 9)) wx := (Below.refl _ _).grown ggx (by have := (Array.getElem?_eq_some_iff.1 H1.out).1; simp; omega) (fun k hk => by simp [Value.ownBlock] at hk; omega)
              have H1x : Hid (wx.heap[w.heap.size]? = some (.cells c 37 (0, 0))) := (B4x.block _ (by omega)).trans ((((Below.refl wc.heap.size wc).alloc (Nat.le_refl _) _).block _ (Array.getElem?_eq_some_iff.1 H1.out).1).trans H1.out)
              have HWx : Hid (Words wx (w.heap.size + 1) gx capx (L2 ++ [⟨#[102, 97, 117, 108, 116]⟩])) := by
                show World.ownsRow _ _ _ _ _ _ _
                simpa [strs] using owx
              clear ownx newsx owx ggx hatx hltx B4x
              go_wp2
              go_meet
              case rel => exact ⟨gx, capx, by rw [HN.out]; simp, by rw [HN.out]; exact HWx, HBx, H1x⟩
          case rest =>
            clear cc HW HB H1
            obtain ⟨gb, cap, rfl, HW, HB, H1⟩ := hcut
            have HJx : Hid (Calls Tryd.prog 22 #[.slice (some ⟨gb, 0, none⟩) L3.length cap, .string ⟨#[32]⟩] wc fun e w' => e = .returned (.string RES) ∧ Below wc.heap.size wc w') := by
              have := HJ.out wc gb cap (w.heap.size + 1)
              rw [← HLL1.out, ← HLL2.out, ← HLL3.out] at this
              exact this HW.out
            clear HJ
            go_wp2_with fail
            refine HJx.out.mono ?_
            rintro e wz ⟨rfl, gz⟩
            have bz := HB.out.trans (gz.mono HB.out.size)
            clear gz
            go_wp2
            go_ret
            exact ⟨rfl, bz⟩
end Go.Proofs.YteekbhhlgicpeaaDoor

