/- The law FnMemBack: its walk. -/
import Derived.Test.YtjnddfpieogpiaaGreatDoorIg
import Derived.Test.YtjnddfpieogpiaaGreatDoorIeM
import Derived.Test.YtjnddfpieogpiaaGreatDoorSc6M
namespace Go.Proofs.YtjnddfpieogpiaaGreatDoor.Rr
open Go.RowKit Go.Shelf
set_option linter.unusedVariables false

/-- A memory's text is read as that memory. -/
theorem read_back {rt : Nat → List UInt8} (hrt : RtOk rt) {c : Array Value} (hc : MemOk c) {s : ByteArray} (hs : memT rt c = s) {e : Ending} (h : IsMReadP (PWTo prdsH) (fun C t => t = memT rt C) s e) :
    ∃ D, e = .returned (.tuple #[.agg D, .bool true]) ∧ MemOk D ∧ MS D c := by
  have hb := text_bound hrt hc
  rw [hs] at hb
  rcases h with ⟨l, -⟩ | ⟨l, D, t, L, hL, hF, hD, ht, h⟩
  · omega
  have hm := guess_p hrt hc hs hL hF
  have e1 : memT rt D = s := ((text_iff hrt hc hD).2 hm).symm.trans hs
  rcases h with ⟨-, rfl⟩ | ⟨a, -⟩
  · exact ⟨D, rfl, hD, ms_symm hm⟩
  · exact absurd (ht.trans e1) a
theorem isMReadP_form {MT : Array Value → ByteArray → Prop} {PW : Array Value → ByteArray → Array Value → Prop} {s : ByteArray} {e : Ending} (h : IsMReadP PW MT s e) : ∃ (C : Array Value) (b : Bool), e = .returned (.tuple #[.agg C, .bool b]) ∧ MemOk C := by
  rcases h with ⟨_, rfl⟩ | ⟨_, C, t, L, _, _, hC, _, ⟨_, rfl⟩ | ⟨_, rfl⟩⟩
  · exact ⟨_, _, rfl, memOk_zeroH⟩
  · exact ⟨_, _, rfl, hC⟩
  · exact ⟨_, _, rfl, memOk_zeroH⟩

set_option maxRecDepth 10000 in
set_option maxHeartbeats 8000000 in
theorem law_mback {a a2 : Option Addr} {len cap blk off len2 cap2 blk2 off2 : Nat} {z z2 : Nat → Int} (w : World) (hw : TR w) (h : Code0 w a len cap blk off z) (h2 : Code0 w a2 len2 cap2 blk2 off2 z2) :
    Calls Tryz.prog 3 #[.slice a len cap, .slice a2 len2 cap2] w fun e w' => e = .returned (.bool true) ∧ Below w.heap.size w w' := by
  have HW : Hid (TR w) := hw
  obtain ⟨rt, hrt⟩ := rt_ok
  have HRT : Hid (RtOk rt) := hrt
  have hl := h.short
  have hl2 := h2.short
  have i1 : ¬ ((1048576 : Int) < (len : Int)) := by omega
  have i2 : ¬ ((1048576 : Int) < (len2 : Int)) := by omega
  have hz := zero_mem.1
  obtain ⟨Z, HZ⟩ : ∃ Z, Hid (Z = memZero) := ⟨_, rfl⟩
  rw [← HZ.out] at hz
  have HZs : Hid (Z.size = 136) := (by rw [HZ.out, memZero_size] : Z.size = 136)
  have H2 : Hid (Code0 w a2 len2 cap2 blk2 off2 z2) := h2
  clear hw hrt h2 hl hl2
  go_enter Tryz.func3, Tryz.ntmps3
  go_wp2_with fail
  refine (drawmt_r w h).mono ?_
  rintro e w1 ⟨⟨c, hc, rfl⟩, b1⟩
  have HC : Hid (MemOk c) := hc
  have HI : Hid ((Tryz.prog.info? 37).map (·.size) = some c.size) := (by rw [HC.out.size]; exact zero_mem.2 : (Tryz.prog.info? 37).map (·.size) = some c.size)
  obtain ⟨u1, HU1⟩ : ∃ u, Hid (u = (w1.alloc (.cells Z 37)).setRow w1.heap.size c) := ⟨_, rfl⟩
  have HS1 : Hid ((storeVar 37 ⟨w1.heap.size, 0, none⟩ (.agg c)).run Tryz.prog (w1.alloc (.cells Z 37)) = .ok () u1) := by
    rw [HU1.out]; exact store_all (heap_alloc_last _ _) _ _ (HZs.out.trans hc.size.symm) HI.out hc.one
  have hk1 : u1.heap[w1.heap.size]? = some (.cells c 37 (0, 0)) := by rw [HU1.out]; exact row_set (heap_alloc_last _ _) c
  have HB1 : Hid (Below w.heap.size w u1) := (by rw [HU1.out]; exact below_setRow (b1.alloc b1.size _) b1.size _ : Below w.heap.size w u1)
  have HL1 : Hid ((loadVar 37 ⟨w1.heap.size, 0, none⟩).run Tryz.prog u1 = .ok (.agg c) u1) := load_all hk1 _ _ Tryz.underlying37 rfl HI.out
  have HK1 : Hid (u1.heap[w1.heap.size]? = some (.cells c 37 (0, 0))) := hk1
  obtain ⟨s, HS⟩ : ∃ s, Hid (memT rt c = s) := ⟨_, rfl⟩
  have HTX : Hid (Calls Tryz.prog 7 #[.agg c] u1 fun e w' => e = .returned (.string s) ∧ Below u1.heap.size u1 w') := (by rw [← HS.out]; exact text_i HRT.out c HC.out u1 (HW.out.later HB1.out).tabs : Calls Tryz.prog 7 #[.agg c] u1 fun e w' => e = .returned (.string s) ∧ Below u1.heap.size u1 w')
  have hsz : s.size ≤ 6000 := by rw [← HS.out]; exact text_bound HRT.out HC.out
  obtain ⟨g1, HG1⟩ : ∃ g, Hid (g = w1.heap.size) := ⟨_, rfl⟩
  clear hc b1 HU1 hk1 h
  go_wp2_with (first | (refine wpL_store rfl 37 _ _ rfl _ _ rfl _ rfl _ HS1.out ?_) | (refine wpL_load rfl 37 _ rfl _ _ rfl _ HL1.out ?_) | fail)
  refine HTX.out.mono ?_
  rintro e w2 ⟨rfl, b2⟩
  have l1 := (Array.getElem?_eq_some_iff.1 HK1.out).1
  have HK2 : Hid (w2.heap[w1.heap.size]? = some (.cells c 37 (0, 0))) := (b2.block _ l1).trans HK1.out
  have HB2 : Hid (Below w.heap.size w w2) := HB1.out.trans (b2.mono HB1.out.size)
  clear b2 l1 HTX HK1 HB1 HS1 HL1
  go_wp2_with fail
  refine (mread_iH HRT.out s (by omega) w2 (HW.out.later HB2.out)).mono ?_
  rintro e w3 ⟨h3, b3⟩
  obtain ⟨D, rfl, hD, hms⟩ := read_back HRT.out HC.out HS.out h3
  have HD : Hid (MemOk D) := hD
  have HJ : Hid ((Tryz.prog.info? 37).map (·.size) = some D.size) := (by rw [HD.out.size]; exact zero_mem.2 : (Tryz.prog.info? 37).map (·.size) = some D.size)
  have l2 := (Array.getElem?_eq_some_iff.1 HK2.out).1
  have hk3 := (b3.block _ l2).trans HK2.out
  have l3 := (Array.getElem?_eq_some_iff.1 hk3).1
  have hb3 := HB2.out.trans (b3.mono HB2.out.size)
  obtain ⟨u3, HU3⟩ : ∃ u, Hid (u = (w3.alloc (.cells Z 37)).setRow w3.heap.size D) := ⟨_, rfl⟩
  have HS3 : Hid ((storeVar 37 ⟨w3.heap.size, 0, none⟩ (.agg D)).run Tryz.prog (w3.alloc (.cells Z 37)) = .ok () u3) := by
    rw [HU3.out]; exact store_all (heap_alloc_last _ _) _ _ (HZs.out.trans hD.size.symm) HJ.out hD.one
  have k1 : u3.heap[w1.heap.size]? = some (.cells c 37 (0, 0)) := by rw [HU3.out]; exact row_beside (((Below.refl w3.heap.size w3).alloc (Nat.le_refl _) _).block _ l3 |>.trans hk3) _ (by omega) _
  have k2 : u3.heap[w3.heap.size]? = some (.cells D 37 (0, 0)) := by rw [HU3.out]; exact row_set (heap_alloc_last _ _) D
  have HB3 : Hid (Below w.heap.size w u3) := (by rw [HU3.out]; exact below_setRow (hb3.alloc hb3.size _) hb3.size _ : Below w.heap.size w u3)
  have HLc : Hid ((loadVar 37 ⟨w1.heap.size, 0, none⟩).run Tryz.prog u3 = .ok (.agg c) u3) := load_all k1 _ _ Tryz.underlying37 rfl HI.out
  have HLd : Hid ((loadVar 37 ⟨w3.heap.size, 0, none⟩).run Tryz.prog u3 = .ok (.agg D) u3) := load_all k2 _ _ Tryz.underlying37 rfl HJ.out
  have HM : Hid (∀ W, Calls Tryz.prog 9 #[.agg D, .agg c] W fun e w' => e = .returned (.bool true) ∧ Below W.heap.size W w') := fun W => same_m D c hD HC.out true ⟨fun _ => hms, fun _ => rfl⟩ W
  clear h3 b3 hD hms l2 l3 hk3 hb3 HU3 k1 k2 HK2 HB2
  have j1 : ¬ ((6000 : Int) < (s.size : Int)) := by omega
  go_wp2_with (first | (refine wpL_store rfl 37 _ _ rfl _ _ rfl _ rfl _ HS3.out ?_) | (refine wpL_loadW rfl 37 _ rfl _ _ rfl _ HLc.out ?_) | (refine wpL_loadW rfl 37 _ rfl _ _ rfl _ HLd.out ?_) | fail)
  refine (HM.out _).mono ?_
  rintro e w4 ⟨rfl, b4⟩
  have HB4 : Hid (Below w.heap.size w w4) := HB3.out.trans (b4.mono HB3.out.size)
  clear b4 HM HS3 HLc HLd HB3
  go_wp2_with fail
  refine (drawmr_r w4 (H2.out.later HB4.out)).mono ?_
  rintro e w5 ⟨⟨s5, hs5, rfl⟩, b5⟩
  have HB5 : Hid (Below w.heap.size w w5) := HB4.out.trans (b5.mono HB4.out.size)
  clear b5 HB4
  go_wp2_with fail
  refine (mread_iH HRT.out s5 (by omega) w5 (HW.out.later HB5.out)).mono ?_
  rintro e w6 ⟨h6, b6⟩
  have H6 : Hid (IsMReadP (PWTo prdsH) (fun C t => t = memT rt C) s5 e) := h6
  obtain ⟨E, b, rfl, hE⟩ := isMReadP_form h6
  have HE : Hid (MemOk E) := hE
  have IE : Hid ((Tryz.prog.info? 37).map (·.size) = some E.size) := (by rw [HE.out.size]; exact zero_mem.2 : (Tryz.prog.info? 37).map (·.size) = some E.size)
  have hb6 := HB5.out.trans (b6.mono HB5.out.size)
  obtain ⟨u6, HU6⟩ : ∃ u, Hid (u = (w6.alloc (.cells Z 37)).setRow w6.heap.size E) := ⟨_, rfl⟩
  have HS6 : Hid ((storeVar 37 ⟨w6.heap.size, 0, none⟩ (.agg E)).run Tryz.prog (w6.alloc (.cells Z 37)) = .ok () u6) := by
    rw [HU6.out]; exact store_all (heap_alloc_last _ _) _ _ (HZs.out.trans hE.size.symm) IE.out hE.one
  have HK6 : Hid (u6.heap[w6.heap.size]? = some (.cells E 37 (0, 0))) := (by rw [HU6.out]; exact row_set (heap_alloc_last _ _) E : u6.heap[w6.heap.size]? = some (.cells E 37 (0, 0)))
  have HB6 : Hid (Below w.heap.size w u6) := (by rw [HU6.out]; exact below_setRow (hb6.alloc hb6.size _) hb6.size _ : Below w.heap.size w u6)
  clear h6 b6 hE hb6 HU6 HB5
  go_wp2_with (first | (refine wpL_store rfl 37 _ _ rfl _ _ rfl _ rfl _ HS6.out ?_) | fail)
  refine (mread_sH HRT.out s5 (by omega) u6).mono ?_
  rintro e w7 ⟨h7, b7⟩
  obtain ⟨C7, E7, b', rfl, g1, hC7, -, -, hT, -⟩ := reads_alike HRT.out h7 H6.out
  injection g1 with g1
  injection g1 with g1
  have g1 := congrArg Array.toList g1
  simp only [List.cons.injEq, Value.agg.injEq, Value.bool.injEq, and_true] at g1
  obtain ⟨rfl, rfl⟩ := g1
  have HT7 : Hid (b = true → memT rt E = s5) := fun h => (hT h).2.1
  have HC7 : Hid (MemOk C7) := hC7
  have I7 : Hid ((Tryz.prog.info? 37).map (·.size) = some C7.size) := (by rw [HC7.out.size]; exact zero_mem.2 : (Tryz.prog.info? 37).map (·.size) = some C7.size)
  have l6 := (Array.getElem?_eq_some_iff.1 HK6.out).1
  have hk7 := (b7.block _ l6).trans HK6.out
  have l7 := (Array.getElem?_eq_some_iff.1 hk7).1
  have hb7 := HB6.out.trans (b7.mono HB6.out.size)
  obtain ⟨u7, HU7⟩ : ∃ u, Hid (u = (w7.alloc (.cells Z 37)).setRow w7.heap.size C7) := ⟨_, rfl⟩
  have HS7 : Hid ((storeVar 37 ⟨w7.heap.size, 0, none⟩ (.agg C7)).run Tryz.prog (w7.alloc (.cells Z 37)) = .ok () u7) := by
    rw [HU7.out]; exact store_all (heap_alloc_last _ _) _ _ (HZs.out.trans hC7.size.symm) I7.out hC7.one
  have k1 : u7.heap[w6.heap.size]? = some (.cells E 37 (0, 0)) := by rw [HU7.out]; exact row_beside (((Below.refl w7.heap.size w7).alloc (Nat.le_refl _) _).block _ l7 |>.trans hk7) _ (by omega) _
  have HB7 : Hid (Below w.heap.size w u7) := (by rw [HU7.out]; exact below_setRow (hb7.alloc hb7.size _) hb7.size _ : Below w.heap.size w u7)
  have HL7 : Hid ((loadVar 37 ⟨w6.heap.size, 0, none⟩).run Tryz.prog u7 = .ok (.agg E) u7) := load_all k1 _ _ Tryz.underlying37 rfl IE.out
  clear h7 b7 hC7 hT l6 l7 hk7 hb7 HU7 k1 HK6 H6 HS6
  cases b with
  | false =>
    go_wp2_with (first | (refine wpL_store rfl 37 _ _ rfl _ _ rfl _ rfl _ HS7.out ?_) | fail)
    go_ret
    exact ⟨rfl, HB7.out⟩
  | true =>
    have HTE : Hid (Calls Tryz.prog 7 #[.agg E] u7 fun e w' => e = .returned (.string s5) ∧ Below u7.heap.size u7 w') := (by have := text_i HRT.out E HE.out u7 (HW.out.later HB7.out).tabs; rwa [HT7.out rfl] at this : Calls Tryz.prog 7 #[.agg E] u7 fun e w' => e = .returned (.string s5) ∧ Below u7.heap.size u7 w')
    go_wp2_with (first | (refine wpL_store rfl 37 _ _ rfl _ _ rfl _ rfl _ HS7.out ?_) | (refine wpL_loadW rfl 37 _ rfl _ _ rfl _ HL7.out ?_) | fail)
    refine HTE.out.mono ?_
    rintro e w8 ⟨rfl, b8⟩
    have HB8 : Hid (Below w.heap.size w w8) := HB7.out.trans (b8.mono HB7.out.size)
    have hq2 : (s5.toList == s5.toList) = true := by simp
    clear b8 HTE HS7 HL7 HB7
    go_wp2
    go_ret
    exact ⟨rfl, HB8.out⟩

theorem walk_mback (a1 : Option Addr) (len1 cap1 : Nat) (zs1 : List Int) (a2 : Option Addr) (len2 cap2 : Nat) (zs2 : List Int) (w : World) (h1 : IsRow .u8 w a1 len1 cap1 zs1) (h2 : IsRow .u8 w a2 len2 cap2 zs2) (k : KT w) (p : PT w) (t : WT w) (v : EV w) :
    Calls Tryz.prog 3 #[.slice a1 len1 cap1, .slice a2 len2 cap2] w fun e w' => e = .returned (.bool true) ∧ Below w.heap.size w w' := by
  have hw : TR w := ⟨⟨k, p, t⟩, v⟩
  have lim : ∀ (a : Option Addr) (len cap : Nat) (zs : List Int), IsRow .u8 w a len cap zs → len ≤ maxLen := fun a len cap zs h => by
    rcases h with ⟨_, rfl, _⟩ | ⟨_, _, h1, h2, _⟩
    · omega
    · omega
  by_cases hl : len1 ≤ 1048576
  · by_cases hl2 : len2 ≤ 1048576
    · obtain ⟨blk1, off1, z1, hc1⟩ := h1.code hl
      obtain ⟨blk2, off2, z2, hc2⟩ := h2.code hl2
      exact law_mback w hw hc1 hc2
    · have hcap := lim _ _ _ _ h2
      unfold maxLen at hcap
      have i0 : ¬ ((1048576 : Int) < (len1 : Int)) := by omega
      have i1 : (1048576 : Int) < (len2 : Int) := by omega
      clear lim k p t v hw
      go_enter Tryz.func3, Tryz.ntmps3
      go_wp2
      go_ret
      exact ⟨rfl, Below.refl _ _⟩
  · have hcap := lim _ _ _ _ h1
    unfold maxLen at hcap
    have i1 : (1048576 : Int) < (len1 : Int) := by omega
    clear lim k p t v hw
    go_enter Tryz.func3, Tryz.ntmps3
    go_wp2
    go_ret
    exact ⟨rfl, Below.refl _ _⟩
end Go.Proofs.YtjnddfpieogpiaaGreatDoor.Rr
