/- Draws: a memory; the text of one, spoilt or not. How long a memory's text is at most. -/
import Derived.Test.YtjnddfpieogpiaaGreatDoorIeM
import Derived.Test.YtjnddfpieogpiaaGreatDoorOa
namespace Go.Proofs.YtjnddfpieogpiaaGreatDoor.Rr
open Go.RowKit
open Go.Lib (decDigits itoa)
set_option linter.unusedVariables false

theorem dec_nine (u : Nat) (hu : u ≤ 999999999) : (tx (decDigits u)).size ≤ 9 := by rw [tx_size]; exact dec_len9 u hu
theorem itoa_nine (n : Nat) (hn : n ≤ 999999999) : (tx (itoa (n : Int))).size ≤ 9 := by
  rw [Lib.itoa_nonneg]; exact dec_nine n hn
theorem itoa_ten (m : Int) (h0 : -32768 ≤ m) (h1 : m < 32768) : (tx (itoa m)).size ≤ 10 := by
  by_cases h : 0 ≤ m
  · obtain ⟨n, rfl⟩ := Int.eq_ofNat_of_zero_le h
    have := itoa_nine n (by omega)
    omega
  · obtain ⟨n, hn⟩ : ∃ n : Nat, m = -(n : Int) := ⟨(-m).toNat, by omega⟩
    rw [hn, Lib.itoa_neg n (by omega), tx_size, List.length_cons]
    have := dec_nine n (by omega)
    rw [tx_size] at this
    omega
theorem acc_bound (s : ByteArray) (p : Nat → Bool) (t : Nat → ByteArray) (z : Nat) : ∀ n, (∀ i, i < n → (t i).size ≤ z) → (acc s p t n).size ≤ s.size + z * n
  | 0, _ => by simp [acc]
  | n + 1, h => by
    have ih := acc_bound s p t z n (fun i hi => h i (by omega))
    have := h n (by omega)
    unfold acc
    split
    · rw [ByteArray.size_append, Nat.mul_succ]; omega
    · rw [Nat.mul_succ]; omega
theorem dv_bound (k : Int) (n : Nat) (T : ByteArray) (z : Nat) (hn : n ≤ 1000) (hT : T.size ≤ z) : (dvT k n T).size ≤ 11 + z := by
  have h1 := kL_small6 k
  have h2 := itoa_nine n (by omega)
  have h3 : (⟨#[32]⟩ : ByteArray).size = 1 := rfl
  unfold dvT
  rw [ByteArray.size_append, ByteArray.size_append, ByteArray.size_append, h3]
  omega
theorem bits_bound (c : Array Value) (k : Nat) (N : Nat) (hN : kS (k : Int) = N) (h64 : N ≤ 64) : (bitsT c (k : Int)).size ≤ 11 * N := by
  unfold bitsT
  rw [hN, Int.toNat_natCast]
  have := acc_bound ⟨#[]⟩ (fun n => mbit c (k : Int) n) (fun n => dvT (k : Int) n ⟨#[]⟩) 11 N (fun i hi => dv_bound _ _ _ 0 (by omega) (Nat.le_refl _))
  have h0 : (⟨#[]⟩ : ByteArray).size = 0 := rfl
  rw [h0] at this
  omega
theorem kinds_bound (c : Array Value) : (kindsT c 5).size ≤ 1936 := by
  have e : kindsT c 5 = kindsT c 0 ++ bitsT c ((1 : Nat) : Int) ++ bitsT c ((2 : Nat) : Int) ++ bitsT c ((3 : Nat) : Int) ++ bitsT c ((4 : Nat) : Int) ++ bitsT c ((5 : Nat) : Int) := rfl
  have h0 : (kindsT c 0).size = 0 := rfl
  have h1 := bits_bound c 1 32 rfl (by omega)
  have h2 := bits_bound c 2 32 rfl (by omega)
  have h3 := bits_bound c 3 64 rfl (by omega)
  have h4 := bits_bound c 4 16 rfl (by omega)
  have h5 := bits_bound c 5 32 rfl (by omega)
  rw [e, ByteArray.size_append, ByteArray.size_append, ByteArray.size_append, ByteArray.size_append, ByteArray.size_append, h0]
  omega
theorem one61 : (⟨#[61]⟩ : ByteArray).size = 1 := rfl
theorem mark_one (b : Bool) (g : UInt8) : (markT b ⟨#[g]⟩).size ≤ 1 := markT_size b _
theorem u16_nine {m : Int} (h : 0 ≤ m ∧ m < 65536) : (tx (itoa m)).size ≤ 9 := by
  obtain ⟨n, rfl⟩ := Int.eq_ofNat_of_zero_le h.1
  exact itoa_nine n (by omega)
theorem tim_bound {c : Array Value} (hc : MemOk c) (n : Nat) (hn : n < 16) : (timT c n).size ≤ 22 := by
  obtain ⟨b, m, hb, hm, hmr, -, e⟩ := timer_at hc hn
  rw [e]
  refine Nat.le_trans (dv_bound _ _ _ 11 (by omega) ?_) (by omega)
  have h1 := u16_nine hmr
  have h2 := mark_one b 33
  rw [ByteArray.size_append, ByteArray.size_append, one61]; omega
theorem cnt_bound {c : Array Value} (hc : MemOk c) (n : Nat) (hn : n < 16) : (cntT c n).size ≤ 23 := by
  obtain ⟨b, l, m, hb, hl, hm, hmr, -, e⟩ := counter_at hc hn
  rw [e]
  refine Nat.le_trans (dv_bound _ _ _ 12 (by omega) ?_) (by omega)
  have h1 := u16_nine hmr
  have h2 := mark_one b 33
  have h3 := mark_one l 43
  rw [ByteArray.size_append, ByteArray.size_append, ByteArray.size_append, one61]; omega
theorem dat_bound {c : Array Value} (hc : MemOk c) (n : Nat) (hn : n < 32) : (datT c n).size ≤ 22 := by
  obtain ⟨m, hm, hmr, -, e⟩ := data_at hc hn
  rw [e]
  refine Nat.le_trans (dv_bound _ _ _ 11 (by omega) ?_) (by omega)
  have h1 := itoa_ten m hmr.1 hmr.2
  rw [ByteArray.size_append, one61]; omega
theorem rea_bound {rt : Nat → List UInt8} (hrt : RtOk rt) {c : Array Value} (hc : MemOk c) (n : Nat) (hn : n < 16) : (reaT rt c n).size ≤ 63 := by
  obtain ⟨x, hx, hxb, -, e⟩ := real_at rt hc hn
  rw [e]
  refine Nat.le_trans (dv_bound _ _ _ 52 (by omega) ?_) (by omega)
  have h1 := rt_size hrt x
  rw [ByteArray.size_append, one61]; omega
/-- A memory's text is at most so long. -/
theorem text_bound {rt : Nat → List UInt8} (hrt : RtOk rt) {c : Array Value} (hc : MemOk c) : (memT rt c).size ≤ 6000 := by
  have hsp : (spaced rt c).size ≤ 5000 := by
    obtain ⟨m, hm, m0, m1⟩ := hc.u32 (i := 133) (by omega) rfl
    have k0 := kinds_bound c
    have k1 := acc_bound (kindsT c 5) (timP c) (timT c) 22 16 (fun i hi => tim_bound hc i hi)
    have k2 := acc_bound (acc (kindsT c 5) (timP c) (timT c) 16) (cntP c) (cntT c) 23 16 (fun i hi => cnt_bound hc i hi)
    have k3 := acc_bound (acc (acc (kindsT c 5) (timP c) (timT c) 16) (cntP c) (cntT c) 16) (datP c) (datT c) 22 32 (fun i hi => dat_bound hc i hi)
    have k4 := acc_bound (acc (acc (acc (kindsT c 5) (timP c) (timT c) 16) (cntP c) (cntT c) 16) (datP c) (datT c) 32) (reaP rt c) (reaT rt c) 63 16 (fun i hi => rea_bound hrt hc i hi)
    have hi := itoa_small6 m.toNat (by omega)
    rw [Int.toNat_of_nonneg m0] at hi
    have q1 := markT_size (decide (0 < word c 133)) (⟨#[116, 105, 109, 101, 61]⟩ ++ tx (itoa (word c 133)) ++ ⟨#[32]⟩)
    have q2 := markT_size (flag c 134) ⟨#[114, 97, 110, 32]⟩
    have q3 := markT_size (flag c 135) ⟨#[102, 97, 117, 108, 116, 32]⟩
    have z1 : (⟨#[116, 105, 109, 101, 61]⟩ : ByteArray).size = 5 := rfl
    have z2 : (⟨#[32]⟩ : ByteArray).size = 1 := rfl
    have z3 : (⟨#[114, 97, 110, 32]⟩ : ByteArray).size = 4 := rfl
    have z4 : (⟨#[102, 97, 117, 108, 116, 32]⟩ : ByteArray).size = 6 := rfl
    rw [word_of hm, ByteArray.size_append, ByteArray.size_append, z1, z2] at q1
    rw [z3] at q2
    rw [z4] at q3
    unfold spaced
    rw [ByteArray.size_append, ByteArray.size_append, ByteArray.size_append, word_of hm]
    omega
  unfold memT
  split
  · decide
  · have := ByteArray.size_extract (a := spaced rt c) (b := 0) (e := (spaced rt c).size - 1)
    omega

set_option maxRecDepth 10000 in
set_option maxHeartbeats 2000000 in
theorem drawmt_r {a : Option Addr} {len cap blk off : Nat} {z : Nat → Int} (w : World) (h : Code0 w a len cap blk off z) :
    Calls Tryz.prog 6 #[.slice a len cap] w fun e w' => IsMem e ∧ Below w.heap.size w w' := by
  have hz := zero_mem.1
  obtain ⟨Z, HZ⟩ : ∃ Z, Hid (Z = memZero) := ⟨_, rfl⟩
  rw [← HZ.out] at hz
  have HZs : Hid (Z.size = 136) := (by rw [HZ.out, memZero_size] : Z.size = 136)
  go_enter Tryz.func6, Tryz.ntmps6
  go_wp2_with fail
  refine ((h.later ((Below.refl _ _).alloc (Nat.le_refl _) _)).open).mono ?_
  rintro e w1 ⟨rfl, h1, g1⟩
  simp only [World.size_alloc] at h1 g1 ⊢
  have k1 : w1.heap[w.heap.size]? = some (.cells Z 37 (0, 0)) := (g1.block _ (by simp)).trans (heap_alloc_last _ _)
  have b1 : Below w.heap.size w w1 := ((Below.refl _ _).alloc (Nat.le_refl _) _).trans (g1.mono (by omega))
  clear g1
  have hB1 := h1.2.1
  go_wp2_with fail
  refine (draw5_r _ _ 0 _ h1 (by omega)).mono ?_
  rintro e w2 ⟨⟨c, hc, rfl⟩, -, g2⟩
  have b2 : Below w.heap.size w w2 := b1.grown g2 (by omega) (fun j hj => by cases hj; omega)
  have k2 : w2.heap[w.heap.size]? = some (.cells Z 37 (0, 0)) := (g2.block _ (by omega) (by simp)).trans k1
  have HI : Hid ((Tryz.prog.info? 37).map (·.size) = some c.size) := (by rw [hc.size]; exact zero_mem.2 : (Tryz.prog.info? 37).map (·.size) = some c.size)
  have HSD : Hid ((storeVar 37 ⟨w.heap.size, 0, none⟩ (.agg c)).run Tryz.prog w2 = .ok () (w2.setRow w.heap.size c)) := store_all k2 _ _ (HZs.out.trans hc.size.symm) HI.out hc.one
  have HK : Hid ((w2.setRow w.heap.size c).heap[w.heap.size]? = some (.cells c 37 (0, 0))) := row_set k2 _
  have HB : Hid (Below w.heap.size w (w2.setRow w.heap.size c)) := below_setRow b2 (Nat.le_refl _) _
  have HC : Hid (MemOk c) := hc
  clear g2 h1 b1 k1 b2 k2 hc hz
  go_wp2_with (first | (refine wpL_store rfl 37 _ _ rfl _ _ rfl _ rfl _ HSD.out ?_) | exact ret_row rfl rfl HK.out Tryz.underlying37 rfl HI.out rfl ⟨⟨c, HC.out, rfl⟩, HB.out⟩ | fail)

def textsA5 : List ByteArray := [⟨#[]⟩, ⟨#[32]⟩, ⟨#[88, 49, 32, 88, 48]⟩, ⟨#[88, 48, 32, 88, 48]⟩, ⟨#[88, 51, 50]⟩, ⟨#[71, 50]⟩, ⟨#[84, 49, 61, 48]⟩, ⟨#[84, 49, 61, 48, 33]⟩, ⟨#[84, 49, 61, 53, 33, 32]⟩, ⟨#[67, 49, 61, 48, 43]⟩, ⟨#[67, 49, 61, 48, 33, 43]⟩, ⟨#[67, 49, 61, 48, 43, 33]⟩, ⟨#[68, 49, 61, 48]⟩, ⟨#[68, 49, 61, 51, 50, 55, 54, 56]⟩, ⟨#[68, 49, 61, 45, 49]⟩, ⟨#[68, 49, 61, 53, 33]⟩, ⟨#[82, 49, 61, 48]⟩, ⟨#[82, 49, 61, 45, 48]⟩, ⟨#[82, 49, 61, 110, 97, 110]⟩, ⟨#[82, 49, 61, 51]⟩, ⟨#[82, 49, 61, 51, 42, 50, 94, 48]⟩, ⟨#[116, 105, 109, 101, 61, 48]⟩, ⟨#[116, 105, 109, 101, 61, 52, 50, 57, 52, 57, 54, 55, 50, 57, 53]⟩, ⟨#[116, 105, 109, 101, 61, 52, 50, 57, 52, 57, 54, 55, 50, 57, 54]⟩, ⟨#[116, 105, 109, 101, 61, 45, 49]⟩, ⟨#[114, 97, 110, 32, 102, 97, 117, 108, 116]⟩, ⟨#[102, 97, 117, 108, 116, 32, 114, 97, 110]⟩, ⟨#[114, 97, 110, 32, 114, 97, 110]⟩, ⟨#[84, 49, 61, 54, 53, 53, 51, 54]⟩, ⟨#[84, 49, 61, 45, 49]⟩, ⟨#[88, 48, 32, 32, 88, 49]⟩, ⟨#[120, 48]⟩, ⟨#[84, 49]⟩, ⟨#[88, 49, 61, 49]⟩, ⟨#[116, 105, 109, 101, 61, 49, 32, 88, 48]⟩]
def textsB5 : List ByteArray := [⟨#[32]⟩, ⟨#[33]⟩, ⟨#[32, 114, 97, 110]⟩, ⟨#[32, 88, 48]⟩, ⟨#[48]⟩]
def textsC5 : List ByteArray := [⟨#[]⟩, ⟨#[32]⟩, ⟨#[88]⟩, ⟨#[49]⟩]
theorem texts_small5 : (∀ v ∈ textsA5, v.size ≤ 20) ∧ (∀ v ∈ textsB5, v.size ≤ 20) ∧ (∀ v ∈ textsC5, v.size ≤ 20) := by
  refine ⟨?_, ?_, ?_⟩ <;> decide +kernel
theorem rowS5 (w : World) (xs : List ByteArray) (t : TypeId) : ∀ j x, xs[j]? = some x → (w.alloc (.cells (xs.map Value.string).toArray t)).cell? ⟨w.heap.size, j, none⟩ = some (.string x) := by
  intro j x hj
  rw [World.cell?_alloc_at _ _ _ _ rfl]
  simp [hj]
def IsText5 (e : Ending) : Prop := ∃ s : ByteArray, s.size ≤ 20000 ∧ e = .returned (.string s)

set_option maxRecDepth 100000 in
set_option maxHeartbeats 4000000 in
theorem drawmr_r {a : Option Addr} {len cap blk off : Nat} {z : Nat → Int} (w : World) (h : Code0 w a len cap blk off z) :
    Calls Tryz.prog 10 #[.slice a len cap] w fun e w' => IsText5 e ∧ Below w.heap.size w w' := by
  obtain ⟨rt, hrt⟩ := rt_ok
  go_enter Tryz.func10, Tryz.ntmps10
  go_wp2_with fail
  refine h.open.mono ?_
  rintro e w1 ⟨rfl, h1, b1⟩
  have hB1 := h1.2.1
  go_wp2_with fail
  refine (draw5_r _ _ 0 _ h1 (by omega)).mono ?_
  rintro e w2 ⟨⟨c, hc, rfl⟩, ⟨q, hq, h2⟩, g2⟩
  have b2 : Below w.heap.size w w2 := b1.grown g2 (by omega) (fun j hj => by cases hj; omega)
  have hsm := text_bound hrt hc
  have HX : Hid (Calls Tryz.prog 31 #[.agg c] w2 fun e w' => e = .returned (.string (memT rt c)) ∧ Below w2.heap.size w2 w') := text_s hrt c hc w2
  obtain ⟨X, HXX⟩ : ∃ X, Hid (X = memT rt c) := ⟨_, Eq.refl (memT rt c)⟩
  rw [← HXX.out] at HX hsm
  clear HXX g2 h1 b1 hc hrt
  go_wp2_with fail
  refine HX.out.mono ?_
  rintro e w3 ⟨rfl, g3⟩
  have h3 := h2.later g3
  have b3 := b2.trans (g3.mono b2.size)
  clear g3 h2 b2 HX
  go_wp2_with fail
  refine (pick_r _ _ q 9 _ h3 (by omega) (by omega) (by omega)).mono ?_
  rintro e w4 ⟨t, t1, rfl, h4, g4⟩
  have hB3 := h3.2.1
  have b4 : Below w.heap.size w w4 := b3.grown g4 (by omega) (fun j hj => by cases hj; omega)
  have hB4 := h4.2.1
  clear g4 h3 b3
  by_cases t0 : t = 0
  · subst t0
    go_wp2_with fail
    refine (of_r _ _ (q + 1) w4.heap.size textsA5 35 _ (h4.alloc _) (by decide) (by decide) (by omega) (by omega) (by exact rowS5 w4 textsA5 9)).mono ?_
    rintro e w5 ⟨v, hv, rfl, h5, g5⟩
    have hv' := texts_small5.1 v hv
    have b5 : Below w.heap.size w w5 := (b4.alloc (by omega) _).grown g5 (by simp; omega) (fun j hj => by cases hj; omega)
    clear g5 b4 hv
    go_wp2
    go_ret
    exact ⟨⟨v, by omega, rfl⟩, b5⟩
  · have t0' : ((t : Int) == 0) = false := by rw [beq_eq_false_iff_ne]; omega
    by_cases t2 : t = 1
    · subst t2
      go_wp2_with fail
      refine (of_r _ _ (q + 1) w4.heap.size textsB5 5 _ (h4.alloc _) (by decide) (by decide) (by omega) (by omega) (by exact rowS5 w4 textsB5 9)).mono ?_
      rintro e w5 ⟨v, hv, rfl, h5, g5⟩
      have hv' := texts_small5.2.1 v hv
      have b5 : Below w.heap.size w w5 := (b4.alloc (by omega) _).grown g5 (by simp; omega) (fun j hj => by cases hj; omega)
      clear g5 b4 hv
      go_wp2
      go_ret
      exact ⟨⟨X ++ v, by rw [ByteArray.size_append]; omega, rfl⟩, b5⟩
    · have t2' : ((t : Int) == 1) = false := by rw [beq_eq_false_iff_ne]; omega
      by_cases t3 : t = 2
      · subst t3
        have hx0 : IntKind.i64.wrap ((X.size : Int) + 1) = (X.size : Int) + 1 := wrapH _ (by omega) (by omega)
        go_wp2_with fail
        refine (pick_r _ _ (q + 1) ((X.size : Int) + 1) _ h4 (by omega) (by omega) (by omega)).mono ?_
        rintro e w5 ⟨kk, hk, rfl, h5, g5⟩
        have b5 : Below w.heap.size w w5 := b4.grown g5 (by omega) (fun j hj => by cases hj; omega)
        have hB5 := h5.2.1
        have hkX : kk ≤ X.size := by omega
        clear g5 b4 h4
        obtain ⟨A, HAA⟩ : ∃ A, Hid (A = X.extract 0 kk) := ⟨_, rfl⟩
        obtain ⟨B, HBB⟩ : ∃ B, Hid (B = X.extract kk X.size) := ⟨_, rfl⟩
        have hA : A.size ≤ 6000 := by rw [HAA.out, ByteArray.size_extract]; omega
        have hB : B.size ≤ 6000 := by rw [HBB.out, ByteArray.size_extract]; omega
        go_upto_region 10 with fail
        refine region_cut (R := fun a' W => ∃ v : ByteArray, v.size ≤ 20 ∧ Below w.heap.size w W ∧ a' = ⟨#[.slice a len cap, undef, .string (A ++ v ++ B), .pointer (some ⟨w.heap.size, 0, none⟩), .string X, .int .i64 (kk : Int), .slice a len cap, .pointer (some ⟨w.heap.size, 0, none⟩), .pointer (some ⟨w.heap.size, 0, none⟩), .agg c, .string X, .pointer (some ⟨w.heap.size, 0, none⟩), .int .i64 2, .bool false, .bool false, undef, undef, undef, .bool false, .bool false, undef, undef, undef, undef, undef, .bool true, .bool true, .pointer (some ⟨w.heap.size, 0, none⟩), .string X, .int .i64 (X.size : Int), .int .i64 ((X.size : Int) + 1), .int .i64 (kk : Int), .string X, .int .i64 (kk : Int), .string A, .pointer (some ⟨w.heap.size, 0, none⟩), .slice (some ⟨w5.heap.size, 0, none⟩) 4 4, .string v, .string (A ++ v), .string X, .int .i64 (kk : Int), .string B, .string (A ++ v ++ B), undef], []⟩) ?_ ?_
        · refine wp_region_held_drew (S := fun _ => True) (by kernel_rfl) trivial (fun S0 => ?_)
          show wpAnyH _ _ _ _ _ 12 #[false, false, false, false, false, false, false, false, false, false, false, false] _ _
          refine tk_val' (i := 0) rfl (by kernel_rfl) (by kernel_rfl) (by kernel_rfl) (fun _ _ _ _ h => nomatch h.1) rfl (.string X) (fun W _ => by go_simp) S0 #[true, false, false, false, false, false, false, false, false, false, false, false] rfl ⟨#[.slice a len cap, undef, .string ⟨#[]⟩, .pointer (some ⟨w.heap.size, 0, none⟩), .string X, .int .i64 (kk : Int), .slice a len cap, .pointer (some ⟨w.heap.size, 0, none⟩), .pointer (some ⟨w.heap.size, 0, none⟩), .agg c, .string X, .pointer (some ⟨w.heap.size, 0, none⟩), .int .i64 2, .bool false, .bool false, undef, undef, undef, .bool false, .bool false, undef, undef, undef, undef, undef, .bool true, .bool true, .pointer (some ⟨w.heap.size, 0, none⟩), .string X, .int .i64 (X.size : Int), .int .i64 ((X.size : Int) + 1), .int .i64 (kk : Int), .string X, undef, undef, undef, undef, undef, undef, undef, undef, undef, undef, undef], []⟩ rfl ?_
          refine tk_val' (i := 1) rfl (by kernel_rfl) (by kernel_rfl) (by kernel_rfl) (fun _ _ _ _ h => nomatch h.1) rfl (.int .i64 (kk : Int)) (fun W _ => by go_simp) S0 #[true, true, false, false, false, false, false, false, false, false, false, false] rfl ⟨#[.slice a len cap, undef, .string ⟨#[]⟩, .pointer (some ⟨w.heap.size, 0, none⟩), .string X, .int .i64 (kk : Int), .slice a len cap, .pointer (some ⟨w.heap.size, 0, none⟩), .pointer (some ⟨w.heap.size, 0, none⟩), .agg c, .string X, .pointer (some ⟨w.heap.size, 0, none⟩), .int .i64 2, .bool false, .bool false, undef, undef, undef, .bool false, .bool false, undef, undef, undef, undef, undef, .bool true, .bool true, .pointer (some ⟨w.heap.size, 0, none⟩), .string X, .int .i64 (X.size : Int), .int .i64 ((X.size : Int) + 1), .int .i64 (kk : Int), .string X, .int .i64 (kk : Int), undef, undef, undef, undef, undef, undef, undef, undef, undef, undef], []⟩ rfl ?_
          refine tk_val' (i := 2) rfl (by kernel_rfl) (by kernel_rfl) (by kernel_rfl) (fun _ _ _ _ h => nomatch h.1) rfl (.string A) (fun W _ => by rw [HAA.out]; go_simp) S0 #[true, true, true, false, false, false, false, false, false, false, false, false] rfl ⟨#[.slice a len cap, undef, .string ⟨#[]⟩, .pointer (some ⟨w.heap.size, 0, none⟩), .string X, .int .i64 (kk : Int), .slice a len cap, .pointer (some ⟨w.heap.size, 0, none⟩), .pointer (some ⟨w.heap.size, 0, none⟩), .agg c, .string X, .pointer (some ⟨w.heap.size, 0, none⟩), .int .i64 2, .bool false, .bool false, undef, undef, undef, .bool false, .bool false, undef, undef, undef, undef, undef, .bool true, .bool true, .pointer (some ⟨w.heap.size, 0, none⟩), .string X, .int .i64 (X.size : Int), .int .i64 ((X.size : Int) + 1), .int .i64 (kk : Int), .string X, .int .i64 (kk : Int), .string A, undef, undef, undef, undef, undef, undef, undef, undef, undef], []⟩ rfl ?_
          refine tk_val' (i := 3) rfl (by kernel_rfl) (by kernel_rfl) (by kernel_rfl) (fun _ _ _ _ h => nomatch h.1) rfl (.pointer (some ⟨w.heap.size, 0, none⟩)) (fun W _ => by go_simp) S0 #[true, true, true, true, false, false, false, false, false, false, false, false] rfl ⟨#[.slice a len cap, undef, .string ⟨#[]⟩, .pointer (some ⟨w.heap.size, 0, none⟩), .string X, .int .i64 (kk : Int), .slice a len cap, .pointer (some ⟨w.heap.size, 0, none⟩), .pointer (some ⟨w.heap.size, 0, none⟩), .agg c, .string X, .pointer (some ⟨w.heap.size, 0, none⟩), .int .i64 2, .bool false, .bool false, undef, undef, undef, .bool false, .bool false, undef, undef, undef, undef, undef, .bool true, .bool true, .pointer (some ⟨w.heap.size, 0, none⟩), .string X, .int .i64 (X.size : Int), .int .i64 ((X.size : Int) + 1), .int .i64 (kk : Int), .string X, .int .i64 (kk : Int), .string A, .pointer (some ⟨w.heap.size, 0, none⟩), undef, undef, undef, undef, undef, undef, undef, undef], []⟩ rfl ?_
          refine tk_val' (i := 7) rfl (by kernel_rfl) (by kernel_rfl) (by kernel_rfl) (fun _ _ _ _ h => nomatch h.1) rfl (.string X) (fun W _ => by go_simp) S0 #[true, true, true, true, false, false, false, true, false, false, false, false] rfl ⟨#[.slice a len cap, undef, .string ⟨#[]⟩, .pointer (some ⟨w.heap.size, 0, none⟩), .string X, .int .i64 (kk : Int), .slice a len cap, .pointer (some ⟨w.heap.size, 0, none⟩), .pointer (some ⟨w.heap.size, 0, none⟩), .agg c, .string X, .pointer (some ⟨w.heap.size, 0, none⟩), .int .i64 2, .bool false, .bool false, undef, undef, undef, .bool false, .bool false, undef, undef, undef, undef, undef, .bool true, .bool true, .pointer (some ⟨w.heap.size, 0, none⟩), .string X, .int .i64 (X.size : Int), .int .i64 ((X.size : Int) + 1), .int .i64 (kk : Int), .string X, .int .i64 (kk : Int), .string A, .pointer (some ⟨w.heap.size, 0, none⟩), undef, undef, undef, .string X, undef, undef, undef, undef], []⟩ rfl ?_
          refine tk_val' (i := 8) rfl (by kernel_rfl) (by kernel_rfl) (by kernel_rfl) (fun _ _ _ _ h => nomatch h.1) rfl (.int .i64 (kk : Int)) (fun W _ => by go_simp) S0 #[true, true, true, true, false, false, false, true, true, false, false, false] rfl ⟨#[.slice a len cap, undef, .string ⟨#[]⟩, .pointer (some ⟨w.heap.size, 0, none⟩), .string X, .int .i64 (kk : Int), .slice a len cap, .pointer (some ⟨w.heap.size, 0, none⟩), .pointer (some ⟨w.heap.size, 0, none⟩), .agg c, .string X, .pointer (some ⟨w.heap.size, 0, none⟩), .int .i64 2, .bool false, .bool false, undef, undef, undef, .bool false, .bool false, undef, undef, undef, undef, undef, .bool true, .bool true, .pointer (some ⟨w.heap.size, 0, none⟩), .string X, .int .i64 (X.size : Int), .int .i64 ((X.size : Int) + 1), .int .i64 (kk : Int), .string X, .int .i64 (kk : Int), .string A, .pointer (some ⟨w.heap.size, 0, none⟩), undef, undef, undef, .string X, .int .i64 (kk : Int), undef, undef, undef], []⟩ rfl ?_
          refine tk_val' (i := 9) rfl (by kernel_rfl) (by kernel_rfl) (by kernel_rfl) (fun _ _ _ _ h => nomatch h.1) rfl (.string B) (fun W _ => by rw [HBB.out]; go_simp) S0 #[true, true, true, true, false, false, false, true, true, true, false, false] rfl ⟨#[.slice a len cap, undef, .string ⟨#[]⟩, .pointer (some ⟨w.heap.size, 0, none⟩), .string X, .int .i64 (kk : Int), .slice a len cap, .pointer (some ⟨w.heap.size, 0, none⟩), .pointer (some ⟨w.heap.size, 0, none⟩), .agg c, .string X, .pointer (some ⟨w.heap.size, 0, none⟩), .int .i64 2, .bool false, .bool false, undef, undef, undef, .bool false, .bool false, undef, undef, undef, undef, undef, .bool true, .bool true, .pointer (some ⟨w.heap.size, 0, none⟩), .string X, .int .i64 (X.size : Int), .int .i64 ((X.size : Int) + 1), .int .i64 (kk : Int), .string X, .int .i64 (kk : Int), .string A, .pointer (some ⟨w.heap.size, 0, none⟩), undef, undef, undef, .string X, .int .i64 (kk : Int), .string B, undef, undef], []⟩ rfl ?_
          refine wpAnyH_all (rs := [4]) (by kernel_rfl) (by simp) (fun i hi => ?_)
          obtain rfl := List.mem_singleton.1 hi
          refine up_val' rfl rfl (.slice (some ⟨w5.heap.size, 0, none⟩) 4 4) (w5.drew.alloc (.cells (textsC5.map Value.string).toArray 9)) (by go_simp; rfl) trivial #[true, true, true, true, true, false, false, true, true, true, false, false] rfl ⟨#[.slice a len cap, undef, .string ⟨#[]⟩, .pointer (some ⟨w.heap.size, 0, none⟩), .string X, .int .i64 (kk : Int), .slice a len cap, .pointer (some ⟨w.heap.size, 0, none⟩), .pointer (some ⟨w.heap.size, 0, none⟩), .agg c, .string X, .pointer (some ⟨w.heap.size, 0, none⟩), .int .i64 2, .bool false, .bool false, undef, undef, undef, .bool false, .bool false, undef, undef, undef, undef, undef, .bool true, .bool true, .pointer (some ⟨w.heap.size, 0, none⟩), .string X, .int .i64 (X.size : Int), .int .i64 ((X.size : Int) + 1), .int .i64 (kk : Int), .string X, .int .i64 (kk : Int), .string A, .pointer (some ⟨w.heap.size, 0, none⟩), .slice (some ⟨w5.heap.size, 0, none⟩) 4 4, undef, undef, .string X, .int .i64 (kk : Int), .string B, undef, undef], []⟩ rfl ?_
          refine wpAnyH_all (rs := [5]) (by kernel_rfl) (by simp) (fun i hi => ?_)
          obtain rfl := List.mem_singleton.1 hi
          refine up_fcallV rfl rfl Tryz.func33 (by kernel_rfl) (by kernel_rfl) rfl [.pointer (some ⟨w.heap.size, 0, none⟩), .slice (some ⟨w5.heap.size, 0, none⟩) 4 4] rfl #[true, true, true, true, true, true, false, true, true, true, false, false] rfl (fun vv => ⟨#[.slice a len cap, undef, .string ⟨#[]⟩, .pointer (some ⟨w.heap.size, 0, none⟩), .string X, .int .i64 (kk : Int), .slice a len cap, .pointer (some ⟨w.heap.size, 0, none⟩), .pointer (some ⟨w.heap.size, 0, none⟩), .agg c, .string X, .pointer (some ⟨w.heap.size, 0, none⟩), .int .i64 2, .bool false, .bool false, undef, undef, undef, .bool false, .bool false, undef, undef, undef, undef, undef, .bool true, .bool true, .pointer (some ⟨w.heap.size, 0, none⟩), .string X, .int .i64 (X.size : Int), .int .i64 ((X.size : Int) + 1), .int .i64 (kk : Int), .string X, .int .i64 (kk : Int), .string A, .pointer (some ⟨w.heap.size, 0, none⟩), .slice (some ⟨w5.heap.size, 0, none⟩) 4 4, vv, undef, .string X, .int .i64 (kk : Int), .string B, undef, undef], []⟩) (fun _ => rfl) (fun vv W => ∃ v : ByteArray, vv = .string v ∧ v.size ≤ 20 ∧ Below w.heap.size w W) ((of_r _ _ (q + 1 + 1) w5.heap.size textsC5 4 _ (h5.drew.alloc _) (by decide) (by decide) (by omega) (by omega) (by exact rowS5 w5.drew textsC5 9)).mono fun e W hh => ?_) ?_
          · obtain ⟨v, hv, he, _, hg⟩ := hh
            refine ⟨_, he, v, rfl, texts_small5.2.2 v hv, ?_⟩
            exact (b5.drew.alloc (by show _ ≤ w5.heap.size; omega) _).grown hg (by show _ ≤ (w5.alloc _).heap.size; simp; omega) (fun j hj => by cases hj; omega)
          rintro _ w6 ⟨v, rfl, hv, b6⟩
          refine ⟨trivial, ?_⟩
          refine tk_val' (i := 6) rfl (by kernel_rfl) (by kernel_rfl) (by kernel_rfl) (fun _ _ _ _ h => nomatch h.1) rfl (.string (A ++ v)) (fun W _ => by go_simp; omega) trivial #[true, true, true, true, true, true, true, true, true, true, false, false] rfl ⟨#[.slice a len cap, undef, .string ⟨#[]⟩, .pointer (some ⟨w.heap.size, 0, none⟩), .string X, .int .i64 (kk : Int), .slice a len cap, .pointer (some ⟨w.heap.size, 0, none⟩), .pointer (some ⟨w.heap.size, 0, none⟩), .agg c, .string X, .pointer (some ⟨w.heap.size, 0, none⟩), .int .i64 2, .bool false, .bool false, undef, undef, undef, .bool false, .bool false, undef, undef, undef, undef, undef, .bool true, .bool true, .pointer (some ⟨w.heap.size, 0, none⟩), .string X, .int .i64 (X.size : Int), .int .i64 ((X.size : Int) + 1), .int .i64 (kk : Int), .string X, .int .i64 (kk : Int), .string A, .pointer (some ⟨w.heap.size, 0, none⟩), .slice (some ⟨w5.heap.size, 0, none⟩) 4 4, .string v, .string (A ++ v), .string X, .int .i64 (kk : Int), .string B, undef, undef], []⟩ rfl ?_
          refine tk_val' (i := 10) rfl (by kernel_rfl) (by kernel_rfl) (by kernel_rfl) (fun _ _ _ _ h => nomatch h.1) rfl (.string (A ++ v ++ B)) (fun W _ => by go_simp; omega) trivial #[true, true, true, true, true, true, true, true, true, true, true, false] rfl ⟨#[.slice a len cap, undef, .string ⟨#[]⟩, .pointer (some ⟨w.heap.size, 0, none⟩), .string X, .int .i64 (kk : Int), .slice a len cap, .pointer (some ⟨w.heap.size, 0, none⟩), .pointer (some ⟨w.heap.size, 0, none⟩), .agg c, .string X, .pointer (some ⟨w.heap.size, 0, none⟩), .int .i64 2, .bool false, .bool false, undef, undef, undef, .bool false, .bool false, undef, undef, undef, undef, undef, .bool true, .bool true, .pointer (some ⟨w.heap.size, 0, none⟩), .string X, .int .i64 (X.size : Int), .int .i64 ((X.size : Int) + 1), .int .i64 (kk : Int), .string X, .int .i64 (kk : Int), .string A, .pointer (some ⟨w.heap.size, 0, none⟩), .slice (some ⟨w5.heap.size, 0, none⟩) 4 4, .string v, .string (A ++ v), .string X, .int .i64 (kk : Int), .string B, .string (A ++ v ++ B), undef], []⟩ rfl ?_
          refine tk_val' (i := 11) rfl (by kernel_rfl) (by kernel_rfl) (by kernel_rfl) (fun _ _ _ _ h => nomatch h.1) rfl (.string (A ++ v ++ B)) (fun W _ => by go_simp) trivial #[true, true, true, true, true, true, true, true, true, true, true, true] rfl ⟨#[.slice a len cap, undef, .string (A ++ v ++ B), .pointer (some ⟨w.heap.size, 0, none⟩), .string X, .int .i64 (kk : Int), .slice a len cap, .pointer (some ⟨w.heap.size, 0, none⟩), .pointer (some ⟨w.heap.size, 0, none⟩), .agg c, .string X, .pointer (some ⟨w.heap.size, 0, none⟩), .int .i64 2, .bool false, .bool false, undef, undef, undef, .bool false, .bool false, undef, undef, undef, undef, undef, .bool true, .bool true, .pointer (some ⟨w.heap.size, 0, none⟩), .string X, .int .i64 (X.size : Int), .int .i64 ((X.size : Int) + 1), .int .i64 (kk : Int), .string X, .int .i64 (kk : Int), .string A, .pointer (some ⟨w.heap.size, 0, none⟩), .slice (some ⟨w5.heap.size, 0, none⟩) 4 4, .string v, .string (A ++ v), .string X, .int .i64 (kk : Int), .string B, .string (A ++ v ++ B), undef], []⟩ rfl ?_
          exact wpAnyH_done (by kernel_rfl) ⟨rfl, v, hv, b6, rfl⟩ _
        rintro _ w7 ⟨v, hv, b7, rfl⟩
        go_wp2
        go_ret
        exact ⟨⟨A ++ v ++ B, by rw [ByteArray.size_append, ByteArray.size_append]; omega, rfl⟩, b7⟩
      · have t3' : ((t : Int) == 2) = false := by rw [beq_eq_false_iff_ne]; omega
        go_wp2
        go_ret
        exact ⟨⟨X, by omega, rfl⟩, b4⟩
end Go.Proofs.YtjnddfpieogpiaaGreatDoor.Rr
