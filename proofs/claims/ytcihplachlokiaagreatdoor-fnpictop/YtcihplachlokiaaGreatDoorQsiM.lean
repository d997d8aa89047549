/- PicRead of the specification, behind the head. -/
import Derived.Test.YtcihplachlokiaaGreatDoorQseM
import Derived.Test.YtcihplachlokiaaGreatDoorPccM
import Derived.Deep.DeepCutAuto
namespace Go.Proofs.YtcihplachlokiaaGreatDoor
open Go.RowKit Go.Shelf
set_option linter.unusedVariables false
set_option linter.unusedSimpArgs false

theorem below_drew {B : Nat} (w : World) : Below B w w.drew := (Below.refl _ _).drew
/-- What is left to be read says what is read of all. -/
def OutS (f : Nat → Nat) (n N : Nat) (xs : List InstT) : (Int × Int) ⊕ (List InstT × List Nat) → Prop
  | .inl e => readM f n = .inl e
  | .inr (ys, r') => readM f n = if r' = [] then .inr (xs ++ ys) else .inl (7, (N : Int))
theorem OutS.start {f : Nat → Nat} {n N : Nat} {r : List Nat} (h : readM f n = listM N r) (hN : ¬ 1000 < N) : OutS f n N [] (instsM N 0 r) := by
  unfold listM at h
  rw [if_neg hN] at h
  cases hi : instsM N 0 r with
  | inl e => rw [hi] at h; exact h
  | inr q => obtain ⟨ys, r'⟩ := q; rw [hi] at h; exact h
theorem OutS.bad {f : Nat → Nat} {n N m : Nat} {xs : List InstT} {k c : Int} {r : List Nat} (h : OutS f n N xs (instsM (m + 1) k r)) (hi : instM r = .inl c) : readM f n = .inl (c, k) := by
  unfold instsM at h
  rw [hi] at h
  exact h
theorem OutS.step {f : Nat → Nat} {n N m : Nat} {xs : List InstT} {k : Int} {r r1 : List Nat} {x : InstT} (h : OutS f n N xs (instsM (m + 1) k r)) (hi : instM r = .inr (x, r1)) : OutS f n N (xs ++ [x]) (instsM m (k + 1) r1) := by
  unfold instsM at h
  rw [hi] at h
  simp only [] at h
  cases hq : instsM m (k + 1) r1 with
  | inl e => rw [hq] at h; exact h
  | inr q =>
    obtain ⟨ys, r'⟩ := q
    rw [hq] at h
    show readM f n = if r' = [] then .inr (xs ++ [x] ++ ys) else .inl (7, (N : Int))
    rw [List.append_assoc]
    exact h
theorem insts_put1 {w W : World} {base : Nat} {F : List Nat} {v : Value} {xs : List InstT} (h : InstsOwn W base F v xs) (hb : w.heap.size + 1 ≤ base) (u1 u2 : Value) :
    InstsOwn ((W.setCell ⟨w.heap.size, 0, none⟩ u1).setCell ⟨w.heap.size, 1, none⟩ u2) w.heap.size F v xs := by
  have s1 : ∀ (W : World) (b o : Nat) (u : Value), b < base → InstsOwn W base F v xs → InstsOwn (W.setCell ⟨b, o, none⟩ u) base F v xs := fun W b o u hlt h => InstsOwn.move (row := some b) h (gb_set18 (gb_refl18 _ _) _ _) (fun j hj e => by have := (InstsOwn.lt h j hj).1; cases e; omega)
  exact insts_base (s1 _ _ _ _ (by omega) (s1 _ _ _ _ (by omega) h)) (by omega)
theorem own_empty (W : World) (base : Nat) (hb : base ≤ W.heap.size) : (W.alloc (.cells #[] 44)).ownsRow base 44 3 (.slice (some ⟨W.heap.size, 0, none⟩) 0 0) 0 [] :=
  ⟨by simp, .inr ⟨W.heap.size, 0, #[], rfl, hb, heap_alloc_last _ _, Nat.le_refl _, by unfold maxLen; omega, by simp, by simp⟩⟩

set_option maxRecDepth 10000 in
set_option maxHeartbeats 8000000 in
theorem sread_in (g o m q n c : Nat) (hq : q = m + 6) (hnq : n = q + 2) (f : Nat → Nat) (hf : ∀ j, f j < 256) (w : World) (hn : m ≤ 20000) (hc : n ≤ c) (hg : g < w.heap.size) (hcs : ∀ j, j < n → w.cell? ⟨g, o + j, none⟩ = some (.int .u8 (f j)))
    (h3 : f 0 = 83) (h4 : f 1 = 116) (h5 : f 2 * 256 + f 3 = n) :
    Calls Tryz.prog 10 #[.slice (some ⟨g, o, none⟩) n c] w fun e w' => ReadR (readM f n) w e w' := by
  have hinfo : (Tryz.prog.info? 44).map (fun i => (i.zero, i.size, i.bytes)) = some (some (.agg #[.int .i64 0, .int .i64 0, .slice none 0 0]), 3, 40) := by kernel_rfl
  obtain ⟨i0, hi, hz0, hz1, hz2⟩ := info_parts hinfo
  clear hinfo
  have P0 : Hid (Pb w (w.alloc (.cells #[.int .i64 0, .int .i64 0] 26))) := Pb.start w
  have HC : Hid (∀ W, Below w.heap.size w W → ∀ j, j < n → W.cell? ⟨g, o + j, none⟩ = some (.int .u8 (f j))) := fun W b j hj => (b.cell (p := ⟨g, o + j, none⟩) hg).trans (hcs j hj)
  have HB : Hid (∀ W, Below w.heap.size w W → ∀ l, l ≤ n → Bt W (some ⟨g, o, none⟩) l f) := fun W b l hl => .inr ⟨g, o, rfl, Nat.lt_of_lt_of_le hg b.size, fun j hj => HC.out W b j (by omega)⟩
  have HTw : Hid (∀ (k : Nat) W, k + 1 < n → Pb w W → Calls Tryz.prog 31 #[.slice (some ⟨g, o + k, none⟩) 2 (c - k)] W fun e w' => e = .returned (.int .i64 ((f k * 256 + f (k + 1) : Nat) : Int)) ∧ Pb w w') := fun k W hk hW => (two_s g (o + k) (c - k) (f k) (f (k + 1)) W (hf k) (hf (k + 1)) (HC.out W hW.2 k (by omega)) (by have := HC.out W hW.2 (k + 1) (by omega); rwa [← Nat.add_assoc] at this)).mono fun e w' ⟨a, b⟩ => ⟨a, hW.later b⟩
  have HT1 : Hid (∀ W, Pb w W → Calls Tryz.prog 31 #[.slice (some ⟨g, o + 2, none⟩) 2 (c - 2)] W fun e w' => e = .returned (.int .i64 (n : Int)) ∧ Pb w w') := fun W hW => by have := HTw.out 2 W (by omega) hW; rwa [h5] at this
  obtain ⟨V, HV⟩ : ∃ V : Int, Hid (V = ((f q * 256 + f (q + 1) : Nat) : Int)) := ⟨_, rfl⟩
  have HT2 : Hid (∀ W, Pb w W → Calls Tryz.prog 31 #[.slice (some ⟨g, o + q, none⟩) 2 (c - q)] W fun e w' => e = .returned (.int .i64 V) ∧ Pb w w') := fun W hW => by rw [HV.out]; exact HTw.out q W (by omega) hW
  obtain ⟨S, HS⟩ : ∃ S : Int, Hid (S = ((sumF f q : Nat) : Int)) := ⟨_, rfl⟩
  have bS : 0 ≤ S ∧ S < 65536 := by rw [HS.out]; have := sumF_lt f hf q; omega
  have HT3 : Hid (∀ W, Pb w W → Calls Tryz.prog 22 #[.slice (some ⟨g, o, none⟩) q c] W fun e w' => e = .returned (.int .u16 S) ∧ W = w') := fun W hW => by rw [HS.out]; exact psum_s _ q c f hf W (by omega) (HB.out W hW.2 _ (by omega))
  have HTC : Hid (∀ W, Pb w W → Calls Tryz.prog 31 #[.slice (some ⟨g, o + 4, none⟩) 2 (c - 4)] W fun e w' => e = .returned (.int .i64 ((f 4 * 256 + f 5 : Nat) : Int)) ∧ Pb w w') := fun W hW => HTw.out 4 W (by omega) hW
  obtain ⟨N, HN⟩ : ∃ N, Hid (N = f 4 * 256 + f 5) := ⟨_, rfl⟩
  rw [← HN.out] at HTC
  have HM1 : Hid (V ≠ S → readM f n = .inl (5, 0)) := fun hne => by
    have : envW f n = 5 := by
      unfold envW
      rw [if_neg (by omega), if_neg (by omega), show n - 2 = q by omega, show n - 1 = q + 1 by omega, if_pos (fun e => hne (by rw [HV.out, HS.out]; exact congrArg Int.ofNat e.symm))]
    unfold readM
    rw [if_pos (by omega), this]
  have HM2 : Hid (V = S → readM f n = listM N (midL f m)) := fun he => by
    have : envW f n = 0 := by
      unfold envW
      rw [if_neg (by omega), if_neg (by omega), show n - 2 = q by omega, show n - 1 = q + 1 by omega, if_neg (fun h => h (by have := HV.out.symm.trans (he.trans HS.out); exact (Int.ofNat.inj this).symm))]
    unfold readM
    rw [if_neg (by omega), HN.out, show n - 8 = m by omega]
    rfl
  have j1 : ¬ (n : Int) < 8 := by omega
  have j2 : ¬ (20008 : Int) < (n : Int) := by omega
  have j3 : (0 : Int) < (n : Int) := by omega
  have j4 : (1 : Int) < (n : Int) := by omega
  have j5 : (4 : Int) ≤ (n : Int) := by omega
  have j6 : (4 : Int) ≤ (c : Int) := by omega
  have j7 : (n : Int) - 2 = (q : Int) := by omega
  have j8 : (q : Int) ≤ (n : Int) := by omega
  have j9 : (q : Int) ≤ (c : Int) := by omega
  have jA : n - q = 2 := by omega
  have bq : (q : Int) ≤ 20006 := by omega
  have jW : IntKind.i64.wrap (q : Int) = (q : Int) := by rw [IntKind.wrap_i64]; omega
  have jS : IntKind.i64.wrap S = S := by rw [IntKind.wrap_i64]; omega
  have jC : ¬ c = q := by omega
  have jD : ¬ c = 4 := by omega
  have jE : ¬ c = 6 := by omega
  have jF : q - 6 = m := by omega
  have jG : (6 : Int) ≤ (q : Int) := by omega
  have jB : (n : Int) ≤ (c : Int) := by omega
  have HQ : Hid (q = m + 6 ∧ n = q + 2) := ⟨hq, hnq⟩
  have Hf : Hid (∀ j, f j < 256) := hf
  have c0' := HC.out
  clear hf hcs HTw h5 hq hnq c0'
  go_enter Tryz.func10, Tryz.ntmps10
  go_upto_region 1 with fail
  have P0' := P0.out
  clear P0
  generalize (w.alloc (.cells #[.int .i64 0, .int .i64 0] 26)) = W0 at P0' ⊢
  have P1 : Hid (Pb w W0) := P0'
  have c0 := HC.out W0 P1.out.2 0 (by have := HQ.out; omega)
  rw [Nat.add_zero, h3] at c0
  have c1 := HC.out W0 P1.out.2 1 (by have := HQ.out; omega)
  rw [h4] at c1
  clear h3 h4 P0'
  go_wp2_with fail
  refine (HT1.out W0 P1.out).mono ?_
  rintro e w1 ⟨rfl, hP⟩
  have P2 : Hid (Pb w w1) := hP
  clear P1 hP HT1 c0 c1
  go_upto_region 4 with fail
  go_cut [50] from 39 (fun s wx => s = .bool (V != S) ∧ Hid (Pb w wx))
  case first =>
    clear HTC HM1 HM2
    go_region_law (first
      | (go_simp; go_at_call 31; refine (HT2.out _ (by first | exact P2.out | exact P2.out.later (below_drew _))).mono ?_; rintro e wa ⟨rfl, hp⟩; simp only [])
      | (go_simp; go_at_call 22; refine (HT3.out _ (by first | exact hp | exact P2.out | exact P2.out.later (below_drew _))).mono ?_; rintro e wb ⟨rfl, rfl⟩; simp only []))
    all_goals
      have HPf : Hid (Pb w wa) := hp
      clear hp
      go_wp2_with fail
      go_meet
      exact ⟨rfl, HPf⟩
  case rest =>
    obtain ⟨rfl, hP⟩ := hcut
    have P3 : Hid (Pb w wc) := hP.out
    clear hP P2 HT2 HT3
    by_cases hVS : V = S
    rotate_left
    · have e1 : (V != S) = true := by simpa using hVS
      have HF : Hid (readM f n = .inl (5, 0)) := HM1.out hVS
      obtain ⟨p0, p1, q0, q1⟩ := box2 P3.out.1
      have HR := P3.out.fin 5 0
      clear P3 HM1 HM2 hVS
      rw [e1]
      go_wp2
      refine ret_tc rfl rfl rfl HR.1 rfl ?_
      exact ReadR.no HF.out HR.2
    have e1 : (V != S) = false := by simpa using hVS
    have HM : Hid (readM f n = listM N (midL f m)) := HM2.out hVS
    rw [e1]
    clear HM1 HM2 hVS e1
    go_wp2_with fail
    refine (HTC.out wc P3.out).mono ?_
    rintro e w4 ⟨rfl, hP⟩
    have P4 : Hid (Pb w w4) := hP
    clear hP P3 HTC
    by_cases hN : 1000 < N
    · have i1 : (1000 : Int) < (N : Int) := by omega
      have HF : Hid (readM f n = .inl (1, 0)) := (by rw [HM.out]; unfold listM; rw [if_pos hN] : readM f n = .inl (1, 0))
      obtain ⟨p0, p1, q0, q1⟩ := box2 P4.out.1
      have HR := P4.out.fin 1 0
      clear P4 HM hN
      go_wp2
      refine ret_tc rfl rfl rfl HR.1 rfl ?_
      exact ReadR.no HF.out HR.2
    have i1 : ¬ (1000 : Int) < (N : Int) := by omega
    have HO0 : Hid (OutS f n N [] (instsM N 0 (midL f m))) := OutS.start HM.out hN
    have hN' : N ≤ 1000 := by omega
    clear HM hN
    go_upto_region 11 with fail
    obtain ⟨R, hR⟩ : ∃ R, w4.heap.size = R := ⟨_, rfl⟩
    obtain ⟨Wb, HWb⟩ : ∃ W, Hid (W = w4.alloc (.cells #[.slice (some ⟨g, o + 6, none⟩) m (c - 6), .int .i64 0] 64)) := ⟨_, rfl⟩
    have hWs : Wb.heap.size = R + 1 := by rw [HWb.out]; simp [hR]
    have gA : Below w4.heap.size w4 Wb := by rw [HWb.out]; exact (Below.refl _ _).alloc (Nat.le_refl _) _
    have gB : Below Wb.heap.size Wb (Wb.alloc (.cells #[] 44)) := (Below.refl _ _).alloc (Nat.le_refl _) _
    have HSd : Sd R (midL f m) Wb := by
      refine ⟨some ⟨g, o + 6, none⟩, c - 6, m, fun j => f (6 + j), 0, ?_, Nat.zero_le _, by have := HQ.out; omega, by omega, ?_, ?_, by rw [mid_len]; omega, fun j hj => by rw [mid_at f m j (by omega)]; simp⟩
      · rw [HWb.out, ← hR]; exact heap_alloc_last _ _
      · refine .inr ⟨g, o + 6, rfl, by have := P4.out.2.size; omega, fun j hj => ?_⟩
        rw [show o + 6 + j = o + (6 + j) by omega]
        exact HC.out Wb (P4.out.later gA).2 (6 + j) (by have := HQ.out; omega)
      · intro g' o' e
        simp only [Option.some.injEq, Addr.mk.injEq] at e
        have := P4.out.2.size
        omega
    have HL0 : Hid (SL Wb R (.slice (some ⟨R + 1, 0, none⟩) 0 0) [] [] [] (midL f m) (Wb.alloc (.cells #[] 44))) := by
      have ho := own_empty Wb Wb.heap.size (Nat.le_refl _)
      rw [hWs] at ho
      exact ⟨HSd.later gB, by omega, .nil, by rw [hWs]; exact ho, by simp [Value.ownBlock], gbb gB⟩
    have HPb : Hid (Pb w Wb ∧ w.heap.size < R) := ⟨P4.out.later gA, by have := P4.out.lt; omega⟩
    rw [← HWb.out, hR]
    generalize (Wb.alloc (.cells #[] 44)) = W5 at HL0 ⊢
    have Hmid : Hid (∀ b ∈ midL f m, b < 256) := mid_lt f Hf.out m
    clear hR gA gB HSd P4 HWb
    go_wp2
    go_loopw [7, 8, 9, 10] (fun vv i _ _ wr => ∃ (p : Option Addr) (k vc : Nat), vv = .slice p k vc ∧ i = .int .i64 k ∧ k ≤ N ∧ Hid (∃ xs cs F rk, SL Wb R (.slice p k vc) xs cs F rk wr ∧ xs.length = k ∧ (∀ b ∈ rk, b < 256) ∧ OutS f n N xs (instsM (N - k) (k : Nat) rk))) (fun _ i _ _ _ => N - (intOf i).toNat)
    case atStart => exact ⟨_, 0, 0, rfl, rfl, Nat.zero_le _, _, _, _, _, HL0.out, rfl, Hmid.out, HO0.out⟩
    case round =>
      clear HL0 HO0
      obtain ⟨p, k, vc, rfl, rfl, hk, HR⟩ := hrel
      obtain ⟨xs, cs, F, rk, hI, hxl, hrk, hO⟩ := HR.out
      by_cases hlt : k < N
      · have il : (k : Int) < (N : Int) := by omega
        obtain ⟨m', hm⟩ : ∃ m, N - k = m + 1 := ⟨N - k - 1, by omega⟩
        rw [hm] at hO
        cases ho : instM rk with
        | inl ec =>
          have he0 : 0 < ec := instM_pos ho
          have HIn : Hid (Calls Tryz.prog 32 #[.pointer (some ⟨R, 0, none⟩)] wr fun e w' => e = .returned (.tuple #[.agg #[.int .i64 0, .int .i64 0, .slice none 0 0], .int .i64 ec]) ∧ Pb w w') := (ins_s_no R rk ec wr hrk ho hI.1).mono fun e w' ⟨a, b⟩ => ⟨a, (HPb.out.1.gr hI.2.2.2.2.2 HPb.out.2).gr b HPb.out.2⟩
          have HF : Hid (readM f n = .inl (ec, (k : Nat))) := hO.bad ho
          clear hI hxl hrk hO ho hm HR
          go_wp2_with fail
          refine HIn.out.mono ?_
          rintro e w10 ⟨rfl, hP⟩
          have hP2 := hP.later ((Below.refl _ _).alloc (Nat.le_refl _) (.cells #[.int .i64 0, .int .i64 0, .slice none 0 0] 44))
          go_upto_region 15 with fail
          generalize (w10.alloc (.cells #[.int .i64 0, .int .i64 0, .slice none 0 0] 44)) = W11 at hP2 ⊢
          obtain ⟨p0, p1, q0, q1⟩ := box2 hP2.1
          have HRt := hP2.fin ec k
          clear hP hP2 HIn
          go_wp2
          refine ret_tc rfl rfl rfl HRt.1 rfl ?_
          exact ReadR.no HF.out HRt.2
        | inr q4 =>
          obtain ⟨x, rk1⟩ := q4
          have hO1 := hO.step ho
          have HIn : Hid (Calls Tryz.prog 32 #[.pointer (some ⟨R, 0, none⟩)] wr fun e w' => SdI R x rk1 wr e w') := ins_s_ok R rk rk1 x wr hrk ho hI.1
          have HE : Hid (OutS f n N (xs ++ [x]) (instsM (N - (k + 1)) ((k + 1 : Nat) : Int) rk1) ∧ (∀ b ∈ rk1, b < 256) ∧ xs.length = k ∧ SL Wb R (.slice p k vc) xs cs F rk wr) := ⟨by rw [show N - (k + 1) = m' by omega]; exact hO1, fun b hb => hrk b (instM_sub ho b hb), hxl, hI⟩
          clear hI hxl hrk hO hO1 ho hm HR
          go_wp2_with fail
          refine HIn.out.mono ?_
          rintro e w10 ⟨va, rfl, hva, d10, g10⟩
          obtain ⟨ap, an, ac, rfl⟩ : ∃ p n cp, va = .slice p n cp := by
            rcases hva.2 with ⟨h, _⟩ | ⟨g, cap, cur, h, _⟩
            · exact ⟨_, _, _, h⟩
            · exact ⟨_, _, _, h⟩
          have gA : Below w10.heap.size w10 (w10.alloc (.cells #[.int .i64 x.code, .int .i64 x.one.op, .slice ap an ac] 44)) := (Below.refl _ _).alloc (Nat.le_refl _) _
          have hL := (HE.out.2.2.2.read d10 g10).later gA
          have hvb := hva.mono (base' := Wb.heap.size) (by have := HE.out.2.2.2.2.2.2.2.2.size; omega)
          have hdis : ∀ b ∈ (Value.slice ap an ac).ownBlock.toList, b ∉ (Value.slice p k vc).ownBlock.toList ++ F := fun b hb hm => by
            have h1 := (World.ownsRow.lt hva b (by simpa using hb)).1
            have h2 := (HE.out.2.2.2.bounds b hm).2
            omega
          have hfn : (Value.slice ap an ac).ownBlock.toList.Nodup := by cases (Value.slice ap an ac).ownBlock <;> simp
          have hsz : Wb.heap.size ≤ w10.heap.size := Nat.le_trans HE.out.2.2.2.2.2.2.2.2.size g10.size
          have hvl := ownl hvb gA
          have r11 := heap_alloc_last w10 (.cells #[.int .i64 x.code, .int .i64 x.one.op, .slice ap an ac] 44)
          have hsz2 : Wb.heap.size ≤ (w10.alloc (.cells #[.int .i64 x.code, .int .i64 x.one.op, .slice ap an ac] 44)).heap.size := Nat.le_trans hsz gA.size
          obtain ⟨B10, hB10⟩ : ∃ B, w10.heap.size = B := ⟨_, rfl⟩
          rw [hB10] at r11
          go_upto_region 17 with fail
          generalize (w10.alloc (.cells #[.int .i64 x.code, .int .i64 x.one.op, .slice ap an ac] 44)) = W11 at hL hvl r11 hsz2 ⊢
          have gT : Below W11.heap.size W11 (W11.alloc (.cells #[.int .i64 x.code, .int .i64 x.one.op, .slice ap an ac] 44)) := (Below.refl _ _).alloc (Nat.le_refl _) _
          have HP : Hid (SL Wb R (.slice p k vc) xs cs F rk1 (W11.alloc (.cells #[.int .i64 x.code, .int .i64 x.one.op, .slice ap an ac] 44)) ∧ ArgsOwn (W11.alloc (.cells #[.int .i64 x.code, .int .i64 x.one.op, .slice ap an ac] 44)) Wb.heap.size (Value.slice ap an ac).ownBlock.toList (.slice ap an ac) x.one.args ∧ (Value.slice ap an ac).ownBlock.toList.Nodup ∧ (∀ b ∈ (Value.slice ap an ac).ownBlock.toList, b ∉ (Value.slice p k vc).ownBlock.toList ++ F)) := ⟨hL.later gT, args_of (ownl hvl gT), hfn, hdis⟩
          have own3 := hL.2.2.2.1
          have hxl : xs.length = k := HE.out.2.2.1
          rw [hxl] at own3
          obtain ⟨t0, t1, t2, s0, s1, s2⟩ := box3 r11
          clear hva d10 g10 gA hL hvb hdis hfn hsz hvl gT HIn hB10 r11
          go_wp2_with (at_builtin; refine wpList_append_lies _ rfl _ _ 23 rfl Wb.heap.size 44 i0 (.agg #[.int .i64 0, .int .i64 0, .slice none 0 0]) 3 40 Tryz.underlying23 hi hz0 hz1 hz2 rfl (by decide) _ k cs rfl (own3.alloc _) ⟨W11.heap.size, 0, none⟩ 1 1 [.int .i64 x.code, .int .i64 x.one.op, .slice ap an ac] rfl rfl (cell_three18 _ _ _ _ _) ?c2 (by omega) ?c3 ?c4 ?c5 _ rfl ?_)
          case c2 => intro u hu; simp at hu; rcases hu with rfl | rfl | rfl <;> rfl
          case c3 => unfold maxLen; omega
          case c4 => omega
          case c5 => simp; omega
          intro g' cap' w6 own6 g6 hat hlt6
          have key : SL Wb R (.slice (some ⟨g', 0, none⟩) (xs.length + 1) cap') (xs ++ [x]) (cs ++ [.int .i64 x.code, .int .i64 x.one.op, .slice ap an ac]) (F ++ (Value.slice ap an ac).ownBlock.toList) rk1 w6 := SL.put HP.out.1 HP.out.2.1 HP.out.2.2.1 HP.out.2.2.2 (by rw [hxl, hWs]; exact own6) g6 (by simpa using hat)
          rw [hxl] at key
          have HNx : Hid (∃ xs2 cs F rk, SL Wb R (.slice (some ⟨g', 0, none⟩) (k + 1) cap') xs2 cs F rk w6 ∧ xs2.length = k + 1 ∧ (∀ b ∈ rk, b < 256) ∧ OutS f n N xs2 (instsM (N - (k + 1)) ((k + 1 : Nat) : Int) rk)) := ⟨_, _, _, _, key, by simp [hxl], HE.out.2.1, HE.out.1⟩
          clear key own6 g6 hat hlt6 HP HE own3 t0 t1 t2 s0 s1 s2
          go_wp2
          go_roundw
          case rel => exact ⟨_, k + 1, _, rfl, by go_num, by omega, HNx⟩
          case measure => simp [intOf]; omega
      · have hkn : N - k = 0 := by omega
        have il : ¬ (k : Int) < (N : Int) := by omega
        rw [hkn] at hO
        have hO2 : readM f n = if rk = [] then .inr (xs ++ []) else .inl (7, (N : Int)) := hO
        rw [List.append_nil] at hO2
        obtain ⟨ra, rcap, RL, RF, kk, R1, R2, R3, R4, R5, R6, R7, R8⟩ := hI.1
        have p0 : wr.cell? ⟨R, 0, none⟩ = some (.slice ra RL rcap) := (cell_of_row _ _ _ _ _ _ R1).trans rfl
        have p1 : wr.cell? ⟨R, 1, none⟩ = some (.int .i64 (kk : Nat)) := (cell_of_row _ _ _ _ _ _ R1).trans rfl
        have hPr : Pb w wr := HPb.out.1.gr hI.2.2.2.2.2 HPb.out.2
        by_cases hend : kk < RL
        · have ie : (kk : Int) < (RL : Int) := by omega
          have HF : Hid (readM f n = .inl (7, (N : Nat))) := (by rw [hO2, if_neg (fun e => by rw [e] at R7; simp at R7; omega)] : readM f n = .inl (7, (N : Nat)))
          have HRt : Hid (∀ d, (loadVar 26 ⟨w.heap.size, 0, none⟩).run Tryz.prog (((wr.drewN d).setCell ⟨w.heap.size, 0, none⟩ (.int .i64 7)).setCell ⟨w.heap.size, 1, none⟩ (.int .i64 N)) = .ok (.agg #[.int .i64 7, .int .i64 N]) (((wr.drewN d).setCell ⟨w.heap.size, 0, none⟩ (.int .i64 7)).setCell ⟨w.heap.size, 1, none⟩ (.int .i64 N)) ∧ Below w.heap.size w (((wr.drewN d).setCell ⟨w.heap.size, 0, none⟩ (.int .i64 7)).setCell ⟨w.heap.size, 1, none⟩ (.int .i64 N))) := fun d => (hPr.later (below_drewN _ _)).fin 7 N
          obtain ⟨t0, t1, t2, t3⟩ := box2 hPr.1
          clear hI hO hO2 R1 R2 R3 R4 R5 R6 R7 R8 HR hPr hrk hkn hxl
          go_wp2
          go_quiet (fail)
          go_wp2
          refine ret_tc rfl rfl rfl (HRt.out _).1 rfl ?_
          exact ReadR.no HF.out (HRt.out _).2
        · have ie : ¬ (kk : Int) < (RL : Int) := by omega
          have HF : Hid (readM f n = .inr xs) := (by rw [hO2, if_pos (List.eq_nil_of_length_eq_zero (by omega))] : readM f n = .inr xs)
          have HRt : Hid (∀ d, (loadVar 26 ⟨w.heap.size, 0, none⟩).run Tryz.prog (((wr.drewN d).setCell ⟨w.heap.size, 0, none⟩ (.int .i64 0)).setCell ⟨w.heap.size, 1, none⟩ (.int .i64 0)) = .ok (.agg #[.int .i64 0, .int .i64 0]) (((wr.drewN d).setCell ⟨w.heap.size, 0, none⟩ (.int .i64 0)).setCell ⟨w.heap.size, 1, none⟩ (.int .i64 0)) ∧ ReadR (readM f n) w (.returned (.tuple #[.slice p k vc, .agg #[.int .i64 0, .int .i64 0]])) (((wr.drewN d).setCell ⟨w.heap.size, 0, none⟩ (.int .i64 0)).setCell ⟨w.heap.size, 1, none⟩ (.int .i64 0))) := fun d => by
            have h1 := (hPr.later (below_drewN _ d)).fin 0 0
            refine ⟨h1.1, ?_⟩
            rw [HF.out]
            exact ⟨_, _, rfl, insts_put1 (hI.own.later (below_drewN _ d)) (by have := HPb.out.2; omega) _ _, hI.2.2.2.2.1, h1.2⟩
          obtain ⟨t0, t1, t2, t3⟩ := box2 hPr.1
          clear hI hO hO2 R1 R2 R3 R4 R5 R6 R7 R8 HR hPr hrk hkn hxl
          go_wp2
          go_quiet (fail)
          go_wp2
          refine ret_tc rfl rfl rfl (HRt.out _).1 rfl ?_
          exact (HRt.out _).2
end Go.Proofs.YtcihplachlokiaaGreatDoor
/- PicRead of both, at any bytes. -/
namespace Go.Proofs.YtcihplachlokiaaGreatDoor
open Go.RowKit Go.Shelf
set_option linter.unusedVariables false

theorem sread_all (a : Option Addr) (n c : Nat) (f : Nat → Nat) (hf : ∀ j, f j < 256) (w : World) (hn : n ≤ 1048576) (hc : n ≤ c) (h : Bt w a n f) :
    Calls Tryz.prog 10 #[.slice a n c] w fun e w' => ReadR (readM f n) w e w' := by
  by_cases hE : 8 ≤ n ∧ n ≤ 20008 ∧ f 0 = 83 ∧ f 1 = 116 ∧ f 2 * 256 + f 3 = n
  · obtain ⟨g, o, rfl, hg, hcs⟩ : ∃ g o, a = some ⟨g, o, none⟩ ∧ g < w.heap.size ∧ ∀ j, j < n → w.cell? ⟨g, o + j, none⟩ = some (.int .u8 (f j)) := by
      rcases h with h | h
      · omega
      · exact h
    exact sread_in g o (n - 8) (n - 2) n c (by omega) (by omega) f hf w (by omega) hc hg hcs hE.2.2.1 hE.2.2.2.1 hE.2.2.2.2
  · exact sread_bad a n c f hf w hn hc h hE
theorem read_all (a : Option Addr) (n c : Nat) (f : Nat → Nat) (hf : ∀ j, f j < 256) (w : World) (hn : n ≤ 1048576) (hc : n ≤ c) (h : Bt w a n f) :
    Calls Tryz.prog 7 #[.slice a n c] w fun e w' => ReadR (readM f n) w e w' := by
  by_cases hE : envW f n = 0
  · exact read_good a n c f hf w hc h hE
  · exact read_bad a n c f hf w hn hc h hE
end Go.Proofs.YtcihplachlokiaaGreatDoor
