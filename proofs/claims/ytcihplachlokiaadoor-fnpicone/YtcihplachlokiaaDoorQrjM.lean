/- Lists read: where it cannot be read. -/
import Derived.Test.YtcihplachlokiaaDoorQreM
import Derived.Test.YtcihplachlokiaaDoorPccM
import Derived.Recover
import Derived.Stop.Asserts
namespace Go.Proofs.YtcihplachlokiaaDoor
open Go.RowKit Go.Shelf
set_option linter.unusedVariables false
set_option linter.unusedSimpArgs false

set_option maxRecDepth 10000 in
set_option maxHeartbeats 8000000 in
theorem list_no (R N : Nat) (r : List Nat) (ec ea : Int) (w : World) (hN : N ≤ 1000) (hr : ∀ b ∈ r, b < 256) (ha : instsM N 0 r = .inl (ec, ea) ∨ (∃ XS b r', instsM N 0 r = .inr (XS, b :: r') ∧ ec = 7 ∧ ea = N)) (h : Rd R r 0 w) :
    Calls Tryd.prog 30 #[.pointer (some ⟨R, 0, none⟩), .int .i64 N] w fun e w' => RdP R ec ea w e w' := by
  have hinfo : (Tryd.prog.info? 56).map (fun i => (i.zero, i.size, i.bytes)) = some (some (.agg #[.int .i64 0, .int .i64 0, .slice none 0 0]), 3, 40) := by kernel_rfl
  obtain ⟨i0, hi, hz0, hz1, hz2⟩ := info_parts hinfo
  clear hinfo
  have H0 : Hid (LS w R (.slice none 0 0) [] [] [] r 0 w ∧ (∀ b ∈ r, b < 256) ∧ (instsM N 0 r = .inl (ec, ea) ∨ (∃ XS b r', instsM N 0 r = .inr (XS, b :: r') ∧ ec = 7 ∧ ea = N))) := ⟨⟨h, h.lt, .nil, World.ownsRow_nil _ _ _ _, by simp [Value.ownBlock], gb_refl18 _ _⟩, hr, ha⟩
  have ik : ¬ ((1000 : Int) < (N : Int)) := by omega
  clear h hr ha
  go_enter Tryd.func30, Tryd.ntmps30
  go_wp2
  go_loopw [5] (fun i wr => ∃ (v : Value) (k : Nat), i = v ∧ k ≤ N ∧ Hid (∃ xs cs F rk, LS w R v xs cs F rk (k : Nat) wr ∧ xs.length = k ∧ (∀ b ∈ rk, b < 256) ∧ (instsM (N - k) (k : Nat) rk = .inl (ec, ea) ∨ (∃ XS b r', instsM (N - k) (k : Nat) rk = .inr (XS, b :: r') ∧ ec = 7 ∧ ea = N)))) (fun i _ => N - (sliceLen18 i))
  case atStart => exact ⟨_, 0, rfl, Nat.zero_le _, _, _, _, _, H0.out.1, rfl, H0.out.2.1, H0.out.2.2⟩
  case round =>
    obtain ⟨v, k, hiv, hk, HR⟩ := hrel
    obtain ⟨xs, cs, F, rk, hI, hxl, hrk, hargs⟩ := HR.out
    obtain ⟨vp, vn, vc, rfl⟩ : ∃ p n cp, v = .slice p n cp := by
      rcases hI.2.2.2.1.2 with ⟨h, _⟩ | ⟨g, cap, cur, h, _⟩
      · exact ⟨_, _, _, h⟩
      · exact ⟨_, _, _, h⟩
    subst hiv
    have hvn : vn = k := by
      rcases hI.2.2.2.1.2 with ⟨h, h0⟩ | ⟨g, cap, cur, h, _⟩
      · cases h; omega
      · cases h; omega
    subst hvn
    obtain ⟨ra, rcap, R1, _⟩ := hI.1
    have p0 : wr.cell? ⟨R, 0, none⟩ = some (.slice ra rk.length rcap) := (cell_of_row _ _ _ _ _ _ R1).trans rfl
    have p1 : wr.cell? ⟨R, 1, none⟩ = some (.int .i64 (vn : Nat)) := (cell_of_row _ _ _ _ _ _ R1).trans rfl
    clear R1
    by_cases hlt : vn < N
    · have il : (vn : Int) < (N : Int) := by omega
      obtain ⟨m, hm⟩ : ∃ m, N - vn = m + 1 := ⟨N - vn - 1, by omega⟩
      cases ho : instM rk with
      | inl e =>
        have hE : e = ec ∧ (vn : Int) = ea := by
          rcases hargs with hargs | ⟨XS, b, r', hargs, _⟩
          · rw [hm] at hargs
            unfold instsM at hargs
            rw [ho] at hargs
            simpa using hargs
          · rw [hm] at hargs
            unfold instsM at hargs
            rw [ho] at hargs
            cases hargs
        have HIn : Hid (Calls Tryd.prog 54 #[.pointer (some ⟨R, 0, none⟩)] wr fun e' w' => e' = .panicked [{ v := .iface 26 (.agg #[.int .i64 ec, .int .i64 ea]), recovered := false }] ∧ RdP R ec ea w (.panicked [{ v := .iface 26 (.agg #[.int .i64 ec, .int .i64 ea]), recovered := false }]) w') := (ins_no R rk (vn : Nat) e wr hrk ho hI.1).mono fun e' w' ⟨a, b⟩ => by
          rw [← hE.1, ← hE.2]
          exact ⟨a, rfl, gb_step18 hI.2.2.2.2.2 b⟩
        clear hI hxl hrk ho HR hm hargs hE H0
        go_wp2_with fail
        refine HIn.out.mono ?_
        rintro e9 w10 ⟨rfl, h10⟩
        go_wp2
        exact ⟨rfl, h10⟩
      | inr q4 =>
        obtain ⟨x, rk1⟩ := q4
        have hq : instsM (N - (vn + 1)) ((vn + 1 : Nat) : Int) rk1 = .inl (ec, ea) ∨ (∃ XS b r', instsM (N - (vn + 1)) ((vn + 1 : Nat) : Int) rk1 = .inr (XS, b :: r') ∧ ec = 7 ∧ ea = N) := by
          rw [hm] at hargs
          unfold instsM at hargs
          rw [ho] at hargs
          simp only [] at hargs
          rw [show N - (vn + 1) = m by omega, show ((vn + 1 : Nat) : Int) = (vn : Int) + 1 by omega]
          cases h2 : instsM m ((vn : Int) + 1) rk1 with
          | inl e =>
            rw [h2] at hargs
            rcases hargs with hargs | ⟨XS, b, r', hargs, _⟩
            · exact .inl hargs
            · cases hargs
          | inr q5 =>
            obtain ⟨ys, r3⟩ := q5
            rw [h2] at hargs
            rcases hargs with hargs | ⟨XS, b, r', hargs, hh⟩
            · cases hargs
            · simp only [Sum.inr.injEq, Prod.mk.injEq] at hargs
              exact .inr ⟨ys, b, r', by rw [hargs.2], hh⟩
        clear hargs
        have HIn : Hid (Calls Tryd.prog 54 #[.pointer (some ⟨R, 0, none⟩)] wr fun e w' => RdI R x rk1 (vn : Nat) wr e w') := ins_ok R rk rk1 _ x wr hrk ho hI.1
        have HE : Hid ((instsM (N - (vn + 1)) ((vn + 1 : Nat) : Int) rk1 = .inl (ec, ea) ∨ (∃ XS b r', instsM (N - (vn + 1)) ((vn + 1 : Nat) : Int) rk1 = .inr (XS, b :: r') ∧ ec = 7 ∧ ea = N)) ∧ (∀ b ∈ rk1, b < 256) ∧ xs.length = vn ∧ LS w R (.slice vp vn vc) xs cs F rk (vn : Nat) wr) := ⟨hq, fun b hb => hrk b (instM_sub ho b hb), hxl, hI⟩
        clear hI hxl hrk ho hq HR hm
        go_wp2_with fail
        refine HIn.out.mono ?_
        rintro e w1 ⟨va, rfl, hva, d1, g1⟩
        obtain ⟨ap, an, ac, rfl⟩ : ∃ p n cp, va = .slice p n cp := by
          rcases hva.2 with ⟨h, _⟩ | ⟨g, cap, cur, h, _⟩
          · exact ⟨_, _, _, h⟩
          · exact ⟨_, _, _, h⟩
        have gA : Below w1.heap.size w1 (w1.alloc (.cells #[.int .i64 x.code, .int .i64 x.one.op, .slice ap an ac] 56)) := (Below.refl _ _).alloc (Nat.le_refl _) _
        have hL := (HE.out.2.2.2.read d1 g1).later gA
        have own3 := hL.2.2.2.1
        have hA1 : ArgsOwn (w1.alloc (.cells #[.int .i64 x.code, .int .i64 x.one.op, .slice ap an ac] 56)) w.heap.size (Value.slice ap an ac).ownBlock.toList (.slice ap an ac) x.one.args := args_of ((hva.mono (by have := HE.out.2.2.2.2.2.2.2.2.size; omega)).alloc _)
        have hdis : ∀ b ∈ (Value.slice ap an ac).ownBlock.toList, b ∉ (Value.slice vp vn vc).ownBlock.toList ++ F := fun b hb hm => by
          have h1 := (World.ownsRow.lt hva b (by simpa using hb)).1
          have h2 := (HE.out.2.2.2.bounds b hm).2
          omega
        have hsz : w.heap.size ≤ w1.heap.size := Nat.le_trans HE.out.2.2.2.2.2.2.2.2.size g1.size
        have hfn : (Value.slice ap an ac).ownBlock.toList.Nodup := by cases (Value.slice ap an ac).ownBlock <;> simp
        have HP : Hid (LS w R (.slice vp vn vc) xs cs F rk1 (vn : Nat) (w1.alloc (.cells #[.int .i64 x.code, .int .i64 x.one.op, .slice ap an ac] 56)) ∧ ArgsOwn (w1.alloc (.cells #[.int .i64 x.code, .int .i64 x.one.op, .slice ap an ac] 56)) w.heap.size (Value.slice ap an ac).ownBlock.toList (.slice ap an ac) x.one.args ∧ (Value.slice ap an ac).ownBlock.toList.Nodup ∧ (∀ b ∈ (Value.slice ap an ac).ownBlock.toList, b ∉ (Value.slice vp vn vc).ownBlock.toList ++ F)) := ⟨hL, hA1, hfn, hdis⟩
        have hxl : xs.length = vn := HE.out.2.2.1
        rw [hxl] at own3
        clear hva d1 g1 gA hL hA1 hdis hfn p0 p1 HIn
        go_wp2_with (at_builtin; refine wpList_append_lies _ rfl _ _ 24 rfl w.heap.size 56 i0 (.agg #[.int .i64 0, .int .i64 0, .slice none 0 0]) 3 40 Tryd.underlying24 hi hz0 hz1 hz2 rfl (by decide) _ vn cs rfl own3 ⟨w1.heap.size, 0, none⟩ 1 1 [.int .i64 x.code, .int .i64 x.one.op, .slice ap an ac] rfl rfl (cell_three18 _ _ _ _ _) ?c2 (by omega) ?c3 ?c4 ?c5 _ rfl ?_)
        case c2 => intro u hu; simp at hu; rcases hu with rfl | rfl | rfl <;> rfl
        case c3 => unfold maxLen; omega
        case c4 => omega
        case c5 => simp; omega
        intro g' cap' w6 own6 g6 hat hlt6
        have key : LS w R (.slice (some ⟨g', 0, none⟩) (xs.length + 1) cap') (xs ++ [x]) (cs ++ [.int .i64 x.code, .int .i64 x.one.op, .slice ap an ac]) (F ++ (Value.slice ap an ac).ownBlock.toList) rk1 (vn : Nat) w6 := LS.put HP.out.1 HP.out.2.1 HP.out.2.2.1 HP.out.2.2.2 (by rw [hxl]; exact own6) g6 (by simpa using hat)
        obtain ⟨ra, rcap, R1, _⟩ := key.1
        have p1 : w6.cell? ⟨R, 1, none⟩ = some (.int .i64 (vn : Nat)) := (cell_of_row _ _ _ _ _ _ R1).trans rfl
        have q1 : w6.frozen? ⟨R, 1, none⟩ = false := by simp [World.frozen?, R1]
        have HNx : Hid (∃ xs2 cs F rk, LS w R (.slice (some ⟨g', 0, none⟩) (vn + 1) cap') xs2 cs F rk ((vn + 1 : Nat) : Int) (w6.setCell ⟨R, 1, none⟩ (.int .i64 ((vn : Int) + 1))) ∧ xs2.length = vn + 1 ∧ (∀ b ∈ rk, b < 256) ∧ (instsM (N - (vn + 1)) ((vn + 1 : Nat) : Int) rk = .inl (ec, ea) ∨ (∃ XS b r', instsM (N - (vn + 1)) ((vn + 1 : Nat) : Int) rk = .inr (XS, b :: r') ∧ ec = 7 ∧ ea = N))) := ⟨_, _, _, _, by rw [← hxl]; exact key.setAt _, by simp [hxl], HE.out.2.1, HE.out.1⟩
        clear own3 own6 g6 hat hlt6 key HP HE R1 hxl
        go_wp2
        go_roundw
        case rel => exact ⟨_, vn + 1, rfl, by omega, HNx⟩
        case measure => simp [sliceLen18]; omega
    · have il : ¬ ((vn : Int) < (N : Int)) := by omega
      have hkn : N - vn = 0 := by omega
      have hE : (∃ b r', rk = b :: r') ∧ ec = 7 ∧ ea = N := by
        rw [hkn] at hargs
        unfold instsM at hargs
        rcases hargs with hargs | ⟨XS, b, r', hargs, hh⟩
        · cases hargs
        · simp only [Sum.inr.injEq, Prod.mk.injEq] at hargs
          exact ⟨⟨b, r', hargs.2⟩, hh⟩
      obtain ⟨⟨b, r', rfl⟩, rfl, rfl⟩ := hE
      have hvN : vn = N := by omega
      have HT : Hid (Calls Tryd.prog 53 #[.pointer (some ⟨R, 0, none⟩), .int .i64 7] wr fun e w' => e = tld 7 (N : Nat) ∧ wr = w') := by rw [← hvN]; exact tell_i R _ _ 7 wr hI.1
      have HF : Hid (RdP R 7 (N : Nat) w (tld 7 (N : Nat)) wr) := ⟨rfl, hI.2.2.2.2.2⟩
      unfold tld at HT HF
      have ir : (0 : Int) < (((b :: r').length : Nat) : Int) := by simp <;> omega
      obtain ⟨LL, hLL⟩ : ∃ LL, (b :: r').length = LL := ⟨_, rfl⟩
      rw [hLL] at ir p0
      clear hI HR hxl hrk hkn H0 hargs hvN hLL
      go_wp2_with fail
      refine HT.out.mono ?_
      rintro e w3 ⟨rfl, rfl⟩
      go_wp2
      exact ⟨rfl, HF.out⟩
end Go.Proofs.YtcihplachlokiaaDoor
/- Images read: the program's picPair and picEnvelopeWrong. -/
namespace Go.Proofs.YtcihplachlokiaaDoor
open Go.RowKit Go.Shelf
set_option linter.unusedVariables false
set_option linter.unusedSimpArgs false

set_option maxHeartbeats 400000 in
theorem pair_i (a : Option Addr) (n c k : Nat) (f : Nat → Nat) (hf : ∀ j, f j < 256) (w : World) (hn : n ≤ 1048576) (hk : k + 1 < n) (h : Bt w a n f) :
    Calls Tryd.prog 31 #[.slice a n c, .int .i64 k] w fun e w' => e = .returned (.int .i64 ((f k * 256 + f (k + 1) : Nat) : Int)) ∧ Below w.heap.size w w' := by
  obtain ⟨g, o, rfl, hg, hcs⟩ : ∃ g o, a = some ⟨g, o, none⟩ ∧ g < w.heap.size ∧ ∀ j, j < n → w.cell? ⟨g, o + j, none⟩ = some (.int .u8 (f j)) := by
    rcases h with h | h
    · omega
    · exact h
  have c0 := hcs k (by omega)
  have c1 := hcs (k + 1) hk
  have i0 : (k : Int) < (n : Int) := by omega
  have i1 : (k : Int) + 1 < (n : Int) := by omega
  have o1 := or_u16 (f k) (f (k + 1)) (hf _) (hf _)
  have bA := hf k
  have bB := hf (k + 1)
  obtain ⟨A, hA⟩ : ∃ A, f k = A := ⟨_, rfl⟩
  obtain ⟨B, hB⟩ : ∃ A, f (k + 1) = A := ⟨_, rfl⟩
  rw [hA] at c0 o1 bA ⊢
  rw [hB] at c1 o1 bB ⊢
  obtain ⟨V, hV, HV⟩ : ∃ V : Int, ((A * 256 + B : Nat) : Int) = V ∧ Hid (V = ((A * 256 + B : Nat) : Int)) := ⟨_, rfl, rfl⟩
  rw [hV] at o1 ⊢
  have bV : 0 ≤ V ∧ V < 65536 := by rw [HV.out]; omega
  clear hV hcs hA hB h
  go_enter Tryd.func31, Tryd.ntmps31
  go_wp2
  go_quiet (fail)
  go_wp2
  go_ret
  exact ⟨rfl, below_drewN _ _⟩

/-- What is wrong with the head and the sum, of n bytes. -/
def envW (f : Nat → Nat) (n : Nat) : Int :=
  if n < 8 ∨ 20008 < n then 4 else if f 0 ≠ 83 ∨ f 1 ≠ 116 ∨ f 2 * 256 + f 3 ≠ n then 4 else if sumF f (n - 2) ≠ f (n - 2) * 256 + f (n - 1) then 5 else 0

set_option maxRecDepth 10000 in
set_option maxHeartbeats 2000000 in
theorem env_i (a : Option Addr) (n c : Nat) (f : Nat → Nat) (hf : ∀ j, f j < 256) (w : World) (hn : n ≤ 1048576) (hc : n ≤ c) (h : Bt w a n f) :
    Calls Tryd.prog 28 #[.slice a n c] w fun e w' => e = .returned (.int .i64 (envW f n)) ∧ Below w.heap.size w w' := by
  by_cases h1 : n < 8
  · have i1 : (n : Int) < 8 := by omega
    have HQ : Hid (envW f n = 4) := by show _ = _; unfold envW; rw [if_pos (.inl h1)]
    clear h hf h1
    go_enter Tryd.func28, Tryd.ntmps28
    go_wp2
    go_ret
    exact ⟨by rw [HQ.out]; rfl, Below.refl _ _⟩
  have i1 : ¬ (n : Int) < 8 := by omega
  by_cases h2 : 20008 < n
  · have i2 : (20008 : Int) < (n : Int) := by omega
    have HQ : Hid (envW f n = 4) := by show _ = _; unfold envW; rw [if_pos (.inr h2)]
    clear h hf h1 h2
    go_enter Tryd.func28, Tryd.ntmps28
    go_wp2
    go_ret
    exact ⟨by rw [HQ.out]; rfl, Below.refl _ _⟩
  have i2 : ¬ (20008 : Int) < (n : Int) := by omega
  have i3 : (0 : Int) < (n : Int) := by omega
  have i4 : (1 : Int) < (n : Int) := by omega
  obtain ⟨g, o, rfl, hg, hcs⟩ : ∃ g o, a = some ⟨g, o, none⟩ ∧ g < w.heap.size ∧ ∀ j, j < n → w.cell? ⟨g, o + j, none⟩ = some (.int .u8 (f j)) := by
    rcases h with h | h
    · omega
    · exact h
  have c0 := hcs 0 (by omega)
  have c1 := hcs 1 (by omega)
  rw [Nat.add_zero] at c0
  have H12 : Hid (¬ (n < 8 ∨ 20008 < n)) := by show ¬ _; omega
  by_cases h3 : f 0 = 83
  rotate_left
  · have e3 : (((f 0 : Nat) : Int) != 83) = true := by simp; omega
    have d3 : ¬ ((f 0 : Nat) : Int) = 83 := by omega
    have HQ : Hid (envW f n = 4) := by show _ = _; unfold envW; rw [if_neg H12.out, if_pos (.inl h3)]
    clear h hf h1 h2 hcs h3
    go_enter Tryd.func28, Tryd.ntmps28
    go_wp2
    go_ret
    exact ⟨by rw [HQ.out]; rfl, Below.refl _ _⟩
  rw [h3] at c0
  by_cases h4 : f 1 = 116
  rotate_left
  · have e4 : (((f 1 : Nat) : Int) != 116) = true := by simp; omega
    have d4 : ¬ ((f 1 : Nat) : Int) = 116 := by omega
    have HQ : Hid (envW f n = 4) := by show _ = _; unfold envW; rw [if_neg H12.out, if_pos (.inr (.inl h4))]
    clear h hf h1 h2 hcs h3 h4
    go_enter Tryd.func28, Tryd.ntmps28
    go_wp2
    go_ret
    exact ⟨by rw [HQ.out]; rfl, Below.refl _ _⟩
  rw [h4] at c1
  have HP : Hid (Calls Tryd.prog 31 #[.slice (some ⟨g, o, none⟩) n c, .int .i64 2] w fun e w' => e = .returned (.int .i64 ((f 2 * 256 + f 3 : Nat) : Int)) ∧ Below w.heap.size w w') := pair_i (some ⟨g, o, none⟩) n c 2 f hf w hn (by omega) h
  obtain ⟨V, HV⟩ : ∃ V : Int, Hid (V = ((f 2 * 256 + f 3 : Nat) : Int)) := ⟨_, rfl⟩
  rw [← HV.out] at HP
  by_cases h5 : f 2 * 256 + f 3 = n
  rotate_left
  · have e5 : (V != (n : Int)) = true := by rw [HV.out]; simp; omega
    have d5 : ¬ V = (n : Int) := by rw [HV.out]; omega
    have HQ : Hid (envW f n = 4) := by show _ = _; unfold envW; rw [if_neg H12.out, if_pos (.inr (.inr h5))]
    clear h hf h1 h2 hcs h3 h4 h5
    go_enter Tryd.func28, Tryd.ntmps28
    go_wp2_with fail
    refine HP.out.mono ?_
    rintro e w1 ⟨rfl, g1⟩
    have G1 : Hid (Below w.heap.size w w1) := g1
    clear g1
    go_wp2
    go_ret
    exact ⟨by rw [HQ.out]; rfl, G1.out⟩
  have e5 : (V != (n : Int)) = false := by rw [HV.out]; simp; omega
  have d5 : V = (n : Int) := by rw [HV.out]; omega
  obtain ⟨m, rfl⟩ : ∃ m, n = m + 2 := ⟨n - 2, by omega⟩
  have HS : Hid (∀ W, Below w.heap.size w W → Calls Tryd.prog 40 #[.slice (some ⟨g, o, none⟩) m c] W fun e w' => e = .returned (.int .u16 (sumF f m : Nat)) ∧ W = w') := fun W b => psum_i (some ⟨g, o, none⟩) m c f hf W (by omega) ((h.later b (Nat.le_refl _)).take (by omega))
  have HP2 : Hid (∀ W, Below w.heap.size w W → Calls Tryd.prog 31 #[.slice (some ⟨g, o, none⟩) (m + 2 : Nat) c, .int .i64 m] W fun e w' => e = .returned (.int .i64 ((f m * 256 + f (m + 1) : Nat) : Int)) ∧ Below W.heap.size W w') := fun W b => pair_i (some ⟨g, o, none⟩) (m + 2) c m f hf W hn (by omega) (h.later b (Nat.le_refl _))
  have fm := hf m
  have fm1 := hf (m + 1)
  obtain ⟨U, hU, HU⟩ : ∃ U : Int, ((f m * 256 + f (m + 1) : Nat) : Int) = U ∧ Hid (U = ((f m * 256 + f (m + 1) : Nat) : Int)) := ⟨_, rfl, rfl⟩
  have bU : 0 ≤ U ∧ U < 65536 := by rw [HU.out]; omega
  obtain ⟨T, HT⟩ : ∃ U : Int, Hid (U = ((sumF f m : Nat) : Int)) := ⟨_, rfl⟩
  rw [hU] at HP2
  rw [← HT.out] at HS
  have i6 : (2 : Int) ≤ ((m + 2 : Nat) : Int) := by omega
  have i7 : ((m + 2 : Nat) : Int) - 2 = (m : Int) := by omega
  have H12' : Hid (envW f (m + 2) = if sumF f m ≠ f m * 256 + f (m + 1) then 5 else 0) := by
    show _ = _
    unfold envW
    rw [if_neg H12.out, if_neg (by omega)]
    rfl
  have i8 : (m : Int) ≤ (c : Int) := by omega
  have HFin : Hid (T = U ↔ sumF f m = f m * 256 + f (m + 1)) := by show _ ↔ _; rw [HT.out, HU.out]; omega
  clear h hf h1 h2 h3 h4 h5 hU hcs fm fm1
  go_enter Tryd.func28, Tryd.ntmps28
  go_wp2_with fail
  refine HP.out.mono ?_
  rintro e w1 ⟨rfl, g1⟩
  have G1 : Hid (Below w.heap.size w w1) := g1
  clear g1 HP
  go_wp2_with fail
  refine (HS.out w1 G1.out).mono ?_
  rintro e w2 ⟨rfl, rfl⟩
  go_wp2_with fail
  refine (HP2.out w1 G1.out).mono ?_
  rintro e w2 ⟨rfl, g2⟩
  have G2 : Hid (Below w.heap.size w w2) := G1.out.trans (g2.mono G1.out.size)
  clear g2 HP2 HS G1
  by_cases hTU : T = U
  · have HQ : Hid (envW f (m + 2) = 0) := by show _ = _; rw [H12'.out, if_neg (by simp; exact HFin.out.1 hTU)]
    have e6 : (T != U) = false := by simp [hTU]
    clear H12' HFin
    go_wp2
    go_ret
    exact ⟨by rw [HQ.out]; rfl, G2.out⟩
  · have HQ : Hid (envW f (m + 2) = 5) := by show _ = _; rw [H12'.out, if_pos (fun h => hTU (HFin.out.2 h))]
    have e6 : (T != U) = true := by simp [hTU]
    clear H12' HFin
    go_wp2
    go_ret
    exact ⟨by rw [HQ.out]; rfl, G2.out⟩
end Go.Proofs.YtcihplachlokiaaDoor
/- PicRead of the program: what is told is recovered. -/
namespace Go.Proofs.YtcihplachlokiaaDoor
open Go.RowKit Go.Shelf
set_option linter.unusedVariables false
set_option linter.unusedSimpArgs false

theorem rcatch_idle (p q : Addr) (w : World) :
    CallsD Tryd.prog 29 #[.pointer (some p), .pointer (some q)] .returning w fun e u' w' => e = .returned (.tuple #[]) ∧ u' = .returning ∧ w' = w := by
  refine callsD_of_wpS Tryd.func29 rfl fun c₀ cs hu => ?_
  apply wpS_seq
  apply wpS_region
  simp [wpOpsS, go_sem, recoverD, hu, Tryd.ntmps29, Exit.thenS]
  apply wpS_seq
  apply wpS_region
  simp [wpOpsS, go_sem, Exit.thenS]
  refine wpS_cond (t := false) (by simp [Act.eval, Array.replicate]) ?_
  simp only [Bool.false_eq_true, if_false]
  refine wpS_of_wp (wp_skip ?_)
  cases c₀
  simp_all [bodyPostS, results, Tryd.results29]
set_option maxRecDepth 100000 in
theorem rcatch_thrown (g1 g2 : Nat) (c a x y : Int) (v : Value) (w : World) (h1 : w.heap[g1]? = some (.cells #[v] 24 (0, 0))) (h : w.heap[g2]? = some (.cells #[.int .i64 x, .int .i64 y] 26 (0, 0))) (hne : g1 ≠ g2) :
    CallsD Tryd.prog 29 #[.pointer (some ⟨g1, 0, none⟩), .pointer (some ⟨g2, 0, none⟩)] (.panicking [{ v := .iface 26 (.agg #[.int .i64 c, .int .i64 a]), recovered := false }]) w fun e u' w' => e = .returned (.tuple #[]) ∧ u' = .panicking [{ v := .iface 26 (.agg #[.int .i64 c, .int .i64 a]), recovered := true }] ∧ w' = (((w.setCell ⟨g1, 0, none⟩ (.slice none 0 0)).setCell ⟨g2, 0, none⟩ (.int .i64 c)).setCell ⟨g2, 1, none⟩ (.int .i64 a)).drew := by
  have j0 : w.cell? ⟨g1, 0, none⟩ = some v := (cell_of_row _ _ _ _ _ _ h1).trans rfl
  have m0 : w.frozen? ⟨g1, 0, none⟩ = false := (there_row h1 0 1 (by simp) 0 (by omega)).2
  have k0 : w.cell? ⟨g2, 0, none⟩ = some (.int .i64 x) := (cell_of_row _ _ _ _ _ _ h).trans rfl
  have k1 : w.cell? ⟨g2, 1, none⟩ = some (.int .i64 y) := (cell_of_row _ _ _ _ _ _ h).trans rfl
  have f0 : w.frozen? ⟨g2, 0, none⟩ = false := (there_row h 0 2 (by simp) 0 (by omega)).2
  have f1 : w.frozen? ⟨g2, 1, none⟩ = false := (there_row h 0 2 (by simp) 1 (by omega)).2
  have hne' : g2 ≠ g1 := fun e => hne e.symm
  refine callsD_of_wpS Tryd.func29 rfl fun c₀ cs hu => ?_
  apply wpS_seq
  apply wpS_region
  simp [wpOpsS, go_sem, recoverD, hu, Tryd.ntmps29, Exit.thenS]
  apply wpS_seq
  apply wpS_region
  simp [wpOpsS, go_sem, Exit.thenS]
  refine wpS_cond (t := true) (by simp [Act.eval, Array.replicate]) ?_
  simp only [if_true]
  have hta : ∀ (t : TypeId) (x : Value) (W : World), (Instr.typeAssert (.iface 26 x) t 26 false).run Tryd.prog W = .ok x W := fun t x W => by kernel_rfl
  refine wpS_of_wp ?_
  go_region
  all_goals simp [bodyPostS, results, Tryd.results29]

theorem results_cell2 {P : Program} {fn : Func} {p p2 : Tmp} {ty ty2 : TypeId} (hf : fn.results = #[.cell p ty, .cell p2 ty2]) {tmps : Array Value} {w : World} {g g2 : Nat} (hp : tmps.getD p undef = .pointer (some ⟨g, 0, none⟩)) (hp2 : tmps.getD p2 undef = .pointer (some ⟨g2, 0, none⟩))
    {v v2 : Value} (h1 : (loadVar ty ⟨g, 0, none⟩).run P w = .ok v w) (h2 : (loadVar ty2 ⟨g2, 0, none⟩).run P w = .ok v2 w) : (results fn tmps).run P w = .ok (.tuple #[v, v2]) w := by
  have hp' : tmps[p]?.getD undef = .pointer (some ⟨g, 0, none⟩) := by simpa using hp
  have hp2' : tmps[p2]?.getD undef = .pointer (some ⟨g2, 0, none⟩) := by simpa using hp2
  simp [results, hf, hp', hp2', asAddr, h1, h2]
end Go.Proofs.YtcihplachlokiaaDoor
/- PicRead of the program. -/
namespace Go.Proofs.YtcihplachlokiaaDoor
open Go.RowKit Go.Shelf
set_option linter.unusedVariables false
set_option linter.unusedSimpArgs false

/-- The two boxes of the results. -/
def Bx (w : World) (v : Value) (x y : Int) (W : World) : Prop :=
  W.heap[w.heap.size]? = some (.cells #[v] 24 (0, 0)) ∧ W.heap[w.heap.size + 1]? = some (.cells #[.int .i64 x, .int .i64 y] 26 (0, 0)) ∧ Below w.heap.size w W
theorem Bx.start (w : World) : Bx w (.slice none 0 0) 0 0 ((w.alloc (.cells #[.slice none 0 0] 24)).alloc (.cells #[.int .i64 0, .int .i64 0] 26)) := by
  have b1 : Below w.heap.size w (w.alloc (.cells #[.slice none 0 0] 24)) := (Below.refl _ _).alloc (Nat.le_refl _) _
  have b2 : Below (w.heap.size + 1) (w.alloc (.cells #[.slice none 0 0] 24)) ((w.alloc (.cells #[.slice none 0 0] 24)).alloc (.cells #[.int .i64 0, .int .i64 0] 26)) := (Below.refl _ _).alloc (by simp) _
  refine ⟨(b2.block _ (by omega)).trans (heap_alloc_last _ _), ?_, b1.trans (b2.mono (by omega))⟩
  have := heap_alloc_last (w.alloc (.cells #[.slice none 0 0] 24)) (.cells #[.int .i64 0, .int .i64 0] 26)
  simpa using this
theorem Bx.lt {w W : World} {v : Value} {x y : Int} (h : Bx w v x y W) : w.heap.size + 2 ≤ W.heap.size := by
  have := (Array.getElem?_eq_some_iff.1 h.2.1).1
  omega
theorem Bx.later {w W W' : World} {v : Value} {x y : Int} (h : Bx w v x y W) (g : Below W.heap.size W W') : Bx w v x y W' := by
  have := h.lt
  exact ⟨(g.block _ (by omega)).trans h.1, (g.block _ (by omega)).trans h.2.1, h.2.2.trans (g.mono h.2.2.size)⟩
theorem Bx.facts {w W : World} {v : Value} {x y : Int} (h : Bx w v x y W) : W.cell? ⟨w.heap.size, 0, none⟩ = some v ∧ W.cell? ⟨w.heap.size + 1, 0, none⟩ = some (.int .i64 x) ∧ W.cell? ⟨w.heap.size + 1, 1, none⟩ = some (.int .i64 y) ∧ W.frozen? ⟨w.heap.size, 0, none⟩ = false ∧ W.frozen? ⟨w.heap.size + 1, 0, none⟩ = false ∧ W.frozen? ⟨w.heap.size + 1, 1, none⟩ = false :=
  ⟨(cell_of_row _ _ _ _ _ _ h.1).trans rfl, (cell_of_row _ _ _ _ _ _ h.2.1).trans rfl, (cell_of_row _ _ _ _ _ _ h.2.1).trans rfl, by simp [World.frozen?, h.1], by simp [World.frozen?, h.2.1], by simp [World.frozen?, h.2.1]⟩
theorem Bx.put {w W : World} {v : Value} {x y : Int} (h : Bx w v x y W) (v2 : Value) (x2 y2 : Int) : Bx w v2 x2 y2 (((W.setCell ⟨w.heap.size, 0, none⟩ v2).setCell ⟨w.heap.size + 1, 0, none⟩ (.int .i64 x2)).setCell ⟨w.heap.size + 1, 1, none⟩ (.int .i64 y2)) := by
  obtain ⟨h1, h2, h3⟩ := h
  refine ⟨row_other (row_other (row_put h1 0 v2) _ _ (by omega) _) _ _ (by omega) _, row_put (row_put (row_other h2 _ _ (by omega) _) 0 (.int .i64 x2)) 1 (.int .i64 y2), ?_⟩
  exact ((h3.setCell (p := ⟨w.heap.size, 0, none⟩) (Nat.le_refl _) _).setCell (p := ⟨w.heap.size + 1, 0, none⟩) (Nat.le_succ _) _).setCell (p := ⟨w.heap.size + 1, 1, none⟩) (Nat.le_succ _) _
theorem Bx.res {w W : World} {v : Value} {x y : Int} (h : Bx w v x y W) {fn : Func} (hf : fn.results = #[.cell 2 24, .cell 3 26]) (tmps : Array Value) (hp : tmps.getD 2 undef = .pointer (some ⟨w.heap.size, 0, none⟩)) (hp2 : tmps.getD 3 undef = .pointer (some ⟨w.heap.size + 1, 0, none⟩)) :
    (results fn tmps).run Tryd.prog W = .ok (.tuple #[v, .agg #[.int .i64 x, .int .i64 y]]) W := by
  obtain ⟨x0, x1, x2, y0, y1, y2⟩ := h.facts
  have hl : (loadVar 24 ⟨w.heap.size, 0, none⟩).run Tryd.prog W = .ok v W := by simp [go_sem, isAgg, Tryd.underlying24, x0]
  refine results_cell2 hf hp hp2 hl (run_loadVar_row W (w.heap.size + 1) _ 26 _ _ _ h.2.1 Tryd.underlying26 rfl (by kernel_rfl))
/-- What is read of n bytes: what is wrong and where, or the list. -/
def readM (f : Nat → Nat) (n : Nat) : (Int × Int) ⊕ List InstT :=
  if envW f n ≠ 0 then .inl (envW f n, 0) else listM (f 4 * 256 + f 5) ((List.range (n - 8)).map fun j => f (6 + j))
def rfT : (Int × Int) ⊕ List InstT → Int × Int
  | .inl e => e
  | .inr _ => (0, 0)
def rlT : (Int × Int) ⊕ List InstT → List InstT
  | .inl _ => []
  | .inr xs => xs
def ReadR (m : (Int × Int) ⊕ List InstT) (w : World) (e : Ending) (w' : World) : Prop :=
  ∃ v F, e = .returned (.tuple #[v, .agg #[.int .i64 (rfT m).1, .int .i64 (rfT m).2]]) ∧ InstsOwn w' w.heap.size F v (rlT m) ∧ F.Nodup ∧ Below w.heap.size w w'
theorem ReadR.no {c a : Int} {m : (Int × Int) ⊕ List InstT} (hm : m = .inl (c, a)) {w w' : World} (g : Below w.heap.size w w') : ReadR m w (.returned (.tuple #[.slice none 0 0, .agg #[.int .i64 c, .int .i64 a]])) w' := by
  subst hm
  exact ⟨_, [], rfl, RowOwn.nil _ _ _ _ _, .nil, g⟩

set_option maxRecDepth 100000 in
set_option maxHeartbeats 4000000 in
theorem read_bad (a : Option Addr) (n c : Nat) (f : Nat → Nat) (hf : ∀ j, f j < 256) (w : World) (hn : n ≤ 1048576) (hc : n ≤ c) (h : Bt w a n f) (hE : envW f n ≠ 0) :
    Calls Tryd.prog 8 #[.slice a n c] w fun e w' => ReadR (readM f n) w e w' := by
  have hmf : ∀ (fn : Fn) (first cap : Array Value) (w : World), (Instr.makeFunc fn first cap).run Tryd.prog w = .ok (.func fn first cap) w := fun _ _ _ _ => rfl
  have hB := Bx.start w
  have HE : Hid (Calls Tryd.prog 28 #[.slice a n c] ((w.alloc (.cells #[.slice none 0 0] 24)).alloc (.cells #[.int .i64 0, .int .i64 0] 26)) fun e w' => e = .returned (.int .i64 (envW f n)) ∧ Bx w (.slice none 0 0) 0 0 w') := (env_i a n c f hf _ hn hc (h.later hB.2.2 (Nat.le_refl _))).mono fun e w' ⟨a, b⟩ => ⟨a, hB.later b⟩
  obtain ⟨E, HEq⟩ : ∃ E, Hid (E = envW f n) := ⟨_, rfl⟩
  have HM : Hid (readM f n = .inl (E, 0)) := by show _ = _; unfold readM; rw [if_pos hE, HEq.out]
  rw [← HEq.out] at HE hE
  clear h hB
  go_enter_defers Tryd.func8, Tryd.ntmps8
  go_wp2_with fail
  refine HE.out.mono ?_
  rintro e w1 ⟨rfl, h1⟩
  obtain ⟨x0, x1, x2, y0, y1, y2⟩ := h1.facts
  have H1 : Hid (Bx w (.slice none 0 0) 0 0 w1) := h1
  have e1 : (E != 0) = true := by simpa using hE
  clear h1 HE
  go_wp2
  have H2 := H1.out.put (.slice none 0 0) E 0
  refine ⟨_, H2.res rfl _ (by rfl) (by rfl), ReadR.no HM.out H2.2.2⟩
end Go.Proofs.YtcihplachlokiaaDoor
/- PicRead of the program, behind the envelope. -/
namespace Go.Proofs.YtcihplachlokiaaDoor
open Go.RowKit Go.Shelf
set_option linter.unusedVariables false
set_option linter.unusedSimpArgs false

/-- The bytes between the head and the sum. -/
def midL (f : Nat → Nat) (m : Nat) : List Nat := (List.range m).map fun j => f (6 + j)
theorem mid_len (f : Nat → Nat) (m : Nat) : (midL f m).length = m := by simp [midL]
theorem mid_at (f : Nat → Nat) (m j : Nat) (h : j < m) : atL (midL f m) j = f (6 + j) := by simp [atL, midL, h]
theorem mid_lt (f : Nat → Nat) (hf : ∀ j, f j < 256) (m : Nat) : ∀ b ∈ midL f m, b < 256 := by
  intro b hb
  simp only [midL, List.mem_map] at hb
  obtain ⟨j, _, rfl⟩ := hb
  exact hf _
theorem env_zero {f : Nat → Nat} {n : Nat} (h : envW f n = 0) : 8 ≤ n ∧ n ≤ 20008 := by
  unfold envW at h
  split at h
  · simp at h
  · omega
/-- The two ways in which the reading of a list ends. -/
theorem list_go (R N : Nat) (r : List Nat) (w : World) (hr : ∀ b ∈ r, b < 256) (h : Rd R r 0 w) :
    (∀ xs, listM N r = .inr xs → Calls Tryd.prog 30 #[.pointer (some ⟨R, 0, none⟩), .int .i64 N] w fun e w' => RdL R xs w e w') ∧
    (∀ c a, listM N r = .inl (c, a) → Calls Tryd.prog 30 #[.pointer (some ⟨R, 0, none⟩), .int .i64 N] w fun e w' => RdP R c a w e w') := by
  unfold listM
  by_cases hN : 1000 < N
  · rw [if_pos hN]
    refine ⟨fun xs hh => by simp at hh, fun c a hh => ?_⟩
    simp at hh
    obtain ⟨rfl, rfl⟩ := hh
    exact list_many R N r w hN h
  rw [if_neg hN]
  cases hi : instsM N 0 r with
  | inl e =>
    refine ⟨fun xs hh => by simp at hh, fun c a hh => ?_⟩
    simp only [Sum.inl.injEq] at hh
    subst hh
    exact list_no R N r c a w (by omega) hr (.inl hi) h
  | inr q =>
    obtain ⟨XS, r'⟩ := q
    cases r' with
    | nil =>
      refine ⟨fun xs hh => ?_, fun c a hh => by simp at hh⟩
      simp at hh
      subst hh
      exact list_ok R N r XS w (by omega) hr hi h
    | cons b r' =>
      refine ⟨fun xs hh => by simp at hh, fun c a hh => ?_⟩
      simp at hh
      obtain ⟨rfl, rfl⟩ := hh
      exact list_no R N r 7 N w (by omega) hr (.inr ⟨XS, b, r', hi, rfl, rfl⟩) h

theorem Bx.gr {w W W' : World} {v : Value} {x y : Int} {R : Nat} (h : Bx w v x y W) (g : W.grownBy W' (some R)) (hR : w.heap.size + 2 ≤ R) : Bx w v x y W' := by
  have := h.lt
  refine ⟨(g.block _ (by omega) (by simp; omega)).trans h.1, (g.block _ (by omega) (by simp; omega)).trans h.2.1, h.2.2.grown g (by omega) (fun j hj => by cases hj; omega)⟩
theorem Bx.drew {w W : World} {v : Value} {x y : Int} (h : Bx w v x y W) : Bx w v x y W.drew := ⟨h.1, h.2.1, h.2.2.drew⟩
/-- What is owned stays owned when the boxes are written. -/
theorem insts_put {w W : World} {base : Nat} {F : List Nat} {v : Value} {xs : List InstT} (h : InstsOwn W base F v xs) (hb : w.heap.size + 2 ≤ base) (v2 : Value) (x2 y2 : Int) :
    InstsOwn (((W.setCell ⟨w.heap.size, 0, none⟩ v2).setCell ⟨w.heap.size + 1, 0, none⟩ (.int .i64 x2)).setCell ⟨w.heap.size + 1, 1, none⟩ (.int .i64 y2)) w.heap.size F v xs := by
  have hl := InstsOwn.lt h
  have s1 : ∀ (W : World) (b o : Nat) (u : Value), b < base → InstsOwn W base F v xs → InstsOwn (W.setCell ⟨b, o, none⟩ u) base F v xs := fun W b o u hlt h => InstsOwn.move (row := some b) h (gb_set18 (gb_refl18 _ _) _ _) (fun j hj e => by have := (InstsOwn.lt h j hj).1; cases e; omega)
  exact insts_base (s1 _ _ _ _ (by omega) (s1 _ _ _ _ (by omega) (s1 _ _ _ _ (by omega) h))) (by omega)

set_option maxRecDepth 100000 in
set_option maxHeartbeats 4000000 in
theorem read_good (a : Option Addr) (n c : Nat) (f : Nat → Nat) (hf : ∀ j, f j < 256) (w : World) (hc : n ≤ c) (h : Bt w a n f) (hE : envW f n = 0) :
    Calls Tryd.prog 8 #[.slice a n c] w fun e w' => ReadR (readM f n) w e w' := by
  have hmf : ∀ (fn : Fn) (first cap : Array Value) (w : World), (Instr.makeFunc fn first cap).run Tryd.prog w = .ok (.func fn first cap) w := fun _ _ _ _ => rfl
  have hn8 := env_zero hE
  obtain ⟨m, rfl⟩ : ∃ m, n = m + 8 := ⟨n - 8, by omega⟩
  obtain ⟨g, o, rfl, hg, hcs⟩ : ∃ g o, a = some ⟨g, o, none⟩ ∧ g < w.heap.size ∧ ∀ j, j < m + 8 → w.cell? ⟨g, o + j, none⟩ = some (.int .u8 (f j)) := by
    rcases h with h | h
    · omega
    · exact h
  have hB := Bx.start w
  have HE : Hid (Calls Tryd.prog 28 #[.slice (some ⟨g, o, none⟩) (m + 8 : Nat) c] ((w.alloc (.cells #[.slice none 0 0] 24)).alloc (.cells #[.int .i64 0, .int .i64 0] 26)) fun e w' => e = .returned (.int .i64 0) ∧ Bx w (.slice none 0 0) 0 0 w') := (env_i (some ⟨g, o, none⟩) (m + 8) c f hf _ (by omega) hc (h.later hB.2.2 (Nat.le_refl _))).mono fun e w' ⟨a, b⟩ => ⟨by rw [a, hE], hB.later b⟩
  have HR : Hid (∀ W, Bx w (.slice none 0 0) 0 0 W → Rd W.heap.size (midL f m) 0 (W.alloc (.cells #[.slice (some ⟨g, o + 6, none⟩) m (c - 6), .int .i64 0] 61))) := fun W hW => by
    refine ⟨some ⟨g, o + 6, none⟩, c - 6, by rw [mid_len]; exact heap_alloc_last _ _, ?_, by rw [mid_len]; omega, fun g' o' e => ?_⟩
    · refine .inr ⟨g, o + 6, rfl, by have := hW.lt; simp; omega, fun j hj => ?_⟩
      rw [mid_len] at hj
      rw [mid_at f m j hj, World.cell?_alloc_past _ _ _ (by show g < W.heap.size; have := hW.lt; omega), show o + 6 + j = o + (6 + j) by omega]
      exact (hW.2.2.cell (p := ⟨g, o + (6 + j), none⟩) hg).trans (hcs (6 + j) (by omega))
    · simp only [Option.some.injEq, Addr.mk.injEq] at e
      have := hW.lt
      omega
  have HP : Hid (∀ W, Bx w (.slice none 0 0) 0 0 W → Calls Tryd.prog 31 #[.slice (some ⟨g, o, none⟩) (m + 8 : Nat) c, .int .i64 4] W fun e w' => e = .returned (.int .i64 ((f 4 * 256 + f 5 : Nat) : Int)) ∧ Below W.heap.size W w') := fun W hW => pair_i (some ⟨g, o, none⟩) (m + 8) c 4 f hf W (by omega) (by omega) (h.later hW.2.2 (Nat.le_refl _))
  have HM : Hid (readM f (m + 8) = listM (f 4 * 256 + f 5) (midL f m) ∧ (∀ b ∈ midL f m, b < 256)) := ⟨by unfold readM; rw [if_neg (by simp [hE])]; rfl, mid_lt f hf m⟩
  obtain ⟨N, HN⟩ : ∃ N, Hid (N = f 4 * 256 + f 5) := ⟨_, rfl⟩
  rw [← HN.out] at HP HM
  have i1 : (6 : Int) ≤ ((m + 8 : Nat) : Int) - 2 := by omega
  have i2 : ((m + 8 : Nat) : Int) - 2 ≤ (c : Int) := by omega
  have i3 : ((m + 8 : Nat) : Int) - 2 = ((m + 6 : Nat) : Int) := by omega
  clear h hB hcs hE
  go_enter_defers Tryd.func8, Tryd.ntmps8
  go_wp2_with fail
  refine HE.out.mono ?_
  rintro e w1 ⟨rfl, h1⟩
  have H1 : Hid (Bx w (.slice none 0 0) 0 0 w1 ∧ g < w1.heap.size) := ⟨h1, by have := h1.lt; omega⟩
  clear h1 HE
  go_wp2_with fail
  have hB1 : Bx w (.slice none 0 0) 0 0 (w1.alloc (.cells #[.slice (some ⟨g, o + 6, none⟩) m (c - 6), .int .i64 0] 61)) := H1.out.1.later ((Below.refl _ _).alloc (Nat.le_refl _) _)
  refine (HP.out _ hB1).mono ?_
  rintro e w2 ⟨rfl, b2⟩
  have hR2 : Rd w1.heap.size (midL f m) 0 w2 := (HR.out w1 H1.out.1).later b2
  have hL := list_go w1.heap.size N (midL f m) w2 HM.out.2 hR2
  have hB2 := hB1.later b2
  have hRl : w.heap.size + 2 ≤ w1.heap.size := H1.out.1.lt
  obtain ⟨R, hRR⟩ : ∃ R, w1.heap.size = R := ⟨_, rfl⟩
  rw [hRR] at hL hRl ⊢
  have H2 : Hid (Bx w (.slice none 0 0) 0 0 w2 ∧ w.heap.size + 2 ≤ R) := ⟨hB2, hRl⟩
  clear hB1 b2 hR2 hB2 hRl hRR H1 HP HR i1 i2 i3 hf
  cases hm : listM N (midL f m) with
  | inl q =>
    obtain ⟨ec, ea⟩ := q
    have HL : Hid (Calls Tryd.prog 30 #[.pointer (some ⟨R, 0, none⟩), .int .i64 N] w2 fun e w' => RdP R ec ea w2 e w') := hL.2 ec ea hm
    have HM2 : Hid (readM f (m + 8) = .inl (ec, ea)) := HM.out.1.trans hm
    clear hL hm HM
    go_wp2_with fail
    refine HL.out.mono ?_
    rintro e w3 ⟨rfl, g3⟩
    have hB3 := H2.out.1.gr g3 H2.out.2
    have H3 : Hid (Bx w (.slice none 0 0) 0 0 w3) := hB3
    unfold tld
    clear g3 hB3 HL H2
    go_wp2
    refine leaves_cons (f := 29) (args := #[.pointer (some ⟨w.heap.size, 0, none⟩), .pointer (some ⟨w.heap.size + 1, 0, none⟩)]) (by simp) (by simp [go_sem]) ?_
    refine (rcatch_thrown _ _ _ _ _ _ _ _ H3.out.1 H3.out.2.1 (by omega)).mono ?_
    rintro e u' w4 ⟨rfl, rfl, rfl⟩
    have H4 := (H3.out.put (.slice none 0 0) ec ea).drew
    exact ⟨_, H4.res rfl _ (by rfl) (by rfl), ReadR.no HM2.out H4.2.2⟩
  | inr XS =>
    have HL : Hid (Calls Tryd.prog 30 #[.pointer (some ⟨R, 0, none⟩), .int .i64 N] w2 fun e w' => RdL R XS w2 e w') := hL.1 XS hm
    have HM2 : Hid (readM f (m + 8) = .inr XS) := HM.out.1.trans hm
    clear hL hm HM
    go_wp2_with fail
    refine HL.out.mono ?_
    rintro e w3 ⟨v, F, rfl, hI, hF, g3⟩
    obtain ⟨vp, vn, vc, rfl⟩ : ∃ p n cp, v = .slice p n cp := by
      obtain ⟨cs, F', _, ho, _⟩ := hI
      rcases ho.2 with ⟨h, _⟩ | ⟨g, cap, cur, h, _⟩
      · exact ⟨_, _, _, h⟩
      · exact ⟨_, _, _, h⟩
    have hB3 := H2.out.1.gr g3 H2.out.2
    have H3 : Hid (Bx w (.slice none 0 0) 0 0 w3 ∧ InstsOwn w3 w2.heap.size F (.slice vp vn vc) XS ∧ F.Nodup ∧ w.heap.size + 2 ≤ w2.heap.size) := ⟨hB3, hI, hF, H2.out.1.lt⟩
    obtain ⟨x0, x1, x2, y0, y1, y2⟩ := hB3.facts
    clear g3 hB3 hI hF HL H2
    go_wp2
    refine leaves_cons (f := 29) (args := #[.pointer (some ⟨w.heap.size, 0, none⟩), .pointer (some ⟨w.heap.size + 1, 0, none⟩)]) (by simp) (by simp [go_sem]) ?_
    refine (rcatch_idle _ _ _).mono ?_
    rintro e u' w4 ⟨rfl, rfl, rfl⟩
    have H4 := H3.out.1.put (.slice vp vn vc) 0 0
    refine ⟨_, H4.res rfl _ (by rfl) (by rfl), ?_⟩
    rw [HM2.out]
    exact ⟨_, F, rfl, insts_put H3.out.2.1 H3.out.2.2.2 _ _ _, H3.out.2.2.1, H4.2.2⟩
end Go.Proofs.YtcihplachlokiaaDoor
/- The specification's reader: take, l17Val. -/
namespace Go.Proofs.YtcihplachlokiaaDoor
open Go.RowKit Go.Shelf
set_option linter.unusedVariables false
set_option linter.unusedSimpArgs false

/-- The specification's reader: the whole, and how far it is. -/
def Sd (R : Nat) (r : List Nat) (W : World) : Prop :=
  ∃ (a : Option Addr) (cap L : Nat) (F : Nat → Nat) (k : Nat), W.heap[R]? = some (.cells #[.slice a L cap, .int .i64 (k : Nat)] 51 (0, 0)) ∧ k ≤ L ∧ L ≤ cap ∧ L ≤ 1048576 ∧ Bt W a L F ∧ (∀ g o, a = some ⟨g, o, none⟩ → g < R) ∧ r.length = L - k ∧ (∀ j, j < L - k → atL r j = F (k + j))
theorem Sd.lt {R : Nat} {r : List Nat} {W : World} (h : Sd R r W) : R < W.heap.size := by
  obtain ⟨a, cap, L, F, k, h1, _⟩ := h
  exact (Array.getElem?_eq_some_iff.1 h1).1
theorem Sd.gr {R : Nat} {r : List Nat} {W W' : World} {row : Option Nat} (h : Sd R r W) (g : W.grownBy W' row) (hR : ∀ b, row = some b → R < b) : Sd R r W' := by
  obtain ⟨a, cap, L, F, k, h1, h2, h3, h4, h5, h6, h7⟩ := h
  refine ⟨a, cap, L, F, k, (g.block _ (Array.getElem?_eq_some_iff.1 h1).1 (fun e => by have := hR R e.symm; omega)).trans h1, h2, h3, h4, ?_, h6, h7⟩
  rcases h5 with h5 | ⟨b, o, e1, e2, e3⟩
  · exact .inl h5
  · exact .inr ⟨b, o, e1, Nat.lt_of_lt_of_le e2 g.size, fun j hj => (g.cell_far (a := ⟨b, o + j, none⟩) e2 (fun e => by have := hR b e.symm; have := h6 b o e1; omega)).trans (e3 j hj)⟩
theorem Sd.later {R : Nat} {r : List Nat} {W W' : World} (h : Sd R r W) (g : Below W.heap.size W W') : Sd R r W' :=
  h.gr (row := none) ⟨g.os, g.tape, g.output, g.size, fun k hk _ => g.block k hk⟩ (fun b hb => by cases hb)

set_option maxHeartbeats 1000000 in
theorem stake_no (R n : Nat) (r : List Nat) (w : World) (hn : n ≤ 1048576) (hr : r.length < n) (h : Sd R r w) :
    Calls Tryd.prog 48 #[.pointer (some ⟨R, 0, none⟩), .int .i64 n] w fun e w' => e = .returned (.tuple #[.slice none 0 0, .bool false]) ∧ Below w.heap.size w w' := by
  obtain ⟨a, cap, L, F, k, h1, h2, h3, h4, h5, h6, h7, h8⟩ := h
  have p0 : w.cell? ⟨R, 0, none⟩ = some (.slice a L cap) := (cell_of_row _ _ _ _ _ _ h1).trans rfl
  have p1 : w.cell? ⟨R, 1, none⟩ = some (.int .i64 (k : Nat)) := (cell_of_row _ _ _ _ _ _ h1).trans rfl
  have i1 : (L : Int) - (k : Int) < (n : Int) := by omega
  clear h1 h5 h6 h7 h8
  go_enter Tryd.func48, Tryd.ntmps48
  go_wp2
  go_quiet (fail)
  go_wp2
  go_ret2
  exact ⟨rfl, below_drewN _ _⟩
/-- What a take of n bytes leaves. -/
def TkR (R n : Nat) (r : List Nat) (w : World) (e : Ending) (w' : World) : Prop :=
  ∃ g o c, e = .returned (.tuple #[.slice (some ⟨g, o, none⟩) n c, .bool true]) ∧ (g < R ∧ ∀ j, j < n → w'.cell? ⟨g, o + j, none⟩ = some (.int .u8 (atL r j : Nat))) ∧ Sd R (r.drop n) w' ∧ w.grownBy w' (some R)
set_option maxRecDepth 10000 in
set_option maxHeartbeats 1000000 in
theorem stake_ok (R n : Nat) (r : List Nat) (w : World) (hn : 0 < n) (hr : n ≤ r.length) (h : Sd R r w) :
    Calls Tryd.prog 48 #[.pointer (some ⟨R, 0, none⟩), .int .i64 n] w fun e w' => TkR R n r w e w' := by
  obtain ⟨a, cap, L, F, k, h1, h2, h3, h4, h5, h6, h7, h8⟩ := h
  obtain ⟨g, o, rfl, hg, hc⟩ : ∃ g o, a = some ⟨g, o, none⟩ ∧ g < w.heap.size ∧ ∀ j, j < L → w.cell? ⟨g, o + j, none⟩ = some (.int .u8 (F j : Nat)) := by
    rcases h5 with h5 | h5
    · omega
    · exact h5
  have p0 : w.cell? ⟨R, 0, none⟩ = some (.slice (some ⟨g, o, none⟩) L cap) := (cell_of_row _ _ _ _ _ _ h1).trans rfl
  have p1 : w.cell? ⟨R, 1, none⟩ = some (.int .i64 (k : Nat)) := (cell_of_row _ _ _ _ _ _ h1).trans rfl
  have q1 : w.frozen? ⟨R, 1, none⟩ = false := by simp [World.frozen?, h1]
  have gR := h6 g o rfl
  obtain ⟨M, hM⟩ : ∃ M, k + n = M := ⟨_, rfl⟩
  have HF : Hid (∀ p q, (∀ j, j < n → (((w.drewN p).setCell ⟨R, 1, none⟩ (.int .i64 (M : Nat))).drewN q).cell? ⟨g, o + k + j, none⟩ = some (.int .u8 (atL r j : Nat))) ∧ Sd R (r.drop n) (((w.drewN p).setCell ⟨R, 1, none⟩ (.int .i64 (M : Nat))).drewN q) ∧ w.grownBy (((w.drewN p).setCell ⟨R, 1, none⟩ (.int .i64 (M : Nat))).drewN q) (some R)) := fun p q => by
    have bP : Below w.heap.size w (w.drewN p) := below_drewN _ _
    have h1' : (w.drewN p).heap[R]? = _ := (bP.block _ (Array.getElem?_eq_some_iff.1 h1).1).trans h1
    have hg' : g < (w.drewN p).heap.size := Nat.lt_of_lt_of_le hg bP.size
    have hc' : ∀ j, j < L → (w.drewN p).cell? ⟨g, o + j, none⟩ = some (.int .u8 (F j : Nat)) := fun j hj => (bP.cell (p := ⟨g, o + j, none⟩) hg).trans (hc j hj)
    have gP : w.grownBy (w.drewN p) (some R) := ⟨bP.os, bP.tape, bP.output, bP.size, fun i hi _ => bP.block i hi⟩
    generalize w.drewN p = W0 at h1' hg' hc' gP ⊢
    have gg : w.grownBy (W0.setCell ⟨R, 1, none⟩ (.int .i64 (M : Nat))) (some R) := gb_step18 gP (gb_setR _ _)
    have hcell : ∀ j, j < L → (W0.setCell ⟨R, 1, none⟩ (.int .i64 (M : Nat))).cell? ⟨g, o + j, none⟩ = some (.int .u8 (F j : Nat)) := fun j hj => (World.cell?_setCell_other _ _ _ _ (by simp <;> omega)).trans (hc' j hj)
    have bD : Below (W0.setCell ⟨R, 1, none⟩ (.int .i64 (M : Nat))).heap.size (W0.setCell ⟨R, 1, none⟩ (.int .i64 (M : Nat))) ((W0.setCell ⟨R, 1, none⟩ (.int .i64 (M : Nat))).drewN q) := below_drewN _ _
    have sd : Sd R (r.drop n) (W0.setCell ⟨R, 1, none⟩ (.int .i64 (M : Nat))) := by
      refine ⟨_, cap, L, F, M, row_put h1' 1 _, by omega, h3, h4, .inr ⟨g, o, rfl, by simpa using hg', hcell⟩, h6, by rw [List.length_drop]; omega, fun j hj => ?_⟩
      have := h8 (n + j) (by omega)
      rw [← Nat.add_assoc, hM] at this
      rw [← this]
      simp [atL, List.getD_eq_getElem?_getD]
    refine ⟨fun j hj => ?_, sd.later bD, ⟨bD.os.trans gg.os, bD.tape.trans gg.tape, bD.output.trans gg.output, Nat.le_trans gg.size bD.size, fun i hi hne => (bD.block i (Nat.lt_of_lt_of_le hi gg.size)).trans (gg.block i hi hne)⟩⟩
    rw [h8 j (by omega), show o + k + j = o + (k + j) by omega]
    exact (bD.cell (p := ⟨g, o + (k + j), none⟩) (by simpa using hg')).trans (hcell _ (by omega))
  have i1 : ¬ ((L : Int) - (k : Int) < (n : Int)) := by omega
  have i2 : (k : Int) + (n : Int) = (M : Int) := by omega
  have i3 : (M : Int) - (n : Int) = (k : Int) := by omega
  have i4 : (M : Int) ≤ (cap : Int) := by omega
  have i5 : (k : Int) ≤ (M : Int) := by omega
  have i6 : M - k = n := by omega
  have bM : (M : Int) ≤ 1048576 := by omega
  clear h1 h5 h6 h7 h8 hc hM
  go_enter Tryd.func48, Tryd.ntmps48
  go_wp2
  go_quiet (fail)
  go_wp2
  go_quiet (fail)
  go_wp2
  go_ret2
  exact ⟨g, o + k, cap - k, rfl, ⟨gR, (HF.out _ _).1⟩, (HF.out _ _).2⟩

/-- The number so far. -/
def valS (F : Nat → Nat) : Nat → Int
  | 0 => 0
  | n + 1 => valS F n * 256 + F n
theorem valS_le (F : Nat → Nat) (hF : ∀ j, F j < 256) : ∀ n, 0 ≤ valS F n ∧ valS F n < 256 ^ n
  | 0 => by simp [valS]
  | n + 1 => by
    have h1 := valS_le F hF n
    have h2 := hF n
    have h3 : (256 : Int) ^ (n + 1) = 256 ^ n * 256 := Int.pow_succ _ _
    unfold valS
    omega
/-- The number of the bytes. -/
def vlS (F : Nat → Nat) (n : Nat) : Int := if 1 < n ∧ 128 ≤ F 0 then valS F n - 256 ^ n else valS F n
theorem vl_1 (F : Nat → Nat) : vlS F 1 = vl1 (F 0) := by simp [vlS, valS, vl1]
theorem vl_2 (F : Nat → Nat) (hF : ∀ j, F j < 256) : vlS F 2 = vl2 (F 0) (F 1) := by
  have := hF 0; have := hF 1
  simp only [vlS, valS, vl2]
  split <;> split <;> omega
theorem vl_4 (F : Nat → Nat) (hF : ∀ j, F j < 256) : vlS F 4 = vl4 (F 0) (F 1) (F 2) (F 3) := by
  have := hF 0; have := hF 1; have := hF 2; have := hF 3
  simp only [vlS, valS, vl4, vl2]
  split <;> split <;> omega
set_option maxHeartbeats 1000000 in
theorem val_s (g o n c : Nat) (F : Nat → Nat) (hF : ∀ j, F j < 256) (w : World) (hn : 0 < n) (h4 : n ≤ 4) (h : ∀ j, j < n → w.cell? ⟨g, o + j, none⟩ = some (.int .u8 (F j : Nat))) :
    Calls Tryd.prog 66 #[.slice (some ⟨g, o, none⟩) n c] w fun e w' => e = .returned (.int .i64 (vlS F n)) ∧ w = w' := by
  have H0 : Hid (∀ j, j < n → w.cell? ⟨g, o + j, none⟩ = some (.int .u8 (F j : Nat))) := h
  have c0 := h 0 hn
  have HF : Hid (∀ j, F j < 256) := hF
  rw [Nat.add_zero] at c0
  have j0 : (0 : Int) < (n : Int) := by omega
  have P4 : Hid (∀ k, k ≤ 4 → (0 : Int) < 256 ^ k ∧ (256 : Int) ^ k ≤ 4294967296) := fun k hk => by
    rcases (by omega : k = 0 ∨ k = 1 ∨ k = 2 ∨ k = 3 ∨ k = 4) with rfl | rfl | rfl | rfl | rfl <;> simp
  clear h hF
  go_enter Tryd.func66, Tryd.ntmps66
  go_wp2
  go_loop [3, 4, 5] (fun v p i => ∃ k : Nat, k ≤ n ∧ i = .int .i64 k ∧ v = .int .i64 (valS F k) ∧ p = .int .i64 (256 ^ k)) (fun _ _ i => n - (intOf i).toNat)
  case atStart => exact ⟨0, Nat.zero_le _, rfl, rfl, rfl⟩
  case round =>
    obtain ⟨k, hk, rfl, rfl, rfl⟩ := hrel
    have hv := valS_le F HF.out k
    have hp := P4.out k (by omega)
    by_cases hlt : k < n
    · have i0 : (k : Int) < (n : Int) := by omega
      have hc := H0.out k hlt
      have hb := HF.out k
      have HV : Hid (valS F k * 256 + (F k : Nat) = valS F (k + 1)) := rfl
      have HP : Hid ((256 : Int) ^ k * 256 = 256 ^ (k + 1)) := (Int.pow_succ _ _).symm
      have hp3 : (256 : Int) ^ k ≤ 16777216 := by
        rcases (by omega : k = 0 ∨ k = 1 ∨ k = 2 ∨ k = 3) with rfl | rfl | rfl | rfl <;> simp
      obtain ⟨V, hV⟩ : ∃ V, valS F k = V := ⟨_, rfl⟩
      obtain ⟨P, hP⟩ : ∃ V, (256 : Int) ^ k = V := ⟨_, rfl⟩
      rw [hV] at hv HV ⊢
      rw [hP] at hv hp hp3 HP ⊢
      clear hV hP
      go_wp2
      go_round
      case rel => exact ⟨k + 1, by omega, by go_num, by rw [← HV.out], by rw [← HP.out]⟩
      case measure => simp [intOf]; omega
    · have hkn : k = n := by omega
      subst hkn
      have hb := HF.out 0
      have HQ : Hid (vlS F k = if 1 < k ∧ 128 ≤ F 0 then valS F k - 256 ^ k else valS F k) := rfl
      obtain ⟨V, hV⟩ : ∃ V, valS F k = V := ⟨_, rfl⟩
      obtain ⟨P, hP⟩ : ∃ V, (256 : Int) ^ k = V := ⟨_, rfl⟩
      rw [hV] at hv HQ ⊢
      rw [hP] at hv hp HQ ⊢
      clear hV hP
      by_cases h1 : 1 < k
      · have i1 : (1 : Int) < (k : Int) := by omega
        by_cases h2 : 128 ≤ F 0
        · have i2 : (128 : Int) ≤ ((F 0 : Nat) : Int) := by omega
          have HQ2 : Hid (vlS F k = V - P) := by show _ = _; rw [HQ.out, if_pos ⟨h1, h2⟩]
          clear HQ h2 h1
          go_wp2
          go_ret
          exact ⟨by rw [HQ2.out]; rfl, rfl⟩
        · have i2 : ¬ (128 : Int) ≤ ((F 0 : Nat) : Int) := by omega
          have HQ2 : Hid (vlS F k = V) := by show _ = _; rw [HQ.out, if_neg (fun h => h2 h.2)]
          clear HQ h2 h1
          go_wp2
          go_ret
          exact ⟨by rw [HQ2.out]; rfl, rfl⟩
      · have i1 : ¬ (1 : Int) < (k : Int) := by omega
        have HQ2 : Hid (vlS F k = V) := by show _ = _; rw [HQ.out, if_neg (fun h => h1 h.1)]
        clear HQ h1
        go_wp2
        go_ret
        exact ⟨by rw [HQ2.out]; rfl, rfl⟩
end Go.Proofs.YtcihplachlokiaaDoor
