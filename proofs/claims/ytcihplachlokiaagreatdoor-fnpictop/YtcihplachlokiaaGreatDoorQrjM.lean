/- Lists read: where it cannot be read. -/
import Derived.Test.YtcihplachlokiaaGreatDoorQreM
import Derived.Test.YtcihplachlokiaaGreatDoorPccM
import Derived.Recover
import Derived.Stop.Asserts
namespace Go.Proofs.YtcihplachlokiaaGreatDoor
open Go.RowKit Go.Shelf
set_option linter.unusedVariables false
set_option linter.unusedSimpArgs false

set_option maxRecDepth 10000 in
set_option maxHeartbeats 8000000 in
theorem list_no (R N : Nat) (r : List Nat) (ec ea : Int) (w : World) (hN : N ≤ 1000) (hr : ∀ b ∈ r, b < 256) (ha : instsM N 0 r = .inl (ec, ea) ∨ (∃ XS b r', instsM N 0 r = .inr (XS, b :: r') ∧ ec = 7 ∧ ea = N)) (h : Rd R r 0 w) :
    Calls Tryz.prog 25 #[.pointer (some ⟨R, 0, none⟩), .int .i64 N] w fun e w' => RdP R ec ea w e w' := by
  have hinfo : (Tryz.prog.info? 44).map (fun i => (i.zero, i.size, i.bytes)) = some (some (.agg #[.int .i64 0, .int .i64 0, .slice none 0 0]), 3, 40) := by kernel_rfl
  obtain ⟨i0, hi, hz0, hz1, hz2⟩ := info_parts hinfo
  clear hinfo
  have H0 : Hid (LS w R (.slice none 0 0) [] [] [] r 0 w ∧ (∀ b ∈ r, b < 256) ∧ (instsM N 0 r = .inl (ec, ea) ∨ (∃ XS b r', instsM N 0 r = .inr (XS, b :: r') ∧ ec = 7 ∧ ea = N))) := ⟨⟨h, h.lt, .nil, World.ownsRow_nil _ _ _ _, by simp [Value.ownBlock], gb_refl18 _ _⟩, hr, ha⟩
  have ik : ¬ ((1000 : Int) < (N : Int)) := by omega
  clear h hr ha
  go_enter Tryz.func25, Tryz.ntmps25
  go_wp2
  go_loopw [5] (fun i wr => ∃ (v : Value) (k : Nat), i = v ∧ k ≤ N ∧ Hid (∃ xs cs F rk, LS w R v xs cs F rk (k : Nat) wr ∧ xs.length = k ∧ (∀ b ∈ rk, b < 256) ∧ (instsM (N - k) (k : Nat) rk = .inl (ec, ea) ∨ (∃ XS b r', instsM (N - k) (k : Nat) rk = .inr (XS, b :: r') ∧ ec = 7 ∧ ea = N)))) (fun i _ => N - (sliceLen18 i))
  case atStart => exact ⟨_, 0, rfl, Nat.zero_le _, _, _, _, _, H0.out.1, rfl, H0.out.2.1, H0.out.2.2⟩
  case round =>
    obtain ⟨v, k, hiv, hk, HR⟩ := hrel
    obtain ⟨xs, cs, F, rk, hI, hxl, hrk, hargs⟩ := HR.out
    obtain ⟨vp, vn, vc, rfl⟩ : ∃ p n cp, v = .slice p n cp := by
      rcases hI.2.2.2.1.2 with ⟨h, _⟩ | ⟨g, cap, cur, h, _⟩
      · exact ⟨_, _, _, h⟩
      · exact ⟨_, _, _, h⟩
    subst hiv
    have hvn : vn = k := by
      rcases hI.2.2.2.1.2 with ⟨h, h0⟩ | ⟨g, cap, cur, h, _⟩
      · cases h; omega
      · cases h; omega
    subst hvn
    obtain ⟨ra, rcap, R1, _⟩ := hI.1
    have p0 : wr.cell? ⟨R, 0, none⟩ = some (.slice ra rk.length rcap) := (cell_of_row _ _ _ _ _ _ R1).trans rfl
    have p1 : wr.cell? ⟨R, 1, none⟩ = some (.int .i64 (vn : Nat)) := (cell_of_row _ _ _ _ _ _ R1).trans rfl
    clear R1
    by_cases hlt : vn < N
    · have il : (vn : Int) < (N : Int) := by omega
      obtain ⟨m, hm⟩ : ∃ m, N - vn = m + 1 := ⟨N - vn - 1, by omega⟩
      cases ho : instM rk with
      | inl e =>
        have hE : e = ec ∧ (vn : Int) = ea := by
          rcases hargs with hargs | ⟨XS, b, r', hargs, _⟩
          · rw [hm] at hargs
            unfold instsM at hargs
            rw [ho] at hargs
            simpa using hargs
          · rw [hm] at hargs
            unfold instsM at hargs
            rw [ho] at hargs
            cases hargs
        have HIn : Hid (Calls Tryz.prog 49 #[.pointer (some ⟨R, 0, none⟩)] wr fun e' w' => e' = .panicked [{ v := .iface 26 (.agg #[.int .i64 ec, .int .i64 ea]), recovered := false }] ∧ RdP R ec ea w (.panicked [{ v := .iface 26 (.agg #[.int .i64 ec, .int .i64 ea]), recovered := false }]) w') := (ins_no R rk (vn : Nat) e wr hrk ho hI.1).mono fun e' w' ⟨a, b⟩ => by
          rw [← hE.1, ← hE.2]
          exact ⟨a, rfl, gb_step18 hI.2.2.2.2.2 b⟩
        clear hI hxl hrk ho HR hm hargs hE H0
        go_wp2_with fail
        refine HIn.out.mono ?_
        rintro e9 w10 ⟨rfl, h10⟩
        go_wp2
        exact ⟨rfl, h10⟩
      | inr q4 =>
        obtain ⟨x, rk1⟩ := q4
        have hq : instsM (N - (vn + 1)) ((vn + 1 : Nat) : Int) rk1 = .inl (ec, ea) ∨ (∃ XS b r', instsM (N - (vn + 1)) ((vn + 1 : Nat) : Int) rk1 = .inr (XS, b :: r') ∧ ec = 7 ∧ ea = N) := by
          rw [hm] at hargs
          unfold instsM at hargs
          rw [ho] at hargs
          simp only [] at hargs
          rw [show N - (vn + 1) = m by omega, show ((vn + 1 : Nat) : Int) = (vn : Int) + 1 by omega]
          cases h2 : instsM m ((vn : Int) + 1) rk1 with
          | inl e =>
            rw [h2] at hargs
            rcases hargs with hargs | ⟨XS, b, r', hargs, _⟩
            · exact .inl hargs
            · cases hargs
          | inr q5 =>
            obtain ⟨ys, r3⟩ := q5
            rw [h2] at hargs
            rcases hargs with hargs | ⟨XS, b, r', hargs, hh⟩
            · cases hargs
            · simp only [Sum.inr.injEq, Prod.mk.injEq] at hargs
              exact .inr ⟨ys, b, r', by rw [hargs.2], hh⟩
        clear hargs
        have HIn : Hid (Calls Tryz.prog 49 #[.pointer (some ⟨R, 0, none⟩)] wr fun e w' => RdI R x rk1 (vn : Nat) wr e w') := ins_ok R rk rk1 _ x wr hrk ho hI.1
        have HE : Hid ((instsM (N - (vn + 1)) ((vn + 1 : Nat) : Int) rk1 = .inl (ec, ea) ∨ (∃ XS b r', instsM (N - (vn + 1)) ((vn + 1 : Nat) : Int) rk1 = .inr (XS, b :: r') ∧ ec = 7 ∧ ea = N)) ∧ (∀ b ∈ rk1, b < 256) ∧ xs.length = vn ∧ LS w R (.slice vp vn vc) xs cs F rk (vn : Nat) wr) := ⟨hq, fun b hb => hrk b (instM_sub ho b hb), hxl, hI⟩
        clear hI hxl hrk ho hq HR hm
        go_wp2_with fail
        refine HIn.out.mono ?_
        rintro e w1 ⟨va, rfl, hva, d1, g1⟩
        obtain ⟨ap, an, ac, rfl⟩ : ∃ p n cp, va = .slice p n cp := by
          rcases hva.2 with ⟨h, _⟩ | ⟨g, cap, cur, h, _⟩
          · exact ⟨_, _, _, h⟩
          · exact ⟨_, _, _, h⟩
        have gA : Below w1.heap.size w1 (w1.alloc (.cells #[.int .i64 x.code, .int .i64 x.one.op, .slice ap an ac] 44)) := (Below.refl _ _).alloc (Nat.le_refl _) _
        have hL := (HE.out.2.2.2.read d1 g1).later gA
        have own3 := hL.2.2.2.1
        have hA1 : ArgsOwn (w1.alloc (.cells #[.int .i64 x.code, .int .i64 x.one.op, .slice ap an ac] 44)) w.heap.size (Value.slice ap an ac).ownBlock.toList (.slice ap an ac) x.one.args := args_of ((hva.mono (by have := HE.out.2.2.2.2.2.2.2.2.size; omega)).alloc _)
        have hdis : ∀ b ∈ (Value.slice ap an ac).ownBlock.toList, b ∉ (Value.slice vp vn vc).ownBlock.toList ++ F := fun b hb hm => by
          have h1 := (World.ownsRow.lt hva b (by simpa using hb)).1
          have h2 := (HE.out.2.2.2.bounds b hm).2
          omega
        have hsz : w.heap.size ≤ w1.heap.size := Nat.le_trans HE.out.2.2.2.2.2.2.2.2.size g1.size
        have hfn : (Value.slice ap an ac).ownBlock.toList.Nodup := by cases (Value.slice ap an ac).ownBlock <;> simp
        have HP : Hid (LS w R (.slice vp vn vc) xs cs F rk1 (vn : Nat) (w1.alloc (.cells #[.int .i64 x.code, .int .i64 x.one.op, .slice ap an ac] 44)) ∧ ArgsOwn (w1.alloc (.cells #[.int .i64 x.code, .int .i64 x.one.op, .slice ap an ac] 44)) w.heap.size (Value.slice ap an ac).ownBlock.toList (.slice ap an ac) x.one.args ∧ (Value.slice ap an ac).ownBlock.toList.Nodup ∧ (∀ b ∈ (Value.slice ap an ac).ownBlock.toList, b ∉ (Value.slice vp vn vc).ownBlock.toList ++ F)) := ⟨hL, hA1, hfn, hdis⟩
        have hxl : xs.length = vn := HE.out.2.2.1
        rw [hxl] at own3
        clear hva d1 g1 gA hL hA1 hdis hfn p0 p1 HIn
        go_wp2_with (at_builtin; refine wpList_append_lies _ rfl _ _ 23 rfl w.heap.size 44 i0 (.agg #[.int .i64 0, .int .i64 0, .slice none 0 0]) 3 40 Tryz.underlying23 hi hz0 hz1 hz2 rfl (by decide) _ vn cs rfl own3 ⟨w1.heap.size, 0, none⟩ 1 1 [.int .i64 x.code, .int .i64 x.one.op, .slice ap an ac] rfl rfl (cell_three18 _ _ _ _ _) ?c2 (by omega) ?c3 ?c4 ?c5 _ rfl ?_)
        case c2 => intro u hu; simp at hu; rcases hu with rfl | rfl | rfl <;> rfl
        case c3 => unfold maxLen; omega
        case c4 => omega
        case c5 => simp; omega
        intro g' cap' w6 own6 g6 hat hlt6
        have key : LS w R (.slice (some ⟨g', 0, none⟩) (xs.length + 1) cap') (xs ++ [x]) (cs ++ [.int .i64 x.code, .int .i64 x.one.op, .slice ap an ac]) (F ++ (Value.slice ap an ac).ownBlock.toList) rk1 (vn : Nat) w6 := LS.put HP.out.1 HP.out.2.1 HP.out.2.2.1 HP.out.2.2.2 (by rw [hxl]; exact own6) g6 (by simpa using hat)
        obtain ⟨ra, rcap, R1, _⟩ := key.1
        have p1 : w6.cell? ⟨R, 1, none⟩ = some (.int .i64 (vn : Nat)) := (cell_of_row _ _ _ _ _ _ R1).trans rfl
        have q1 : w6.frozen? ⟨R, 1, none⟩ = false := by simp [World.frozen?, R1]
        have HNx : Hid (∃ xs2 cs F rk, LS w R (.slice (some ⟨g', 0, none⟩) (vn + 1) cap') xs2 cs F rk ((vn + 1 : Nat) : Int) (w6.setCell ⟨R, 1, none⟩ (.int .i64 ((vn : Int) + 1))) ∧ xs2.length = vn + 1 ∧ (∀ b ∈ rk, b < 256) ∧ (instsM (N - (vn + 1)) ((vn + 1 : Nat) : Int) rk = .inl (ec, ea) ∨ (∃ XS b r', instsM (N - (vn + 1)) ((vn + 1 : Nat) : Int) rk = .inr (XS, b :: r') ∧ ec = 7 ∧ ea = N))) := ⟨_, _, _, _, by rw [← hxl]; exact key.setAt _, by simp [hxl], HE.out.2.1, HE.out.1⟩
        clear own3 own6 g6 hat hlt6 key HP HE R1 hxl
        go_wp2
        go_roundw
        case rel => exact ⟨_, vn + 1, rfl, by omega, HNx⟩
        case measure => simp [sliceLen18]; omega
    · have il : ¬ ((vn : Int) < (N : Int)) := by omega
      have hkn : N - vn = 0 := by omega
      have hE : (∃ b r', rk = b :: r') ∧ ec = 7 ∧ ea = N := by
        rw [hkn] at hargs
        unfold instsM at hargs
        rcases hargs with hargs | ⟨XS, b, r', hargs, hh⟩
        · cases hargs
        · simp only [Sum.inr.injEq, Prod.mk.injEq] at hargs
          exact ⟨⟨b, r', hargs.2⟩, hh⟩
      obtain ⟨⟨b, r', rfl⟩, rfl, rfl⟩ := hE
      have hvN : vn = N := by omega
      have HT : Hid (Calls Tryz.prog 48 #[.pointer (some ⟨R, 0, none⟩), .int .i64 7] wr fun e w' => e = tld 7 (N : Nat) ∧ wr = w') := by rw [← hvN]; exact tell_i R _ _ 7 wr hI.1
      have HF : Hid (RdP R 7 (N : Nat) w (tld 7 (N : Nat)) wr) := ⟨rfl, hI.2.2.2.2.2⟩
      unfold tld at HT HF
      have ir : (0 : Int) < (((b :: r').length : Nat) : Int) := by simp <;> omega
      obtain ⟨LL, hLL⟩ : ∃ LL, (b :: r').length = LL := ⟨_, rfl⟩
      rw [hLL] at ir p0
      clear hI HR hxl hrk hkn H0 hargs hvN hLL
      go_wp2_with fail
      refine HT.out.mono ?_
      rintro e w3 ⟨rfl, rfl⟩
      go_wp2
      exact ⟨rfl, HF.out⟩
end Go.Proofs.YtcihplachlokiaaGreatDoor
/- Images read: the program's picPair and picEnvelopeWrong. -/
namespace Go.Proofs.YtcihplachlokiaaGreatDoor
open Go.RowKit Go.Shelf
set_option linter.unusedVariables false
set_option linter.unusedSimpArgs false

set_option maxHeartbeats 400000 in
theorem pair_i (a : Option Addr) (n c k : Nat) (f : Nat → Nat) (hf : ∀ j, f j < 256) (w : World) (hn : n ≤ 1048576) (hk : k + 1 < n) (h : Bt w a n f) :
    Calls Tryz.prog 26 #[.slice a n c, .int .i64 k] w fun e w' => e = .returned (.int .i64 ((f k * 256 + f (k + 1) : Nat) : Int)) ∧ Below w.heap.size w w' := by
  obtain ⟨g, o, rfl, hg, hcs⟩ : ∃ g o, a = some ⟨g, o, none⟩ ∧ g < w.heap.size ∧ ∀ j, j < n → w.cell? ⟨g, o + j, none⟩ = some (.int .u8 (f j)) := by
    rcases h with h | h
    · omega
    · exact h
  have c0 := hcs k (by omega)
  have c1 := hcs (k + 1) hk
  have i0 : (k : Int) < (n : Int) := by omega
  have i1 : (k : Int) + 1 < (n : Int) := by omega
  have o1 := or_u16 (f k) (f (k + 1)) (hf _) (hf _)
  have bA := hf k
  have bB := hf (k + 1)
  obtain ⟨A, hA⟩ : ∃ A, f k = A := ⟨_, rfl⟩
  obtain ⟨B, hB⟩ : ∃ A, f (k + 1) = A := ⟨_, rfl⟩
  rw [hA] at c0 o1 bA ⊢
  rw [hB] at c1 o1 bB ⊢
  obtain ⟨V, hV, HV⟩ : ∃ V : Int, ((A * 256 + B : Nat) : Int) = V ∧ Hid (V = ((A * 256 + B : Nat) : Int)) := ⟨_, rfl, rfl⟩
  rw [hV] at o1 ⊢
  have bV : 0 ≤ V ∧ V < 65536 := by rw [HV.out]; omega
  clear hV hcs hA hB h
  go_enter Tryz.func26, Tryz.ntmps26
  go_wp2
  go_quiet (fail)
  go_wp2
  go_ret
  exact ⟨rfl, below_drewN _ _⟩

/-- What is wrong with the head and the sum, of n bytes. -/
def envW (f : Nat → Nat) (n : Nat) : Int :=
  if n < 8 ∨ 20008 < n then 4 else if f 0 ≠ 83 ∨ f 1 ≠ 116 ∨ f 2 * 256 + f 3 ≠ n then 4 else if sumF f (n - 2) ≠ f (n - 2) * 256 + f (n - 1) then 5 else 0

set_option maxRecDepth 10000 in
set_option maxHeartbeats 2000000 in
theorem env_i (a : Option Addr) (n c : Nat) (f : Nat → Nat) (hf : ∀ j, f j < 256) (w : World) (hn : n ≤ 1048576) (hc : n ≤ c) (h : Bt w a n f) :
    Calls Tryz.prog 23 #[.slice a n c] w fun e w' => e = .returned (.int .i64 (envW f n)) ∧ Below w.heap.size w w' := by
  by_cases h1 : n < 8
  · have i1 : (n : Int) < 8 := by omega
    have HQ : Hid (envW f n = 4) := by show _ = _; unfold envW; rw [if_pos (.inl h1)]
    clear h hf h1
    go_enter Tryz.func23, Tryz.ntmps23
    go_wp2
    go_ret
    exact ⟨by rw [HQ.out]; rfl, Below.refl _ _⟩
  have i1 : ¬ (n : Int) < 8 := by omega
  by_cases h2 : 20008 < n
  · have i2 : (20008 : Int) < (n : Int) := by omega
    have HQ : Hid (envW f n = 4) := by show _ = _; unfold envW; rw [if_pos (.inr h2)]
    clear h hf h1 h2
    go_enter Tryz.func23, Tryz.ntmps23
    go_wp2
    go_ret
    exact ⟨by rw [HQ.out]; rfl, Below.refl _ _⟩
  have i2 : ¬ (20008 : Int) < (n : Int) := by omega
  have i3 : (0 : Int) < (n : Int) := by omega
  have i4 : (1 : Int) < (n : Int) := by omega
  obtain ⟨g, o, rfl, hg, hcs⟩ : ∃ g o, a = some ⟨g, o, none⟩ ∧ g < w.heap.size ∧ ∀ j, j < n → w.cell? ⟨g, o + j, none⟩ = some (.int .u8 (f j)) := by
    rcases h with h | h
    · omega
    · exact h
  have c0 := hcs 0 (by omega)
  have c1 := hcs 1 (by omega)
  rw [Nat.add_zero] at c0
  have H12 : Hid (¬ (n < 8 ∨ 20008 < n)) := by show ¬ _; omega
  by_cases h3 : f 0 = 83
  rotate_left
  · have e3 : (((f 0 : Nat) : Int) != 83) = true := by simp; omega
    have d3 : ¬ ((f 0 : Nat) : Int) = 83 := by omega
    have HQ : Hid (envW f n = 4) := by show _ = _; unfold envW; rw [if_neg H12.out, if_pos (.inl h3)]
    clear h hf h1 h2 hcs h3
    go_enter Tryz.func23, Tryz.ntmps23
    go_wp2
    go_ret
    exact ⟨by rw [HQ.out]; rfl, Below.refl _ _⟩
  rw [h3] at c0
  by_cases h4 : f 1 = 116
  rotate_left
  · have e4 : (((f 1 : Nat) : Int) != 116) = true := by simp; omega
    have d4 : ¬ ((f 1 : Nat) : Int) = 116 := by omega
    have HQ : Hid (envW f n = 4) := by show _ = _; unfold envW; rw [if_neg H12.out, if_pos (.inr (.inl h4))]
    clear h hf h1 h2 hcs h3 h4
    go_enter Tryz.func23, Tryz.ntmps23
    go_wp2
    go_ret
    exact ⟨by rw [HQ.out]; rfl, Below.refl _ _⟩
  rw [h4] at c1
  have HP : Hid (Calls Tryz.prog 26 #[.slice (some ⟨g, o, none⟩) n c, .int .i64 2] w fun e w' => e = .returned (.int .i64 ((f 2 * 256 + f 3 : Nat) : Int)) ∧ Below w.heap.size w w') := pair_i (some ⟨g, o, none⟩) n c 2 f hf w hn (by omega) h
  obtain ⟨V, HV⟩ : ∃ V : Int, Hid (V = ((f 2 * 256 + f 3 : Nat) : Int)) := ⟨_, rfl⟩
  rw [← HV.out] at HP
  by_cases h5 : f 2 * 256 + f 3 = n
  rotate_left
  · have e5 : (V != (n : Int)) = true := by rw [HV.out]; simp; omega
    have d5 : ¬ V = (n : Int) := by rw [HV.out]; omega
    have HQ : Hid (envW f n = 4) := by show _ = _; unfold envW; rw [if_neg H12.out, if_pos (.inr (.inr h5))]
    clear h hf h1 h2 hcs h3 h4 h5
    go_enter Tryz.func23, Tryz.ntmps23
    go_wp2_with fail
    refine HP.out.mono ?_
    rintro e w1 ⟨rfl, g1⟩
    have G1 : Hid (Below w.heap.size w w1) := g1
    clear g1
    go_wp2
    go_ret
    exact ⟨by rw [HQ.out]; rfl, G1.out⟩
  have e5 : (V != (n : Int)) = false := by rw [HV.out]; simp; omega
  have d5 : V = (n : Int) := by rw [HV.out]; omega
  obtain ⟨m, rfl⟩ : ∃ m, n = m + 2 := ⟨n - 2, by omega⟩
  have HS : Hid (∀ W, Below w.heap.size w W → Calls Tryz.prog 18 #[.slice (some ⟨g, o, none⟩) m c] W fun e w' => e = .returned (.int .u16 (sumF f m : Nat)) ∧ W = w') := fun W b => psum_i (some ⟨g, o, none⟩) m c f hf W (by omega) ((h.later b (Nat.le_refl _)).take (by omega))
  have HP2 : Hid (∀ W, Below w.heap.size w W → Calls Tryz.prog 26 #[.slice (some ⟨g, o, none⟩) (m + 2 : Nat) c, .int .i64 m] W fun e w' => e = .returned (.int .i64 ((f m * 256 + f (m + 1) : Nat) : Int)) ∧ Below W.heap.size W w') := fun W b => pair_i (some ⟨g, o, none⟩) (m + 2) c m f hf W hn (by omega) (h.later b (Nat.le_refl _))
  have fm := hf m
  have fm1 := hf (m + 1)
  obtain ⟨U, hU, HU⟩ : ∃ U : Int, ((f m * 256 + f (m + 1) : Nat) : Int) = U ∧ Hid (U = ((f m * 256 + f (m + 1) : Nat) : Int)) := ⟨_, rfl, rfl⟩
  have bU : 0 ≤ U ∧ U < 65536 := by rw [HU.out]; omega
  obtain ⟨T, HT⟩ : ∃ U : Int, Hid (U = ((sumF f m : Nat) : Int)) := ⟨_, rfl⟩
  rw [hU] at HP2
  rw [← HT.out] at HS
  have i6 : (2 : Int) ≤ ((m + 2 : Nat) : Int) := by omega
  have i7 : ((m + 2 : Nat) : Int) - 2 = (m : Int) := by omega
  have H12' : Hid (envW f (m + 2) = if sumF f m ≠ f m * 256 + f (m + 1) then 5 else 0) := by
    show _ = _
    unfold envW
    rw [if_neg H12.out, if_neg (by omega)]
    rfl
  have i8 : (m : Int) ≤ (c : Int) := by omega
  have HFin : Hid (T = U ↔ sumF f m = f m * 256 + f (m + 1)) := by show _ ↔ _; rw [HT.out, HU.out]; omega
  clear h hf h1 h2 h3 h4 h5 hU hcs fm fm1
  go_enter Tryz.func23, Tryz.ntmps23
  go_wp2_with fail
  refine HP.out.mono ?_
  rintro e w1 ⟨rfl, g1⟩
  have G1 : Hid (Below w.heap.size w w1) := g1
  clear g1 HP
  go_wp2_with fail
  refine (HS.out w1 G1.out).mono ?_
  rintro e w2 ⟨rfl, rfl⟩
  go_wp2_with fail
  refine (HP2.out w1 G1.out).mono ?_
  rintro e w2 ⟨rfl, g2⟩
  have G2 : Hid (Below w.heap.size w w2) := G1.out.trans (g2.mono G1.out.size)
  clear g2 HP2 HS G1
  by_cases hTU : T = U
  · have HQ : Hid (envW f (m + 2) = 0) := by show _ = _; rw [H12'.out, if_neg (by simp; exact HFin.out.1 hTU)]
    have e6 : (T != U) = false := by simp [hTU]
    clear H12' HFin
    go_wp2
    go_ret
    exact ⟨by rw [HQ.out]; rfl, G2.out⟩
  · have HQ : Hid (envW f (m + 2) = 5) := by show _ = _; rw [H12'.out, if_pos (fun h => hTU (HFin.out.2 h))]
    have e6 : (T != U) = true := by simp [hTU]
    clear H12' HFin
    go_wp2
    go_ret
    exact ⟨by rw [HQ.out]; rfl, G2.out⟩
end Go.Proofs.YtcihplachlokiaaGreatDoor
/- PicRead of the program: what is told is recovered. -/
namespace Go.Proofs.YtcihplachlokiaaGreatDoor
open Go.RowKit Go.Shelf
set_option linter.unusedVariables false
set_option linter.unusedSimpArgs false

theorem rcatch_idle (p q : Addr) (w : World) :
    CallsD Tryz.prog 24 #[.pointer (some p), .pointer (some q)] .returning w fun e u' w' => e = .returned (.tuple #[]) ∧ u' = .returning ∧ w' = w := by
  refine callsD_of_wpS Tryz.func24 rfl fun c₀ cs hu => ?_
  apply wpS_seq
  apply wpS_region
  simp [wpOpsS, go_sem, recoverD, hu, Tryz.ntmps24, Exit.thenS]
  apply wpS_seq
  apply wpS_region
  simp [wpOpsS, go_sem, Exit.thenS]
  refine wpS_cond (t := false) (by simp [Act.eval, Array.replicate]) ?_
  simp only [Bool.false_eq_true, if_false]
  refine wpS_of_wp (wp_skip ?_)
  cases c₀
  simp_all [bodyPostS, results, Tryz.results24]
set_option maxRecDepth 100000 in
theorem rcatch_thrown (g1 g2 : Nat) (c a x y : Int) (v : Value) (w : World) (h1 : w.heap[g1]? = some (.cells #[v] 23 (0, 0))) (h : w.heap[g2]? = some (.cells #[.int .i64 x, .int .i64 y] 26 (0, 0))) (hne : g1 ≠ g2) :
    CallsD Tryz.prog 24 #[.pointer (some ⟨g1, 0, none⟩), .pointer (some ⟨g2, 0, none⟩)] (.panicking [{ v := .iface 26 (.agg #[.int .i64 c, .int .i64 a]), recovered := false }]) w fun e u' w' => e = .returned (.tuple #[]) ∧ u' = .panicking [{ v := .iface 26 (.agg #[.int .i64 c, .int .i64 a]), recovered := true }] ∧ w' = (((w.setCell ⟨g1, 0, none⟩ (.slice none 0 0)).setCell ⟨g2, 0, none⟩ (.int .i64 c)).setCell ⟨g2, 1, none⟩ (.int .i64 a)).drew := by
  have j0 : w.cell? ⟨g1, 0, none⟩ = some v := (cell_of_row _ _ _ _ _ _ h1).trans rfl
  have m0 : w.frozen? ⟨g1, 0, none⟩ = false := (there_row h1 0 1 (by simp) 0 (by omega)).2
  have k0 : w.cell? ⟨g2, 0, none⟩ = some (.int .i64 x) := (cell_of_row _ _ _ _ _ _ h).trans rfl
  have k1 : w.cell? ⟨g2, 1, none⟩ = some (.int .i64 y) := (cell_of_row _ _ _ _ _ _ h).trans rfl
  have f0 : w.frozen? ⟨g2, 0, none⟩ = false := (there_row h 0 2 (by simp) 0 (by omega)).2
  have f1 : w.frozen? ⟨g2, 1, none⟩ = false := (there_row h 0 2 (by simp) 1 (by omega)).2
  have hne' : g2 ≠ g1 := fun e => hne e.symm
  refine callsD_of_wpS Tryz.func24 rfl fun c₀ cs hu => ?_
  apply wpS_seq
  apply wpS_region
  simp [wpOpsS, go_sem, recoverD, hu, Tryz.ntmps24, Exit.thenS]
  apply wpS_seq
  apply wpS_region
  simp [wpOpsS, go_sem, Exit.thenS]
  refine wpS_cond (t := true) (by simp [Act.eval, Array.replicate]) ?_
  simp only [if_true]
  have hta : ∀ (t : TypeId) (x : Value) (W : World), (Instr.typeAssert (.iface 26 x) t 26 false).run Tryz.prog W = .ok x W := fun t x W => by kernel_rfl
  refine wpS_of_wp ?_
  go_region
  all_goals simp [bodyPostS, results, Tryz.results24]

theorem results_cell2 {P : Program} {fn : Func} {p p2 : Tmp} {ty ty2 : TypeId} (hf : fn.results = #[.cell p ty, .cell p2 ty2]) {tmps : Array Value} {w : World} {g g2 : Nat} (hp : tmps.getD p undef = .pointer (some ⟨g, 0, none⟩)) (hp2 : tmps.getD p2 undef = .pointer (some ⟨g2, 0, none⟩))
    {v v2 : Value} (h1 : (loadVar ty ⟨g, 0, none⟩).run P w = .ok v w) (h2 : (loadVar ty2 ⟨g2, 0, none⟩).run P w = .ok v2 w) : (results fn tmps).run P w = .ok (.tuple #[v, v2]) w := by
  have hp' : tmps[p]?.getD undef = .pointer (some ⟨g, 0, none⟩) := by simpa using hp
  have hp2' : tmps[p2]?.getD undef = .pointer (some ⟨g2, 0, none⟩) := by simpa using hp2
  simp [results, hf, hp', hp2', asAddr, h1, h2]
end Go.Proofs.YtcihplachlokiaaGreatDoor
/- PicRead of the program. -/
namespace Go.Proofs.YtcihplachlokiaaGreatDoor
open Go.RowKit Go.Shelf
set_option linter.unusedVariables false
set_option linter.unusedSimpArgs false

/-- The two boxes of the results. -/
def Bx (w : World) (v : Value) (x y : Int) (W : World) : Prop :=
  W.heap[w.heap.size]? = some (.cells #[v] 23 (0, 0)) ∧ W.heap[w.heap.size + 1]? = some (.cells #[.int .i64 x, .int .i64 y] 26 (0, 0)) ∧ Below w.heap.size w W
theorem Bx.start (w : World) : Bx w (.slice none 0 0) 0 0 ((w.alloc (.cells #[.slice none 0 0] 23)).alloc (.cells #[.int .i64 0, .int .i64 0] 26)) := by
  have b1 : Below w.heap.size w (w.alloc (.cells #[.slice none 0 0] 23)) := (Below.refl _ _).alloc (Nat.le_refl _) _
  have b2 : Below (w.heap.size + 1) (w.alloc (.cells #[.slice none 0 0] 23)) ((w.alloc (.cells #[.slice none 0 0] 23)).alloc (.cells #[.int .i64 0, .int .i64 0] 26)) := (Below.refl _ _).alloc (by simp) _
  refine ⟨(b2.block _ (by omega)).trans (heap_alloc_last _ _), ?_, b1.trans (b2.mono (by omega))⟩
  have := heap_alloc_last (w.alloc (.cells #[.slice none 0 0] 23)) (.cells #[.int .i64 0, .int .i64 0] 26)
  simpa using this
theorem Bx.lt {w W : World} {v : Value} {x y : Int} (h : Bx w v x y W) : w.heap.size + 2 ≤ W.heap.size := by
  have := (Array.getElem?_eq_some_iff.1 h.2.1).1
  omega
theorem Bx.later {w W W' : World} {v : Value} {x y : Int} (h : Bx w v x y W) (g : Below W.heap.size W W') : Bx w v x y W' := by
  have := h.lt
  exact ⟨(g.block _ (by omega)).trans h.1, (g.block _ (by omega)).trans h.2.1, h.2.2.trans (g.mono h.2.2.size)⟩
theorem Bx.facts {w W : World} {v : Value} {x y : Int} (h : Bx w v x y W) : W.cell? ⟨w.heap.size, 0, none⟩ = some v ∧ W.cell? ⟨w.heap.size + 1, 0, none⟩ = some (.int .i64 x) ∧ W.cell? ⟨w.heap.size + 1, 1, none⟩ = some (.int .i64 y) ∧ W.frozen? ⟨w.heap.size, 0, none⟩ = false ∧ W.frozen? ⟨w.heap.size + 1, 0, none⟩ = false ∧ W.frozen? ⟨w.heap.size + 1, 1, none⟩ = false :=
  ⟨(cell_of_row _ _ _ _ _ _ h.1).trans rfl, (cell_of_row _ _ _ _ _ _ h.2.1).trans rfl, (cell_of_row _ _ _ _ _ _ h.2.1).trans rfl, by simp [World.frozen?, h.1], by simp [World.frozen?, h.2.1], by simp [World.frozen?, h.2.1]⟩
theorem Bx.put {w W : World} {v : Value} {x y : Int} (h : Bx w v x y W) (v2 : Value) (x2 y2 : Int) : Bx w v2 x2 y2 (((W.setCell ⟨w.heap.size, 0, none⟩ v2).setCell ⟨w.heap.size + 1, 0, none⟩ (.int .i64 x2)).setCell ⟨w.heap.size + 1, 1, none⟩ (.int .i64 y2)) := by
  obtain ⟨h1, h2, h3⟩ := h
  refine ⟨row_other (row_other (row_put h1 0 v2) _ _ (by omega) _) _ _ (by omega) _, row_put (row_put (row_other h2 _ _ (by omega) _) 0 (.int .i64 x2)) 1 (.int .i64 y2), ?_⟩
  exact ((h3.setCell (p := ⟨w.heap.size, 0, none⟩) (Nat.le_refl _) _).setCell (p := ⟨w.heap.size + 1, 0, none⟩) (Nat.le_succ _) _).setCell (p := ⟨w.heap.size + 1, 1, none⟩) (Nat.le_succ _) _
theorem Bx.res {w W : World} {v : Value} {x y : Int} (h : Bx w v x y W) {fn : Func} (hf : fn.results = #[.cell 2 23, .cell 3 26]) (tmps : Array Value) (hp : tmps.getD 2 undef = .pointer (some ⟨w.heap.size, 0, none⟩)) (hp2 : tmps.getD 3 undef = .pointer (some ⟨w.heap.size + 1, 0, none⟩)) :
    (results fn tmps).run Tryz.prog W = .ok (.tuple #[v, .agg #[.int .i64 x, .int .i64 y]]) W := by
  obtain ⟨x0, x1, x2, y0, y1, y2⟩ := h.facts
  have hl : (loadVar 23 ⟨w.heap.size, 0, none⟩).run Tryz.prog W = .ok v W := by simp [go_sem, isAgg, Tryz.underlying23, x0]
  refine results_cell2 hf hp hp2 hl (run_loadVar_row W (w.heap.size + 1) _ 26 _ _ _ h.2.1 Tryz.underlying26 rfl (by kernel_rfl))
/-- What is read of n bytes: what is wrong and where, or the list. -/
def readM (f : Nat → Nat) (n : Nat) : (Int × Int) ⊕ List InstT :=
  if envW f n ≠ 0 then .inl (envW f n, 0) else listM (f 4 * 256 + f 5) ((List.range (n - 8)).map fun j => f (6 + j))
def rfT : (Int × Int) ⊕ List InstT → Int × Int
  | .inl e => e
  | .inr _ => (0, 0)
def rlT : (Int × Int) ⊕ List InstT → List InstT
  | .inl _ => []
  | .inr xs => xs
def ReadR (m : (Int × Int) ⊕ List InstT) (w : World) (e : Ending) (w' : World) : Prop :=
  ∃ v F, e = .returned (.tuple #[v, .agg #[.int .i64 (rfT m).1, .int .i64 (rfT m).2]]) ∧ InstsOwn w' w.heap.size F v (rlT m) ∧ F.Nodup ∧ Below w.heap.size w w'
theorem ReadR.no {c a : Int} {m : (Int × Int) ⊕ List InstT} (hm : m = .inl (c, a)) {w w' : World} (g : Below w.heap.size w w') : ReadR m w (.returned (.tuple #[.slice none 0 0, .agg #[.int .i64 c, .int .i64 a]])) w' := by
  subst hm
  exact ⟨_, [], rfl, RowOwn.nil _ _ _ _ _, .nil, g⟩

set_option maxRecDepth 100000 in
set_option maxHeartbeats 4000000 in
theorem read_bad (a : Option Addr) (n c : Nat) (f : Nat → Nat) (hf : ∀ j, f j < 256) (w : World) (hn : n ≤ 1048576) (hc : n ≤ c) (h : Bt w a n f) (hE : envW f n ≠ 0) :
    Calls Tryz.prog 7 #[.slice a n c] w fun e w' => ReadR (readM f n) w e w' := by
  have hmf : ∀ (fn : Fn) (first cap : Array Value) (w : World), (Instr.makeFunc fn first cap).run Tryz.prog w = .ok (.func fn first cap) w := fun _ _ _ _ => rfl
  have hB := Bx.start w
  have HE : Hid (Calls Tryz.prog 23 #[.slice a n c] ((w.alloc (.cells #[.slice none 0 0] 23)).alloc (.cells #[.int .i64 0, .int .i64 0] 26)) fun e w' => e = .returned (.int .i64 (envW f n)) ∧ Bx w (.slice none 0 0) 0 0 w') := (env_i a n c f hf _ hn hc (h.later hB.2.2 (Nat.le_refl _))).mono fun e w' ⟨a, b⟩ => ⟨a, hB.later b⟩
  obtain ⟨E, HEq⟩ : ∃ E, Hid (E = envW f n) := ⟨_, rfl⟩
  have HM : Hid (readM f n = .inl (E, 0)) := by show _ = _; unfold readM; rw [if_pos hE, HEq.out]
  rw [← HEq.out] at HE hE
  clear h hB
  go_enter_defers Tryz.func7, Tryz.ntmps7
  go_wp2_with fail
  refine HE.out.mono ?_
  rintro e w1 ⟨rfl, h1⟩
  obtain ⟨x0, x1, x2, y0, y1, y2⟩ := h1.facts
  have H1 : Hid (Bx w (.slice none 0 0) 0 0 w1) := h1
  have e1 : (E != 0) = true := by simpa using hE
  clear h1 HE
  go_wp2
  have H2 := H1.out.put (.slice none 0 0) E 0
  refine ⟨_, H2.res rfl _ (by rfl) (by rfl), ReadR.no HM.out H2.2.2⟩
end Go.Proofs.YtcihplachlokiaaGreatDoor
/- What is written is read, and what is read is written: numbers, operands, instructions. -/
namespace Go.Proofs.YtcihplachlokiaaGreatDoor
open Go.RowKit Go.Shelf
set_option linter.unusedVariables false
set_option linter.unusedSimpArgs false

theorem num_nb1 {v : Int} (h : 0 ≤ v ∧ v ≤ 255) (r : List Nat) : numM 1 (nbL v 1 ++ r) = some (v, r) := by
  rw [nbL_1]
  show some (vl1 _, r) = some (v, r)
  unfold vl1
  rw [show (((v % 256).toNat : Nat) : Int) = v by omega]
theorem num_nb2 {v : Int} (h : -32768 ≤ v ∧ v ≤ 32767) (r : List Nat) : numM 2 (nbL v 2 ++ r) = some (v, r) := by
  rw [nbL_2]
  show some (vl2 _ _, r) = some (v, r)
  rw [show vl2 (v / 256 % 256).toNat (v % 256).toNat = v by unfold vl2; split <;> omega]
theorem num_nb4 {v : Int} (h : -2147483648 ≤ v ∧ v ≤ 2147483647) (r : List Nat) : numM 4 (nbL v 4 ++ r) = some (v, r) := by
  rw [nbL_4]
  show some (vl4 _ _ _ _, r) = some (v, r)
  rw [show vl4 (v / 16777216 % 256).toNat (v / 65536 % 256).toNat (v / 256 % 256).toNat (v % 256).toNat = v by unfold vl4 vl2; split <;> omega]
theorem num_back {m : Nat} {r r' : List Nat} {v : Int} (hb : ∀ b ∈ r, b < 256) (h : numM m r = some (v, r')) : r = nbL v m ++ r' ∧ ((m = 1 ∧ 0 ≤ v ∧ v ≤ 255) ∨ (m = 2 ∧ -32768 ≤ v ∧ v ≤ 32767) ∨ (m = 4 ∧ -2147483648 ≤ v ∧ v ≤ 2147483647)) := by
  unfold numM at h
  split at h
  · next a r0 =>
    simp only [Option.some.injEq, Prod.mk.injEq] at h
    obtain ⟨rfl, rfl⟩ := h
    have ha := hb a (by simp)
    rw [nbL_1]
    unfold vl1
    exact ⟨by rw [show ((a : Int) % 256).toNat = a by omega]; rfl, .inl ⟨rfl, by omega, by omega⟩⟩
  · next a b r0 =>
    simp only [Option.some.injEq, Prod.mk.injEq] at h
    obtain ⟨rfl, rfl⟩ := h
    have ha := hb a (by simp)
    have hb' := hb b (by simp)
    obtain ⟨v, hv⟩ : ∃ v, vl2 a b = v := ⟨_, rfl⟩
    have hv' := hv
    unfold vl2 at hv'
    rw [hv, nbL_2]
    have e1 : (v / 256 % 256).toNat = a := by split at hv' <;> omega
    have e2 : (v % 256).toNat = b := by split at hv' <;> omega
    exact ⟨by rw [e1, e2]; rfl, .inr (.inl ⟨rfl, by split at hv' <;> omega, by split at hv' <;> omega⟩)⟩
  · next a b c d r0 =>
    simp only [Option.some.injEq, Prod.mk.injEq] at h
    obtain ⟨rfl, rfl⟩ := h
    have ha := hb a (by simp)
    have hb' := hb b (by simp)
    have hc := hb c (by simp)
    have hd := hb d (by simp)
    obtain ⟨v, hv⟩ : ∃ v, vl4 a b c d = v := ⟨_, rfl⟩
    have hv' := hv
    unfold vl4 vl2 at hv'
    rw [hv, nbL_4]
    have e1 : (v / 16777216 % 256).toNat = a := by split at hv' <;> omega
    have e2 : (v / 65536 % 256).toNat = b := by split at hv' <;> omega
    have e3 : (v / 256 % 256).toNat = c := by split at hv' <;> omega
    have e4 : (v % 256).toNat = d := by split at hv' <;> omega
    exact ⟨by rw [e1, e2, e3, e4]; rfl, .inr (.inr ⟨rfl, by split at hv' <;> omega, by split at hv' <;> omega⟩)⟩
  · cases h
theorem fit_split {x : ArgT} (h : fitA x = true) : (0 ≤ x.1 ∧ x.1 ≤ 255) ∧ wdT x.1 ≠ 0 ∧ ((x.1 = 12 ∧ wdT x.1 = 4 ∧ (-2147483648 ≤ x.2.1 ∧ x.2.1 ≤ 2147483647) ∧ 0 ≤ x.2.2 ∧ x.2.2 ≤ 255) ∨ (x.1 ≠ 12 ∧ x.2.2 = 0 ∧ ((wdT x.1 = 2 ∧ -32768 ≤ x.2.1 ∧ x.2.1 ≤ 32767) ∨ (wdT x.1 = 1 ∧ 0 ≤ x.2.1 ∧ x.2.1 ≤ 255)))) := by
  obtain ⟨k, n, p⟩ := x
  simp only [fitA, fitB] at h
  simp only [wdT]
  by_cases h1 : k < 1 ∨ 13 < k
  · rw [if_pos h1] at h; cases h
  rw [if_neg h1] at h ⊢
  by_cases h2 : k = 12
  · rw [if_pos h2] at h ⊢
    have h := of_decide_eq_true h
    exact ⟨by omega, by decide, .inl ⟨h2, rfl, by omega, by omega⟩⟩
  rw [if_neg h2] at h ⊢
  by_cases h3 : k = 11
  · rw [if_pos h3] at h ⊢
    have h := of_decide_eq_true h
    exact ⟨by omega, by decide, .inr ⟨h2, by omega, .inl ⟨rfl, by omega, by omega⟩⟩⟩
  rw [if_neg h3] at h ⊢
  have h := of_decide_eq_true h
  exact ⟨by omega, by decide, .inr ⟨h2, by omega, .inr ⟨rfl, by omega, by omega⟩⟩⟩
theorem arg_opd {x : ArgT} (h : fitA x = true) (r : List Nat) : argM (opdL x ++ r) = .inr (x, r) := by
  obtain ⟨h1, h2, h3⟩ := fit_split h
  obtain ⟨k, n, p⟩ := x
  simp only at h1 h2 h3
  unfold argM opdL
  simp only [List.append_assoc]
  rw [num_nb1 h1]
  simp only []
  rw [if_neg h2]
  rcases h3 with ⟨e, w, a, b⟩ | ⟨e, p0, h4⟩
  · rw [w, num_nb4 a]
    simp only []
    rw [if_pos e, if_pos e, num_nb1 b]
  · rw [if_neg e]
    rcases h4 with ⟨w, a⟩ | ⟨w, a⟩
    · rw [w, num_nb2 a]
      simp only []
      rw [if_neg e, p0]; rfl
    · rw [w, num_nb1 a]
      simp only []
      rw [if_neg e, p0]; rfl
theorem args_opds : ∀ (xs : List ArgT), xs.all fitA = true → ∀ r, argsM xs.length (opdsL xs ++ r) = .inr (xs, r)
  | [], _, r => rfl
  | x :: xs, h, r => by
    rw [List.all_cons, Bool.and_eq_true] at h
    show argsM (xs.length + 1) (opdsL (x :: xs) ++ r) = _
    rw [show opdsL (x :: xs) ++ r = opdL x ++ (opdsL xs ++ r) by simp [opdsL]]
    unfold argsM
    rw [arg_opd h.1]
    simp only []
    rw [args_opds xs h.2]
theorem inst_ins {i : InstT} (h : wrT i = 0) (r : List Nat) : instM (insL i ++ r) = .inr (i, r) := by
  obtain ⟨c, o, xs⟩ := i
  unfold wrT at h
  simp only at h
  unfold instM insL
  simp only [List.append_assoc]
  by_cases h1 : knB c = false
  · rw [if_pos h1] at h; cases h
  rw [if_neg h1] at h
  have hc : 1 ≤ c ∧ c ≤ 11 := by
    have := h1
    unfold knB at this
    simp at this
    omega
  rw [num_nb1 (v := c) (by omega)]
  simp only []
  rw [if_neg h1]
  by_cases h2 : hasB c = false
  · rw [if_pos h2] at h ⊢
    by_cases h3 : o = 0 ∧ xs.length = 0
    · obtain ⟨rfl, h4⟩ := h3
      have := List.eq_nil_of_length_eq_zero h4
      subst this
      rw [h2]; rfl
    · rw [if_neg h3] at h; cases h
  rw [if_neg h2] at h ⊢
  have h2' : hasB c = true := by simpa using h2
  by_cases h3 : opB c o = false
  · rw [if_pos h3] at h; cases h
  rw [if_neg h3] at h
  have ho : 0 ≤ o ∧ o ≤ 255 := by
    have := h3
    unfold opB at this
    split at this <;> simp at this <;> omega
  rw [if_pos h2', List.append_assoc, num_nb1 ho]
  simp only []
  rw [if_neg h3]
  by_cases h4 : (xs.length : Int) ≠ arN o
  · rw [if_pos h4] at h; cases h
  rw [if_neg h4] at h
  have h4' : (arN o).toNat = xs.length := by have := Decidable.not_not.1 h4; omega
  by_cases h5 : xs.all fitA = true
  · rw [h4', args_opds xs h5]
  · rw [if_neg h5] at h; cases h
theorem insts_ins : ∀ (xs : List InstT), (∀ x ∈ xs, wrT x = 0) → ∀ k r, instsM xs.length k (bodL xs ++ r) = .inr (xs, r)
  | [], _, k, r => rfl
  | x :: xs, h, k, r => by
    show instsM (xs.length + 1) k (bodL (x :: xs) ++ r) = _
    rw [show bodL (x :: xs) ++ r = insL x ++ (bodL xs ++ r) by simp [bodL]]
    unfold instsM
    rw [inst_ins (h x (List.mem_cons_self ..))]
    simp only []
    rw [insts_ins xs fun y hy => h y (List.mem_cons_of_mem _ hy)]
theorem arN_nn (o : Int) : 0 ≤ arN o := by first | (unfold arN; omega) | (unfold arN; repeat' split; all_goals omega)
theorem sub_lt {r r' t : List Nat} (h : r = t ++ r') (hb : ∀ b ∈ r, b < 256) : ∀ b ∈ r', b < 256 := fun b hb' => hb b (by rw [h]; exact List.mem_append_right _ hb')
theorem arg_back {r r' : List Nat} {x : ArgT} (hb : ∀ b ∈ r, b < 256) (h : argM r = .inr (x, r')) : r = opdL x ++ r' ∧ fitA x = true := by
  unfold argM at h
  cases h1 : numM 1 r with
  | none => rw [h1] at h; cases h
  | some q1 =>
    obtain ⟨k, r1⟩ := q1
    rw [h1] at h
    simp only [] at h
    obtain ⟨e1, b1⟩ := num_back hb h1
    have hb1 := sub_lt e1 hb
    by_cases hw : wdT k = 0
    · rw [if_pos hw] at h; cases h
    rw [if_neg hw] at h
    cases h2 : numM (wdT k) r1 with
    | none => rw [h2] at h; cases h
    | some q2 =>
      obtain ⟨n, r2⟩ := q2
      rw [h2] at h
      simp only [] at h
      obtain ⟨e2, b2⟩ := num_back hb1 h2
      have hb2 := sub_lt e2 hb1
      have hk : 1 ≤ k ∧ k ≤ 13 := by
        unfold wdT at hw
        by_cases h9 : k < 1 ∨ 13 < k
        · rw [if_pos h9] at hw; exact absurd rfl hw
        · omega
      by_cases hk12 : k = 12
      · rw [if_pos hk12] at h
        cases h3 : numM 1 r2 with
        | none => rw [h3] at h; cases h
        | some q3 =>
          obtain ⟨p, r3⟩ := q3
          rw [h3] at h
          simp only [Sum.inr.injEq, Prod.mk.injEq] at h
          obtain ⟨rfl, rfl⟩ := h
          obtain ⟨e3, b3⟩ := num_back hb2 h3
          have hw4 : wdT k = 4 := by rw [hk12]; rfl
          refine ⟨?_, ?_⟩
          · unfold opdL
            simp only []
            rw [if_pos hk12, List.append_assoc, List.append_assoc, ← e3, ← e2, ← e1]
          · unfold fitA fitB
            simp only []
            rw [if_neg (by omega), if_pos hk12]
            exact decide_eq_true (by omega)
      · rw [if_neg hk12] at h
        simp only [Sum.inr.injEq, Prod.mk.injEq] at h
        obtain ⟨rfl, rfl⟩ := h
        refine ⟨?_, ?_⟩
        · unfold opdL
          simp only []
          rw [if_neg hk12, List.append_nil, List.append_assoc, ← e2, ← e1]
        · unfold fitA fitB
          simp only []
          rw [if_neg (by omega), if_neg hk12]
          by_cases h11 : k = 11
          · have hw2 : wdT k = 2 := by rw [h11]; rfl
            rw [if_pos h11]
            exact decide_eq_true ⟨by omega, by omega, by trivial⟩
          · have hw1 : wdT k = 1 := by unfold wdT; rw [if_neg (by omega), if_neg hk12, if_neg h11]
            rw [if_neg h11]
            exact decide_eq_true ⟨by omega, by omega, by trivial⟩
theorem args_back : ∀ (n : Nat) {r r' : List Nat} {xs : List ArgT}, (∀ b ∈ r, b < 256) → argsM n r = .inr (xs, r') → xs.length = n ∧ r = opdsL xs ++ r' ∧ xs.all fitA = true
  | 0, r, r', xs, hb, h => by
    unfold argsM at h
    cases h
    exact ⟨rfl, rfl, rfl⟩
  | n + 1, r, r', xs, hb, h => by
    unfold argsM at h
    cases h1 : argM r with
    | inl c => rw [h1] at h; cases h
    | inr q1 =>
      obtain ⟨x, r1⟩ := q1
      rw [h1] at h
      simp only [] at h
      obtain ⟨e1, f1⟩ := arg_back hb h1
      have hb1 := sub_lt e1 hb
      cases h2 : argsM n r1 with
      | inl c => rw [h2] at h; cases h
      | inr q2 =>
        obtain ⟨ys, r2⟩ := q2
        rw [h2] at h
        simp only [Sum.inr.injEq, Prod.mk.injEq] at h
        obtain ⟨rfl, rfl⟩ := h
        obtain ⟨e2, e3, f2⟩ := args_back n hb1 h2
        refine ⟨by rw [List.length_cons, e2], ?_, by rw [List.all_cons, f1, f2]; rfl⟩
        rw [show opdsL (x :: ys) ++ r2 = opdL x ++ (opdsL ys ++ r2) by simp [opdsL], ← e3, ← e1]
theorem inst_back {r r' : List Nat} {i : InstT} (hb : ∀ b ∈ r, b < 256) (h : instM r = .inr (i, r')) : r = insL i ++ r' ∧ wrT i = 0 := by
  unfold instM at h
  cases h1 : numM 1 r with
  | none => rw [h1] at h; cases h
  | some q1 =>
    obtain ⟨c, r1⟩ := q1
    rw [h1] at h
    simp only [] at h
    obtain ⟨e1, b1⟩ := num_back hb h1
    have hb1 := sub_lt e1 hb
    by_cases hk : knB c = false
    · rw [if_pos hk] at h; cases h
    rw [if_neg hk] at h
    by_cases hh : hasB c = false
    · rw [if_pos hh] at h
      simp only [Sum.inr.injEq, Prod.mk.injEq] at h
      obtain ⟨rfl, rfl⟩ := h
      refine ⟨?_, ?_⟩
      · unfold insL
        simp only []
        rw [hh]
        simpa using e1
      · unfold wrT
        simp only []
        rw [if_neg hk, if_pos hh, if_pos (by simp)]
    rw [if_neg hh] at h
    have hh' : hasB c = true := by simpa using hh
    cases h2 : numM 1 r1 with
    | none => rw [h2] at h; cases h
    | some q2 =>
      obtain ⟨o, r2⟩ := q2
      rw [h2] at h
      simp only [] at h
      obtain ⟨e2, b2⟩ := num_back hb1 h2
      have hb2 := sub_lt e2 hb1
      by_cases ho : opB c o = false
      · rw [if_pos ho] at h; cases h
      rw [if_neg ho] at h
      cases h3 : argsM (arN o).toNat r2 with
      | inl e => rw [h3] at h; cases h
      | inr q3 =>
        obtain ⟨xs, r3⟩ := q3
        rw [h3] at h
        simp only [Sum.inr.injEq, Prod.mk.injEq] at h
        obtain ⟨rfl, rfl⟩ := h
        obtain ⟨l3, e3, f3⟩ := args_back _ hb2 h3
        have hn := arN_nn o
        refine ⟨?_, ?_⟩
        · unfold insL
          simp only []
          rw [if_pos hh', List.append_assoc, List.append_assoc, ← e3, ← e2, ← e1]
        · unfold wrT
          simp only []
          rw [if_neg hk, if_neg hh, if_neg ho, if_neg (by rw [l3]; simp; omega), if_pos f3]
theorem insts_back : ∀ (n : Nat) {k : Int} {r r' : List Nat} {xs : List InstT}, (∀ b ∈ r, b < 256) → instsM n k r = .inr (xs, r') → xs.length = n ∧ r = bodL xs ++ r' ∧ ∀ x ∈ xs, wrT x = 0
  | 0, k, r, r', xs, hb, h => by
    unfold instsM at h
    cases h
    exact ⟨rfl, rfl, fun x hx => by cases hx⟩
  | n + 1, k, r, r', xs, hb, h => by
    unfold instsM at h
    cases h1 : instM r with
    | inl c => rw [h1] at h; cases h
    | inr q1 =>
      obtain ⟨x, r1⟩ := q1
      rw [h1] at h
      simp only [] at h
      obtain ⟨e1, f1⟩ := inst_back hb h1
      have hb1 := sub_lt e1 hb
      cases h2 : instsM n (k + 1) r1 with
      | inl c => rw [h2] at h; cases h
      | inr q2 =>
        obtain ⟨ys, r2⟩ := q2
        rw [h2] at h
        simp only [Sum.inr.injEq, Prod.mk.injEq] at h
        obtain ⟨rfl, rfl⟩ := h
        obtain ⟨e2, e3, f2⟩ := insts_back n hb1 h2
        refine ⟨by rw [List.length_cons, e2], ?_, fun y hy => ?_⟩
        · rw [show bodL (x :: ys) ++ r2 = insL x ++ (bodL ys ++ r2) by simp [bodL], ← e3, ← e1]
        · rcases List.mem_cons.1 hy with rfl | hy
          · exact f1
          · exact f2 y hy
end Go.Proofs.YtcihplachlokiaaGreatDoor
