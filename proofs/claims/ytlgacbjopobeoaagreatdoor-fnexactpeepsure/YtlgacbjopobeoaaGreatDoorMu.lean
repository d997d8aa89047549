/- MemPut of the program; the law FnExactMemPut. -/
import Derived.Test.YtlgacbjopobeoaaGreatDoorMw
import Derived.Test.YtlgacbjopobeoaaGreatDoorMs
namespace Go.Proofs.YtlgacbjopobeoaaGreatDoor
open Go.RowKit Go.Shelf
set_option linter.unusedVariables false

theorem memOk_putb {c : Array Value} (hc : MemOk c) (k n : Int) (b : Bool) : MemOk (putb c k n b) := by
  unfold putb
  split
  · rename_i hk; subst hk
    obtain ⟨X, hx, x0, x1⟩ := hc.u32 (i := 1) (by omega) rfl
    obtain ⟨q0, q1⟩ := pl_lt 2 n (by decide)
    rw [show kZ 2 = 32 from rfl] at q1
    have := bput_bd X.toNat (pl 2 n).toNat 32 b (by omega) (by simp; omega) (by omega)
    rw [show ((X.toNat : Nat) : Int) = X by omega, show (((pl 2 n).toNat : Nat) : Int) = pl 2 n by omega] at this
    refine memOk_set hc 1 ?_
    rw [word_of hx, show kd 1 = 32 from rfl]
    simp [CellIs, Value.oneCell']
    exact ⟨this.1, by simpa using this.2⟩
  split
  · rename_i _ hk; subst hk
    obtain ⟨X, hx, x0, x1⟩ := hc.u64 (i := 2) (by omega) rfl
    obtain ⟨q0, q1⟩ := pl_lt 3 n (by decide)
    rw [show kZ 3 = 64 from rfl] at q1
    have := bput_bd X.toNat (pl 3 n).toNat 64 b (by omega) (by simp; omega) (by omega)
    rw [show ((X.toNat : Nat) : Int) = X by omega, show (((pl 3 n).toNat : Nat) : Int) = pl 3 n by omega] at this
    refine memOk_set hc 2 ?_
    rw [word_of hx, show kd 2 = 64 from rfl]
    simp [CellIs, Value.oneCell']
    exact ⟨this.1, by simpa using this.2⟩
  split
  · rename_i _ _ hk; subst hk
    obtain ⟨X, hx, x0, x1⟩ := hc.u16 (i := 3) (by omega) rfl
    obtain ⟨q0, q1⟩ := pl_lt 4 n (by decide)
    rw [show kZ 4 = 16 from rfl] at q1
    have := bput_bd X.toNat (pl 4 n).toNat 16 b (by omega) (by simp; omega) (by omega)
    rw [show ((X.toNat : Nat) : Int) = X by omega, show (((pl 4 n).toNat : Nat) : Int) = pl 4 n by omega] at this
    refine memOk_set hc 3 ?_
    rw [word_of hx, show kd 3 = 16 from rfl]
    simp [CellIs, Value.oneCell']
    exact ⟨this.1, by simpa using this.2⟩
  split
  · rename_i _ _ _ hk; subst hk
    obtain ⟨X, hx, x0, x1⟩ := hc.u32 (i := 4) (by omega) rfl
    obtain ⟨q0, q1⟩ := pl_lt 5 n (by decide)
    rw [show kZ 5 = 32 from rfl] at q1
    have := bput_bd X.toNat (pl 5 n).toNat 32 b (by omega) (by simp; omega) (by omega)
    rw [show ((X.toNat : Nat) : Int) = X by omega, show (((pl 5 n).toNat : Nat) : Int) = pl 5 n by omega] at this
    refine memOk_set hc 4 ?_
    rw [word_of hx, show kd 4 = 32 from rfl]
    simp [CellIs, Value.oneCell']
    exact ⟨this.1, by simpa using this.2⟩
  · exact hc

set_option maxRecDepth 10000 in
set_option maxHeartbeats 2000000 in
theorem put_i (c : Array Value) (hc : MemOk c) (k n p : Int) (b : Bool) (w : World) (hT : KT w) : Calls Tryz.prog 327 #[.agg c, .agg #[.int .i64 k, .int .i64 n, .int .i64 p], .bool b] w fun e w' => e = .returned (.agg (putb c k n b)) ∧ Below w.heap.size w w' := by
  have HT : Hid (KT w) := hT
  have HC : Hid (MemOk c) := hc
  have hz := zero_mem.1
  obtain ⟨Z, HZ⟩ : ∃ Z, Hid (Z = memZero) := ⟨_, rfl⟩
  rw [← HZ.out] at hz
  have HZs : Hid (Z.size = 136) := (by rw [HZ.out, memZero_size] : Z.size = 136)
  have HIc : Hid ((Tryz.prog.info? 39).map (·.size) = some c.size) := (by rw [HC.out.size]; exact zero_mem.2 : (Tryz.prog.info? 39).map (·.size) = some c.size)
  clear hc hT
  by_cases hk : k = 1
  · subst hk
    have hp : putb c 1 n b = c := by unfold putb; rw [if_neg (by omega), if_neg (by omega), if_neg (by omega), if_neg (by omega)]
    rw [hp]
    clear hp
    go_enter Tryz.func327, Tryz.ntmps327
    go_wp2_with (first | (refine wpL_load rfl 39 _ rfl _ _ rfl _ (load_all (rows3 w _ _ _).1 _ _ Tryz.underlying39 rfl HIc.out) ?_) | (refine wpL_store rfl 39 _ _ rfl _ _ rfl _ rfl _ (store_all (rows3 w _ _ _).2.2 _ _ (HZs.out.trans HC.out.size.symm) HIc.out HC.out.one) ?_) | exact ret_row rfl rfl (row_set (rows3 w _ _ _).2.2 _) Tryz.underlying39 rfl HIc.out rfl ⟨rfl, below_setRow ((((Below.refl _ _).alloc (Nat.le_refl _) _).alloc (by simp) _).alloc (by simp <;> omega) _) (by omega) _⟩ | fail)
  · have e1 : (k == 1) = false := by simp [hk]
    obtain ⟨C, HCC⟩ : ∃ C, Hid (C = putb c k n b) := ⟨_, rfl⟩
    rw [← HCC.out]
    have HCM : Hid (MemOk C) := (by rw [HCC.out]; exact memOk_putb HC.out k n b : MemOk C)
    have HW : Hid (∀ W, KT W → Calls Tryz.prog 328 #[.agg c, .agg #[.int .i64 k, .int .i64 n, .int .i64 p], .bool b] W fun e w' => e = .returned (.agg C) ∧ Below W.heap.size W w') := fun W h => by
      rw [HCC.out]; exact withbit c HC.out k n p hk b W h
    have HI : Hid ((Tryz.prog.info? 39).map (·.size) = some C.size) := (by rw [HCM.out.size]; exact zero_mem.2 : (Tryz.prog.info? 39).map (·.size) = some C.size)
    clear hk
    go_enter Tryz.func327, Tryz.ntmps327
    go_wp2_with (first | (refine wpL_load rfl 39 _ rfl _ _ rfl _ (load_all (rows3 w _ _ _).1 _ _ Tryz.underlying39 rfl HIc.out) ?_) | fail)
    refine (HW.out _ (((HT.out.alloc _).alloc _).alloc _)).mono ?_
    rintro e w1 ⟨rfl, g1⟩
    have b1 : Below w.heap.size w w1 := ((((Below.refl _ _).alloc (Nat.le_refl _) _).alloc (by simp) _).alloc (by simp <;> omega) _).trans (g1.mono (by simp <;> omega))
    have h3 : w1.heap[w.heap.size + 1 + 1]? = some (.cells Z 39 (0, 0)) := (g1.block _ (by simp <;> omega)).trans (rows3 w _ _ _).2.2
    have HR3 : Hid (w1.heap[w.heap.size + 1 + 1]? = some (.cells Z 39 (0, 0))) := h3
    have HSD : Hid ((storeVar 39 ⟨w.heap.size + 1 + 1, 0, none⟩ (.agg C)).run Tryz.prog w1 = .ok () (w1.setRow (w.heap.size + 1 + 1) C)) := store_all h3 _ _ (HZs.out.trans HCM.out.size.symm) HI.out HCM.out.one
    have HB : Hid (Below w.heap.size w (w1.setRow (w.heap.size + 1 + 1) C)) := below_setRow b1 (by omega) _
    clear g1 h3 b1 hz
    go_wp2_with (first | (refine wpL_store rfl 39 _ _ rfl _ _ rfl _ rfl _ HSD.out ?_) | exact ret_row rfl rfl (row_set HR3.out _) Tryz.underlying39 rfl HI.out rfl ⟨rfl, HB.out⟩ | fail)

end Go.Proofs.YtlgacbjopobeoaaGreatDoor
