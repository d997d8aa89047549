/- The specification's l26Find and l5Tail, at whatever sign. -/
import Derived.Test.YtjnddfpieogpiaaGreatDoorHaM
import Derived.Test.YtjnddfpieogpiaaGreatDoorHc
namespace Go.Proofs.YtjnddfpieogpiaaGreatDoor
open Go.RowKit
set_option linter.unusedVariables false

theorem index_none (c : UInt8) : ∀ s : List UInt8, (∀ b ∈ s, b ≠ c) → Lib.index s [c] = -1
  | [], _ => rfl
  | a :: s, h => by
    unfold Lib.index
    have hp : ¬ ([c].isPrefixOf (a :: s) = true) := by
      intro e
      have : c = a := by simpa [List.isPrefixOf] using e
      exact h a (by simp) this.symm
    rw [if_neg hp, if_pos (beq_iff_eq.2 (index_none c s (fun b hb => h b (by simp [hb]))))]
theorem index_at (c : UInt8) : ∀ (s : List UInt8) (j : Nat), (∀ b ∈ s.take j, b ≠ c) → s[j]? = some c → Lib.index s [c] = (j : Int)
  | [], j, _, h => by simp at h
  | a :: s, 0, _, h => by
    have : a = c := by simpa using h
    subst this
    unfold Lib.index
    rw [if_pos (by simp [List.isPrefixOf])]
    rfl
  | a :: s, j + 1, hn, h => by
    unfold Lib.index
    have hp : ¬ ([c].isPrefixOf (a :: s) = true) := by
      intro e
      have : c = a := by simpa [List.isPrefixOf] using e
      exact hn a (by simp) this.symm
    have ih := index_at c s j (fun b hb => hn b (by simp [hb])) (by simpa using h)
    have h2 : ¬ ((Lib.index s [c] == -1) = true) := by
      rw [ih]; intro e; have := beq_iff_eq.1 e; omega
    rw [if_neg hp, if_neg h2, ih]
    omega
theorem byte_at (s : ByteArray) (n : Nat) (hn : n < s.size) : s.data.toList[n]? = some (s[n]'hn) := by
  have hl : n < s.data.toList.length := by simpa using hn
  rw [List.getElem?_eq_getElem hl]
  rfl

set_option maxRecDepth 10000 in
set_option maxHeartbeats 1000000 in
theorem find_s (s : ByteArray) (c : UInt8) (w : World) (hs : s.size ≤ 4194304) :
    Calls Tryz.prog 94 #[.string s, .int .u8 (c.toNat : Int)] w fun e w' => e = .returned (.int .i64 (Lib.index s.data.toList [c])) ∧ w' = w := by
  obtain ⟨G, HG⟩ : ∃ G : Int, Hid (G = Lib.index s.data.toList [c]) := ⟨_, Eq.refl (Lib.index s.data.toList [c])⟩
  rw [← HG.out]
  go_enter Tryz.func94, Tryz.ntmps94
  go_wp2
  go_loopg [5] s.size (fun g i wr => ∃ (j : Nat), j + g = s.size ∧ i = .int .i64 j ∧ Hid (∀ b ∈ s.data.toList.take j, b ≠ c) ∧ wr = w)
  case atStart => exact ⟨0, by omega, rfl, (by simp : ∀ b ∈ s.data.toList.take 0, b ≠ c), rfl⟩
  case round =>
    obtain ⟨j, hj, rfl, HN, rfl⟩ := hrel
    by_cases hlt : j < s.size
    · have hsj : s[j]? = some (s[j]'hlt) := by simp [hlt]
      by_cases hc : (s[j]'hlt) = c
      · have hne : ((((s[j]'hlt).toNat : Nat) : Int) == (c.toNat : Int)) = true := by rw [hc]; simp
        have HE : Hid (G = (j : Int)) := (by rw [HG.out]; exact index_at c _ j HN.out (by rw [byte_at s j hlt, hc]) : G = (j : Int))
        clear hc
        go_wp2
        go_ret
        exact ⟨by rw [HE.out]; rfl, rfl⟩
      · have hne : ((((s[j]'hlt).toNat : Nat) : Int) == (c.toNat : Int)) = false := by
          rw [beq_eq_false_iff_ne]
          intro e
          exact hc (UInt8.toNat_inj.1 (by omega))
        have HN1 : Hid (∀ b ∈ s.data.toList.take (j + 1), b ≠ c) := by
          intro b hb
          have hl : j < s.data.toList.length := by simpa using hlt
          rw [List.take_succ_eq_append_getElem hl] at hb
          rcases List.mem_append.1 hb with hb | hb
          · exact HN.out b hb
          · rw [List.mem_singleton.1 hb]; exact hc
        clear hc HN
        go_wp2
        go_roundg (gk - 1)
        case measure => omega
        case rel => exact ⟨j + 1, by omega, by go_num, HN1, rfl⟩
    · have HE : Hid (G = -1) := (by
        rw [HG.out]
        refine index_none c _ fun b hb => HN.out b ?_
        rw [List.take_of_length_le (by simp; omega)]
        exact hb : G = -1)
      go_wp2
      go_ret
      exact ⟨by rw [HE.out]; rfl, rfl⟩

/-- A text without its last sign, if it is that one. -/
def tailB (s : ByteArray) (c : UInt8) : ByteArray × Bool := if s.data.toList.getLast? = some c then (s.extract 0 (s.size - 1), true) else (s, false)
set_option maxRecDepth 10000 in
set_option maxHeartbeats 1000000 in
theorem tail_s (s : ByteArray) (c : UInt8) (w : World) (hs : s.size ≤ 4194304) :
    Calls Tryz.prog 147 #[.string s, .int .u8 (c.toNat : Int)] w fun e w' => e = .returned (.tuple #[.string (tailB s c).1, .bool (tailB s c).2]) ∧ w' = w := by
  obtain ⟨T, b, HT⟩ : ∃ T b, Hid (tailB s c = (T, b)) := ⟨_, _, Eq.refl (tailB s c)⟩
  rw [HT.out]
  by_cases h0 : s.size = 0
  · have hT : (T, b) = (s, false) := by
      rw [← HT.out]
      unfold tailB
      rw [if_neg]
      have : s.data.toList = [] := by
        apply List.eq_nil_of_length_eq_zero
        simpa using h0
      rw [this]; simp
    injection hT with h1 h2
    subst h1 h2
    have i1 : ¬ (0 < (T.size : Int)) := by omega
    clear HT
    go_enter Tryz.func147, Tryz.ntmps147
    go_wp2
    refine bodyPost_ret (v := .tuple #[.string T, .bool false]) (by simp [results, Tryz.results147, go_sem]) rfl ⟨rfl, rfl⟩
  · have hlt : s.size - 1 < s.size := by omega
    have i1 : 0 < (s.size : Int) := by omega
    have hgl : s.data.toList.getLast? = some (s[s.size - 1]'hlt) := by
      rw [List.getLast?_eq_getElem?, show s.data.toList.length = s.size by simp]
      exact byte_at s _ hlt
    obtain ⟨n, hn⟩ : ∃ n, s.size = n + 1 := ⟨s.size - 1, by omega⟩
    have hlt2 : n < s.size := by omega
    have hgl2 : s.data.toList.getLast? = some (s[n]'hlt2) := by
      rw [hgl]
      simp [hn]
    have e1 : (s.size : Int) - 1 = (n : Int) := by omega
    have hsj : s[n]? = some (s[n]'hlt2) := by simp [hlt2]
    by_cases hc : (s[n]'hlt2) = c
    · have hT : (T, b) = (s.extract 0 n, true) := by
        rw [← HT.out]
        unfold tailB
        rw [if_pos (by rw [hgl2, hc]), show s.size - 1 = n by omega]
      injection hT with h1 h2
      subst h1 h2
      have e2 : ((((s[n]'hlt2).toNat : Nat) : Int) == (c.toNat : Int)) = true := by rw [hc]; simp
      clear HT hgl hgl2 hc
      go_enter Tryz.func147, Tryz.ntmps147
      go_wp2
      refine bodyPost_ret (v := .tuple #[.string (s.extract 0 n), .bool true]) (by simp [results, Tryz.results147, go_sem]) rfl ⟨rfl, rfl⟩
    · have hT : (T, b) = (s, false) := by
        rw [← HT.out]
        unfold tailB
        rw [if_neg (by rw [hgl2]; simpa using hc)]
      injection hT with h1 h2
      subst h1 h2
      have e2 : ((((T[n]'hlt2).toNat : Nat) : Int) == (c.toNat : Int)) = false := by
        rw [beq_eq_false_iff_ne]
        intro e
        exact hc (UInt8.toNat_inj.1 (by omega))
      clear HT hgl hgl2 hc
      go_enter Tryz.func147, Tryz.ntmps147
      go_wp2
      refine bodyPost_ret (v := .tuple #[.string T, .bool false]) (by simp [results, Tryz.results147, go_sem]) rfl ⟨rfl, rfl⟩
end Go.Proofs.YtjnddfpieogpiaaGreatDoor
