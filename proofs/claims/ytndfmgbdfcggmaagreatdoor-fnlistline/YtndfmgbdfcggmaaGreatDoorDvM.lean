/- The table of kinds loaded whole; the program's guess as a plain function. -/
import Derived.Test.YtndfmgbdfcggmaaGreatDoorDqM
import Derived.Test.YtndfmgbdfcggmaaGreatDoorRM
import Derived.Deep.LoopGhost
import Derived.Deep.Cut
import Derived.WalkMore
import Derived.Lib.OthersKept
import Derived.Great.Walk
import Derived.Deep.CutRange
import Derived.Deep.RegionWith
import Derived.Lib.IndexBytes
namespace Go.Proofs.YtndfmgbdfcggmaaGreatDoor
open Go.RowKit
set_option linter.unusedVariables false

def rowK (i : Nat) : List Value := [.string (kL i), .int .i64 (kS i), .bool (kB i), .bool (kW i), .bool (kR i)]
def bigK : List Value := (List.range 14).flatMap rowK

theorem bigK_len : bigK.length = 70 := by decide +kernel
theorem addr_add (b j : Nat) : (⟨b, 0, none⟩ : Addr).add j = ⟨b, j, none⟩ := by
  by_cases hz : j = 0
  · subst hz; rfl
  · simp [Addr.add, hz]
theorem bigK_key (i r : Nat) (hi : i < 14) (hr : r < 5) : bigK[i * 5 + r]? = (rowK i)[r]? := by
  rcases c14 i hi with rfl | rfl | rfl | rfl | rfl | rfl | rfl | rfl | rfl | rfl | rfl | rfl | rfl | rfl
  all_goals
    match r, hr with
    | 0, _ => rfl
    | 1, _ => rfl
    | 2, _ => rfl
    | 3, _ => rfl
    | 4, _ => rfl

theorem bigK_at {W : World} (h : KT W) : ∀ j v, bigK[j]? = some v → W.cell? ((⟨3, 0, none⟩ : Addr).add j) = some v := by
  intro j v hj
  have hlt : j < 70 := by
    have := (List.getElem?_eq_some_iff.1 hj).1
    rwa [bigK_len] at this
  rw [addr_add]
  obtain ⟨i, r, rfl, hi, hr⟩ : ∃ i r, j = i * 5 + r ∧ i < 14 ∧ r < 5 := ⟨j / 5, j % 5, by omega, by omega, by omega⟩
  rw [bigK_key i r hi hr] at hj
  have h0 := h i hi
  match r, hr with
  | 0, _ => simp [rowK] at hj; rw [← hj]; exact h0.1
  | 1, _ => simp [rowK] at hj; rw [← hj]; exact h0.2.1
  | 2, _ => simp [rowK] at hj; rw [← hj]; exact h0.2.2.1
  | 3, _ => simp [rowK] at hj; rw [← hj]; exact h0.2.2.2.1
  | 4, _ => simp [rowK] at hj; rw [← hj]; exact h0.2.2.2.2

theorem load58 {W : World} (h : KT W) (ρ : Operand → Value) (hρ : ρ (.global 3) = .pointer (some ⟨3, 0, none⟩)) (o : Oper) (ho : o.op = .load 182 (.global 3)) :
    (execOp ρ o).run Tryz.prog W = .ok (.value (.agg bigK.toArray)) W := by
  have hl := run_loadCells_list (P := Tryz.prog) W ⟨3, 0, none⟩ bigK (bigK_at h)
  rw [bigK_len] at hl
  unfold execOp
  rw [ho]
  simp only [hρ]
  simp [Instr.loadAt, Instr.sureAddr, loadVar, Sem.run_bind, Tryz.isAgg182, Tryz.sizeOf182, hl, Result.andThen]

theorem bigK_row (i : Nat) (hi : i < 14) : bigK.toArray.extract (i * 5) (i * 5 + 5) = #[.string (kL i), .int .i64 (kS i), .bool (kB i), .bool (kW i), .bool (kR i)] := by
  rcases c14 i hi with rfl | rfl | rfl | rfl | rfl | rfl | rfl | rfl | rfl | rfl | rfl | rfl | rfl | rfl <;> rfl

theorem idx44_0 (a b c d : Value) (w : World) : (Instr.index 144 (.agg #[a, b, c, d]) (.int .i64 0)).run Tryz.prog w = .ok a w := by kernel_rfl
theorem idx44_1 (a b c d : Value) (w : World) : (Instr.index 144 (.agg #[a, b, c, d]) (.int .i64 1)).run Tryz.prog w = .ok b w := by kernel_rfl
theorem idx44_2 (a b c d : Value) (w : World) : (Instr.index 144 (.agg #[a, b, c, d]) (.int .i64 2)).run Tryz.prog w = .ok c w := by kernel_rfl
theorem idx44_3 (a b c d : Value) (w : World) : (Instr.index 144 (.agg #[a, b, c, d]) (.int .i64 3)).run Tryz.prog w = .ok d w := by kernel_rfl
attribute [go_sem] idx44_0 idx44_1 idx44_2 idx44_3
theorem idx58 (cs : Array Value) (n : Nat) (hn : n < 14) (w : World) : (Instr.index 182 (.agg cs) (.int .i64 n)).run Tryz.prog w = .ok (.agg (cs.extract (n * 5) (n * 5 + 5))) w := by
  have h1 : (0 : Int) ≤ (n : Int) ∧ (n : Int) < ((14 : Nat) : Int) := by omega
  simp only [Instr.index, asIntOf, run_underlying Tryz.underlying182, Sem.run_bind, Result.andThen, Sem.run_pure, h1, part, Tryz.isAgg167, Tryz.sizeOf167, and_self, if_true]
  simp

/-- The kind of a letter, 0 if it is none's. -/
def ltr (b : Nat) : Nat := if b = 88 then 1 else if b = 89 then 2 else if b = 77 then 3 else if b = 83 then 4 else if b = 69 then 5 else if b = 71 then 6 else if b = 84 then 7 else if b = 67 then 8 else if b = 68 then 9 else if b = 82 then 10 else 0

/-- The program's guess, behind the words, byte by byte. -/
def gl : Bool → Int → Int → Int → Int → List UInt8 → Int × Int × Int
  | _, s, K, N, P, [] => (K, N * s, P)
  | f, s, K, N, P, b :: r =>
    if f = true ∧ b.toNat = 45 then gl false (-1) K N P r
    else if f = true ∧ ltr b.toNat ≠ 0 then gl false s (ltr b.toNat) N P r
    else if b.toNat = 46 ∧ K = 11 then gl false s 12 N P r
    else if 48 ≤ b.toNat ∧ b.toNat ≤ 57 ∧ N ≤ 99999999 then gl false s K (N * 10 + ((b.toNat : Int) - 48)) (if K = 12 then P + 1 else P) r
    else (0, 0, 0)


theorem ltr_dig (b : Nat) (h1 : 48 ≤ b) (h2 : b ≤ 57) : ltr b = 0 := by
  unfold ltr
  rw [if_neg (by omega), if_neg (by omega), if_neg (by omega), if_neg (by omega), if_neg (by omega), if_neg (by omega), if_neg (by omega), if_neg (by omega), if_neg (by omega), if_neg (by omega)]
theorem ltr_big (b : Nat) (h : 128 ≤ b) : ltr b = 0 := by
  unfold ltr
  rw [if_neg (by omega), if_neg (by omega), if_neg (by omega), if_neg (by omega), if_neg (by omega), if_neg (by omega), if_neg (by omega), if_neg (by omega), if_neg (by omega), if_neg (by omega)]
theorem ltr_le (b : Nat) : ltr b ≤ 10 := by
  unfold ltr
  repeat' split
  all_goals omega

theorem gl_minus (S K N P : Int) (b : UInt8) (r : List UInt8) (h : b.toNat = 45) : gl true S K N P (b :: r) = gl false (-1) K N P r := by
  rw [gl, if_pos ⟨rfl, h⟩]
theorem gl_ltr (S K N P : Int) (b : UInt8) (r : List UInt8) (h1 : b.toNat ≠ 45) (h : ltr b.toNat ≠ 0) : gl true S K N P (b :: r) = gl false S (ltr b.toNat) N P r := by
  rw [gl, if_neg (fun e => h1 e.2), if_pos ⟨rfl, h⟩]
theorem gl_dot (f : Bool) (S N P : Int) (b : UInt8) (r : List UInt8) (h : b.toNat = 46) : gl f S 11 N P (b :: r) = gl false S 12 N P r := by
  rw [gl, if_neg (fun e => by omega), if_neg (fun e => e.2 (by rw [h]; rfl)), if_pos ⟨h, rfl⟩]
theorem gl_dig (f : Bool) (S K N P : Int) (b : UInt8) (r : List UInt8) (h1 : 48 ≤ b.toNat) (h2 : b.toNat ≤ 57) (hN : N ≤ 99999999) :
    gl f S K N P (b :: r) = gl false S K (N * 10 + ((b.toNat : Int) - 48)) (if K = 12 then P + 1 else P) r := by
  rw [gl, if_neg (fun e => by omega), if_neg (fun e => e.2 (ltr_dig _ h1 h2)), if_neg (fun e => by omega), if_pos ⟨h1, h2, hN⟩]
theorem gl_bad (f : Bool) (S K N P : Int) (b : UInt8) (r : List UInt8) (h1 : f = true → b.toNat ≠ 45 ∧ ltr b.toNat = 0) (h2 : ¬ (b.toNat = 46 ∧ K = 11)) (h3 : ¬ (48 ≤ b.toNat ∧ b.toNat ≤ 57 ∧ N ≤ 99999999)) : gl f S K N P (b :: r) = (0, 0, 0) := by
  rw [gl, if_neg (fun e => (h1 e.1).1 e.2), if_neg (fun e => e.2 (h1 e.1).2), if_neg h2, if_neg h3]

theorem drop_at (s : ByteArray) (pos : Nat) (hp : pos < s.size) : s.data.toList.drop pos = (s[pos]'hp) :: s.data.toList.drop (pos + 1) := by
  have h : pos < s.data.toList.length := by simpa using hp
  rw [List.drop_eq_getElem_cons h]
  congr 1

theorem cmpL (n b : Nat) (hn : n < 14) (hb : b < 128) : ((kL n).toList == (Utf8.encode b).toList) = decide (ltr b = n ∧ n ≠ 0) := by
  have h : ∀ (n : Fin 14) (b : Fin 128), ((kL (n.val : Nat)).toList == (Utf8.encode b.val).toList) = decide (ltr b.val = n.val ∧ n.val ≠ 0) := by decide +kernel
  exact h ⟨n, hn⟩ ⟨b, hb⟩

theorem decode_big (s : ByteArray) (pos : Nat) (hp : pos < s.size) (h : ¬ (s[pos]'hp).toNat < 128) : 128 ≤ (Utf8.decode s pos).1 := by
  have e : s.get! (pos + 0) = s[pos]'hp := by
    show s.get! pos = _
    simp [ByteArray.get!, getElem!_pos, hp]
    rfl
  simp only [Utf8.decode, e, h, if_false]
  repeat' split
  all_goals simp_all [Utf8.runeError]
  all_goals omega

theorem encode_long (r : Nat) (hr : 128 ≤ r) : 2 ≤ (Utf8.encode r).data.toList.length := by
  simp only [Utf8.encode]
  have hc : 128 ≤ (if Utf8.valid (r : Int) then (r : Int).toNat else Utf8.runeError) := by
    split
    · omega
    · decide
  generalize (if Utf8.valid (r : Int) then (r : Int).toNat else Utf8.runeError) = c at hc
  rw [if_neg (by omega)]
  split
  · simp
  · split <;> simp
theorem cmpBig (n r : Nat) (hr : 128 ≤ r) : ((kL n).toList == (Utf8.encode r).toList) = false := by
  rw [Bool.eq_false_iff]
  intro e
  have e1 := eq_of_beq e
  have h1 := kL_small n
  have h2 := encode_long r hr
  rw [Lib.toList_data, Lib.toList_data] at e1
  rw [← e1] at h2
  have h3 : (kL n).data.toList.length = (kL n).size := (Lib.size_eq (kL n)).symm
  omega
end Go.Proofs.YtndfmgbdfcggmaaGreatDoor
/- The walk of the program's devGuess, where the text is none of the words. -/
namespace Go.Proofs.YtndfmgbdfcggmaaGreatDoor
open Go.RowKit
set_option linter.unusedVariables false
theorem iter_alloc {w : World} {k : Nat} {o o' : Obj} (h : w.heap[k]? = some o) : (w.alloc o').heap[k]? = some o := by
  rw [Below.heap_alloc _ _ _ (Array.getElem?_eq_some_iff.1 h).1]; exact h

theorem iter_set {w : World} {k : Nat} {o : Obj} (h : w.heap[k]? = some o) (b f : Nat) (hne : b ≠ k) (v : Value) : (w.setCell ⟨b, f, none⟩ v).heap[k]? = some o := by
  rw [Below.heap_setCell _ _ _ _ (by show k ≠ b; omega)]; exact h
theorem A3.iter {w : World} {bl : Nat} {k n p : Int} (h : A3 w bl k n p) (j : Nat) (hne : bl ≠ j) (s : ByteArray) (pos : Nat) : A3 (w.iterAt j s pos) bl k n p := by
  have e := Lib.iterAt_other w j bl s pos hne
  exact ⟨(World.cell?_of_block (a := ⟨bl, 0, none⟩) e).trans h.c0, (World.cell?_of_block (a := ⟨bl, 1, none⟩) e).trans h.c1, (World.cell?_of_block (a := ⟨bl, 2, none⟩) e).trans h.c2, (World.frozen?_of_block (a := ⟨bl, 0, none⟩) e).trans h.f0, (World.frozen?_of_block (a := ⟨bl, 1, none⟩) e).trans h.f1, (World.frozen?_of_block (a := ⟨bl, 2, none⟩) e).trans h.f2⟩

set_option maxRecDepth 100000 in
set_option maxHeartbeats 20000000 in
theorem guess_rest (s : ByteArray) (w : World) (hT : Tabs w) (hsz : s.size ≤ 1048576) (n0 : (s.toList == [110, 97, 110]) = false) (n1 : (s.toList == [105, 110, 102]) = false) (n2 : (s.toList == [45, 105, 110, 102]) = false) (n3 : (s.toList == [45, 48, 46, 48]) = false) :
    Calls Tryz.prog 161 #[.string s] w fun e w' => (e = .returned (.agg #[.int .i64 (gl true 1 11 0 0 s.data.toList).1, .int .i64 (gl true 1 11 0 0 s.data.toList).2.1, .int .i64 (gl true 1 11 0 0 s.data.toList).2.2])) ∧ Below w.heap.size w w' := by
  have hl := hT.w.lt
  have q0 : ∀ o : Obj, (w.alloc o).cell? ⟨2, 0, none⟩ = some (.string ⟨#[110, 97, 110]⟩) := fun o => (World.cell?_alloc_past _ _ _ hl).trans (hT.w 0 (by omega))
  have q1 : ∀ o : Obj, (w.alloc o).cell? ⟨2, 1, none⟩ = some (.string ⟨#[105, 110, 102]⟩) := fun o => (World.cell?_alloc_past _ _ _ hl).trans (hT.w 1 (by omega))
  have q2 : ∀ o : Obj, (w.alloc o).cell? ⟨2, 2, none⟩ = some (.string ⟨#[45, 105, 110, 102]⟩) := fun o => (World.cell?_alloc_past _ _ _ hl).trans (hT.w 2 (by omega))
  have q3 : ∀ o : Obj, (w.alloc o).cell? ⟨2, 3, none⟩ = some (.string ⟨#[45, 48, 46, 48]⟩) := fun o => (World.cell?_alloc_past _ _ _ hl).trans (hT.w 3 (by omega))
  obtain ⟨G, HG⟩ : ∃ G, Hid (G = gl true 1 11 0 0 s.data.toList) := ⟨_, Eq.refl (gl true 1 11 0 0 s.data.toList)⟩
  rw [← HG.out]
  go_enter Tryz.func161, Tryz.ntmps161
  go_wp2
  go_step3
  go_wp2
  clear q0 q1 q2 q3
  go_loopg [12] 4 (fun g i wr => ∃ n : Nat, n + g = 4 ∧ i = .int .i64 n ∧ wr = w.alloc (.cells #[.int .i64 0, .int .i64 0, .int .i64 0] 76))
  case atStart => exact ⟨0, rfl, rfl, rfl⟩
  case round =>
    obtain ⟨n, hn, rfl, rfl⟩ := hrel
    by_cases hlt : n < 4
    · rcases c4 n hlt with rfl | rfl | rfl | rfl
      all_goals
        go_wp2
        go_roundg (gk - 1)
        case measure => omega
        case rel => first | exact ⟨1, by omega, rfl, rfl⟩ | exact ⟨2, by omega, rfl, rfl⟩ | exact ⟨3, by omega, rfl, rfl⟩ | exact ⟨4, by omega, rfl, rfl⟩
    · obtain rfl : n = 4 := by omega
      clear n0 n1 n2 n3 hlt hn
      go_wp2
      go_step3
      go_wp2
      go_loopg [6] s.size (fun g sg wr => ∃ (pos : Nat) (S K N P : Int), pos + g = s.size ∧ sg = .int .i64 S ∧ A3 wr (w.heap.size + 1) K N P ∧ A3 wr w.heap.size 0 0 0 ∧ wr.heap[w.heap.size + 2]? = some (.stringIter s pos) ∧ Below w.heap.size w wr ∧
        (0 ≤ N ∧ N ≤ 999999999 ∧ 0 ≤ P ∧ P ≤ pos ∧ (S = 1 ∨ S = -1)) ∧ Hid (G = gl (pos == 0) S K N P (s.data.toList.drop pos)))
      case atStart =>
        refine ⟨0, 1, 11, 0, 0, by omega, rfl, ?_, ?_, ?_, ?_, by omega, HG.out⟩
        · have := (A3.fresh (w.alloc (.cells #[.int .i64 0, .int .i64 0, .int .i64 0] 76)) 11 0 0 76).alloc (.stringIter s 0)
          rw [World.size_alloc] at this
          exact this
        · exact ((A3.fresh w 0 0 0 76).alloc _).alloc _
        · have := World.iter_heap ((w.alloc (.cells #[.int .i64 0, .int .i64 0, .int .i64 0] 76)).alloc (.cells #[.int .i64 11, .int .i64 0, .int .i64 0] 76)) s 0
          simpa using this
        · exact (((Below.refl _ _).alloc (Nat.le_refl _) _).alloc (by simp) _).alloc (by simp; omega) _
      case round =>
        clear HG
        obtain ⟨pos, S, K, N, P, hpos, rfl, ha, hr, hit, hb, bd, HG⟩ := hrel
        by_cases hp : pos < s.size
        · by_cases ha8 : (s[pos]'hp).toNat < 128
          · have hnx : ∀ ty, (Instr.next (.pointer (some ⟨w.heap.size + 2, 0, none⟩)) true ty).run Tryz.prog wr = _ := fun ty => Lib.run_next_ascii_at wr (w.heap.size + 2) s pos ty hit hp ha8
            obtain ⟨b, Hb⟩ : ∃ b, Hid (b = (s[pos]'hp).toNat) := ⟨_, Eq.refl ((s[pos]'hp).toNat)⟩
            rw [← Hb.out] at hnx ha8
            have it1 := Lib.iterAt_heap wr (w.heap.size + 2) s pos (pos + 1) hit
            have b1 := Lib.below_iterAt hb (k := w.heap.size + 2) (by omega) s (pos + 1)
            have a1 : A3 (wr.iterAt (w.heap.size + 2) s (pos + 1)) (w.heap.size + 1) K N P := ha.iter _ (by omega) _ _
            have r1 : A3 (wr.iterAt (w.heap.size + 2) s (pos + 1)) w.heap.size 0 0 0 := hr.iter _ (by omega) _ _
            obtain ⟨W, HW⟩ : ∃ W, Hid (W = wr.iterAt (w.heap.size + 2) s (pos + 1)) := ⟨_, Eq.refl (wr.iterAt (w.heap.size + 2) s (pos + 1))⟩
            rw [← HW.out] at hnx it1 b1 a1 r1
            clear HW ha hr hit hb
            by_cases hp0 : pos = 0
            · have hp0' : ((pos : Int) == 0) = true := by simp [hp0]
              have hpt : (pos == 0) = true := by simp [hp0]
              by_cases h45 : b = 45
              · have h45' : ((b : Int) == 45) = true := by simp; omega
                have HE : Hid (G = gl false (-1) K N P (s.data.toList.drop (pos + 1))) := by
                  have h := HG.out
                  rw [hpt, drop_at s pos hp, gl_minus _ _ _ _ _ _ (by rw [← Hb.out]; exact h45)] at h
                  exact h
                clear HG Hb
                go_wp2
                go_roundg (s.size - (pos + 1))
                case measure => omega
                case rel => exact ⟨pos + 1, -1, K, N, P, by omega, rfl, a1, r1, it1, b1, by omega, by rw [show (pos + 1 == 0) = false by simp]; exact HE.out⟩
              · have h45' : ((b : Int) == 45) = false := by simp; omega
                go_upto_region 13 with fail
                have hld := fun ρ hρ o ho => load58 (hT.k.later b1) ρ hρ o ho
                obtain ⟨CS, HCS⟩ : ∃ CS, Hid (CS = bigK.toArray) := ⟨_, Eq.refl bigK.toArray⟩
                rw [← HCS.out] at hld
                refine wp_region_lit ?_
                refine Go.Great.wpList_readTo rfl (some 35) rfl (.agg CS) (hld _ rfl _ rfl) ?_
                clear hld
                go_wp2
                go_loopg [36] 14 (fun g i wi => ∃ n : Nat, n + g = 14 ∧ i = .int .i64 n ∧ A3 wi (w.heap.size + 1) K N P ∧ A3 wi w.heap.size 0 0 0 ∧ wi.heap[w.heap.size + 2]? = some (.stringIter s (pos + 1)) ∧ Below w.heap.size w wi ∧ (ltr b = 0 ∨ n ≤ ltr b))
                case atStart => exact ⟨0, rfl, rfl, a1, r1, it1, b1, by omega⟩
                case round =>
                  clear a1 r1 it1 b1
                  obtain ⟨n, hn, rfl, a1, r1, it1, b1, hlt2⟩ := hrel
                  by_cases hlt : n < 14
                  · have hix := fun w => idx58 CS n hlt w
                    have hrow : CS.extract (n * 5) (n * 5 + 5) = #[.string (kL n), .int .i64 (kS n), .bool (kB n), .bool (kW n), .bool (kR n)] := by rw [HCS.out]; exact bigK_row n hlt
                    rw [hrow] at hix
                    clear hrow HCS
                    have hcmp := cmpL n b hlt ha8
                    by_cases hhit : ltr b = n ∧ n ≠ 0
                    · rw [decide_eq_true hhit] at hcmp
                      have a2 := (a1.alloc (.cells #[.string (kL n), .int .i64 (kS n), .bool (kB n), .bool (kW n), .bool (kR n)] 167)).put0 n
                      have r2 := (r1.alloc (.cells #[.string (kL n), .int .i64 (kS n), .bool (kB n), .bool (kW n), .bool (kR n)] 167)).other (w.heap.size + 1) 0 (by omega) (.int .i64 n)
                      have it2 := iter_set (iter_alloc (o' := .cells #[.string (kL n), .int .i64 (kS n), .bool (kB n), .bool (kW n), .bool (kR n)] 167) it1) (w.heap.size + 1) 0 (by omega) (.int .i64 n)
                      have b2 := (b1.alloc b1.size (.cells #[.string (kL n), .int .i64 (kS n), .bool (kB n), .bool (kW n), .bool (kR n)] 167)).setCell (p := ⟨w.heap.size + 1, 0, none⟩) (by show w.heap.size ≤ w.heap.size + 1; omega) (.int .i64 n)
                      have ac := a1.alloc (.cells #[.string (kL n), .int .i64 (kS n), .bool (kB n), .bool (kW n), .bool (kR n)] 167)
                      obtain ⟨c0, c1, c2, f0, f1, f2⟩ := ac
                      have HE : Hid (G = gl false S n N P (s.data.toList.drop (pos + 1))) := by
                        have h := HG.out
                        rw [hpt, drop_at s pos hp, gl_ltr _ _ _ _ _ _ (by rw [← Hb.out]; omega) (by rw [← Hb.out]; omega), ← Hb.out, hhit.1] at h
                        exact h
                      clear HG Hb a1 r1 it1 b1 hlt2 hhit
                      go_wp2
                      go_roundg (s.size - (pos + 1))
                      case measure => omega
                      case rel => exact ⟨pos + 1, S, n, N, P, by omega, rfl, a2, r2, it2, b2, by omega, by rw [show (pos + 1 == 0) = false by simp]; exact HE.out⟩
                    · rw [decide_eq_false hhit] at hcmp
                      go_wp2
                      go_roundg (gk - 1)
                      case measure => omega
                      case rel => exact ⟨n + 1, by omega, by go_num, a1.alloc _, r1.alloc _, iter_alloc it1, b1.alloc b1.size _, by omega⟩
                  · obtain rfl : n = 14 := by omega
                    clear HCS
                    have hl0 : ltr b = 0 := by have := ltr_le b; omega
                    clear hlt2
                    by_cases hd : 48 ≤ b ∧ b ≤ 57 ∧ N ≤ 99999999
                    · obtain ⟨hd1, hd2, hd3⟩ := hd
                      have q1' : (((b : Nat) : Int) == 46) = false := by simp; omega
                      have q2 : 48 ≤ ((b : Nat) : Int) := by omega
                      have q3 : ((b : Nat) : Int) ≤ 57 := by omega
                      by_cases hK : K = 12
                      · have hK' : (K == 12) = true := by simp [hK]
                        have HE : Hid (G = gl false S K (N * 10 + ((b : Int) - 48)) (P + 1) (s.data.toList.drop (pos + 1))) := by
                          have h := HG.out
                          rw [drop_at s pos hp, gl_dig _ _ _ _ _ _ _ (by rw [← Hb.out]; omega) (by rw [← Hb.out]; omega) hd3, ← Hb.out, if_pos hK] at h
                          exact h
                        have a2 := a1.put1 (N * 10 + ((b : Int) - 48))
                        have a3 := a2.put2 (P + 1)
                        have r3 := (r1.other (w.heap.size + 1) 1 (by omega) (.int .i64 (N * 10 + ((b : Int) - 48)))).other (w.heap.size + 1) 2 (by omega) (.int .i64 (P + 1))
                        have it3 := iter_set (iter_set it1 (w.heap.size + 1) 1 (by omega) (.int .i64 (N * 10 + ((b : Int) - 48)))) (w.heap.size + 1) 2 (by omega) (.int .i64 (P + 1))
                        have b3 := (b1.setCell (p := ⟨w.heap.size + 1, 1, none⟩) (by show w.heap.size ≤ w.heap.size + 1; omega) (.int .i64 (N * 10 + ((b : Int) - 48)))).setCell (p := ⟨w.heap.size + 1, 2, none⟩) (by show w.heap.size ≤ w.heap.size + 1; omega) (.int .i64 (P + 1))
                        obtain ⟨c0, c1, c2, f0, f1, f2⟩ := a1
                        obtain ⟨d0, d1, d2, g0, g1, g2⟩ := a2
                        clear HG Hb r1 it1 b1 hK
                        go_wp2
                        go_roundg (s.size - (pos + 1))
                        case measure => omega
                        case rel => exact ⟨pos + 1, S, K, _, _, by omega, rfl, a3, r3, it3, b3, by omega, by rw [show (pos + 1 == 0) = false by simp]; exact HE.out⟩
                      · have hK' : (K == 12) = false := by simp [hK]
                        have HE : Hid (G = gl false S K (N * 10 + ((b : Int) - 48)) P (s.data.toList.drop (pos + 1))) := by
                          have h := HG.out
                          rw [drop_at s pos hp, gl_dig _ _ _ _ _ _ _ (by rw [← Hb.out]; omega) (by rw [← Hb.out]; omega) hd3, ← Hb.out, if_neg hK] at h
                          exact h
                        have a2 := a1.put1 (N * 10 + ((b : Int) - 48))
                        have r3 := r1.other (w.heap.size + 1) 1 (by omega) (.int .i64 (N * 10 + ((b : Int) - 48)))
                        have it3 := iter_set it1 (w.heap.size + 1) 1 (by omega) (.int .i64 (N * 10 + ((b : Int) - 48)))
                        have b3 := b1.setCell (p := ⟨w.heap.size + 1, 1, none⟩) (by show w.heap.size ≤ w.heap.size + 1; omega) (.int .i64 (N * 10 + ((b : Int) - 48)))
                        have a3 := a2
                        obtain ⟨c0, c1, c2, f0, f1, f2⟩ := a1
                        obtain ⟨d0, d1, d2, g0, g1, g2⟩ := a2
                        clear HG Hb r1 it1 b1 hK
                        go_wp2
                        go_roundg (s.size - (pos + 1))
                        case measure => omega
                        case rel => exact ⟨pos + 1, S, K, _, _, by omega, rfl, a3, r3, it3, b3, by omega, by rw [show (pos + 1 == 0) = false by simp]; exact HE.out⟩
                    · by_cases hdot : b = 46 ∧ K = 11
                      · obtain ⟨hd1, rfl⟩ := hdot
                        have q1' : (((b : Nat) : Int) == 46) = true := by simp; omega
                        have HE : Hid (G = gl false S 12 N P (s.data.toList.drop (pos + 1))) := by
                          have h := HG.out
                          rw [drop_at s pos hp, gl_dot _ _ _ _ _ _ (by rw [← Hb.out]; exact hd1)] at h
                          exact h
                        have a3 := a1.put0 12
                        have r3 := r1.other (w.heap.size + 1) 0 (by omega) (.int .i64 12)
                        have it3 := iter_set it1 (w.heap.size + 1) 0 (by omega) (.int .i64 12)
                        have b3 := b1.setCell (p := ⟨w.heap.size + 1, 0, none⟩) (by show w.heap.size ≤ w.heap.size + 1; omega) (.int .i64 12)
                        obtain ⟨c0, c1, c2, f0, f1, f2⟩ := a1
                        clear HG Hb r1 it1 b1 hd1
                        go_wp2
                        go_roundg (s.size - (pos + 1))
                        case measure => omega
                        case rel => exact ⟨pos + 1, S, 12, N, P, by omega, rfl, a3, r3, it3, b3, by omega, by rw [show (pos + 1 == 0) = false by simp]; exact HE.out⟩
                      · have HE : Hid (G = (0, 0, 0)) := by
                          have h := HG.out
                          rw [drop_at s pos hp, gl_bad _ _ _ _ _ _ _ (fun _ => ⟨by rw [← Hb.out]; omega, by rw [← Hb.out]; exact hl0⟩) (by rw [← Hb.out]; exact hdot) (by rw [← Hb.out]; exact hd)] at h
                          exact h
                        have r3 := r1.set 0 0 0
                        obtain ⟨x0, x1, x2, y0, y1, y2⟩ := r1
                        obtain ⟨z0, z1, z2, _, _, _⟩ := r3
                        obtain ⟨c0, c1, c2, f0, f1, f2⟩ := a1
                        clear HG Hb
                        by_cases h46 : b = 46
                        · have q1' : (((b : Nat) : Int) == 46) = true := by simp; omega
                          have qK : (K == 11) = false := by simp; omega
                          have q2 : decide (48 ≤ ((b : Nat) : Int)) = false := by simp; omega
                          go_wp2
                          try rw [Exit.noGoto_ret]
                          refine bodyPost_ret (v := .agg #[.int .i64 0, .int .i64 0, .int .i64 0]) (by simp [results, Tryz.results161, go_sem, z0, z1, z2]) rfl ⟨by rw [HE.out], ?_⟩
                          exact ((b1.setCell (Nat.le_refl _) _).setCell (Nat.le_refl _) _).setCell (Nat.le_refl _) _
                        · have q1' : (((b : Nat) : Int) == 46) = false := by simp; omega
                          by_cases h48 : 48 ≤ b
                          · have q2 : 48 ≤ ((b : Nat) : Int) := by omega
                            by_cases h57 : b ≤ 57
                            · have q3 : ((b : Nat) : Int) ≤ 57 := by omega
                              have q4 : decide (N ≤ 99999999) = false := by simp; omega
                              go_wp2
                              try rw [Exit.noGoto_ret]
                              refine bodyPost_ret (v := .agg #[.int .i64 0, .int .i64 0, .int .i64 0]) (by simp [results, Tryz.results161, go_sem, z0, z1, z2]) rfl ⟨by rw [HE.out], ?_⟩
                              exact ((b1.setCell (Nat.le_refl _) _).setCell (Nat.le_refl _) _).setCell (Nat.le_refl _) _
                            · have q3 : decide (((b : Nat) : Int) ≤ 57) = false := by simp; omega
                              go_wp2
                              try rw [Exit.noGoto_ret]
                              refine bodyPost_ret (v := .agg #[.int .i64 0, .int .i64 0, .int .i64 0]) (by simp [results, Tryz.results161, go_sem, z0, z1, z2]) rfl ⟨by rw [HE.out], ?_⟩
                              exact ((b1.setCell (Nat.le_refl _) _).setCell (Nat.le_refl _) _).setCell (Nat.le_refl _) _
                          · have q2 : decide (48 ≤ ((b : Nat) : Int)) = false := by simp; omega
                            go_wp2
                            try rw [Exit.noGoto_ret]
                            refine bodyPost_ret (v := .agg #[.int .i64 0, .int .i64 0, .int .i64 0]) (by simp [results, Tryz.results161, go_sem, z0, z1, z2]) rfl ⟨by rw [HE.out], ?_⟩
                            exact ((b1.setCell (Nat.le_refl _) _).setCell (Nat.le_refl _) _).setCell (Nat.le_refl _) _
            · have hp0' : ((pos : Int) == 0) = false := by simp; omega
              go_upto_region 13 with fail
              have hld := fun ρ hρ o ho => load58 (hT.k.later b1) ρ hρ o ho
              obtain ⟨CS, HCS⟩ : ∃ CS, Hid (CS = bigK.toArray) := ⟨_, Eq.refl bigK.toArray⟩
              rw [← HCS.out] at hld
              refine wp_region_lit ?_
              refine Go.Great.wpList_readTo rfl (some 35) rfl (.agg CS) (hld _ rfl _ rfl) ?_
              clear hld
              go_wp2
              go_loopg [36] 14 (fun g i wi => ∃ n : Nat, n + g = 14 ∧ i = .int .i64 n ∧ A3 wi (w.heap.size + 1) K N P ∧ A3 wi w.heap.size 0 0 0 ∧ wi.heap[w.heap.size + 2]? = some (.stringIter s (pos + 1)) ∧ Below w.heap.size w wi)
              case atStart => exact ⟨0, rfl, rfl, a1, r1, it1, b1⟩
              case round =>
                clear a1 r1 it1 b1
                obtain ⟨n, hn, rfl, a1, r1, it1, b1⟩ := hrel
                by_cases hlt : n < 14
                · have hix := fun w => idx58 CS n hlt w
                  have hrow : CS.extract (n * 5) (n * 5 + 5) = #[.string (kL n), .int .i64 (kS n), .bool (kB n), .bool (kW n), .bool (kR n)] := by rw [HCS.out]; exact bigK_row n hlt
                  rw [hrow] at hix
                  clear hrow HCS
                  go_wp2
                  go_roundg (gk - 1)
                  case measure => omega
                  case rel => exact ⟨n + 1, by omega, by go_num, a1.alloc _, r1.alloc _, iter_alloc it1, b1.alloc b1.size _⟩
                · obtain rfl : n = 14 := by omega
                  clear HCS
                  by_cases hd : 48 ≤ b ∧ b ≤ 57 ∧ N ≤ 99999999
                  · obtain ⟨hd1, hd2, hd3⟩ := hd
                    have q1' : (((b : Nat) : Int) == 46) = false := by simp; omega
                    have q2 : 48 ≤ ((b : Nat) : Int) := by omega
                    have q3 : ((b : Nat) : Int) ≤ 57 := by omega
                    by_cases hK : K = 12
                    · have hK' : (K == 12) = true := by simp [hK]
                      have HE : Hid (G = gl false S K (N * 10 + ((b : Int) - 48)) (P + 1) (s.data.toList.drop (pos + 1))) := by
                        have h := HG.out
                        rw [drop_at s pos hp, gl_dig _ _ _ _ _ _ _ (by rw [← Hb.out]; omega) (by rw [← Hb.out]; omega) hd3, ← Hb.out, if_pos hK] at h
                        exact h
                      have a2 := a1.put1 (N * 10 + ((b : Int) - 48))
                      have a3 := a2.put2 (P + 1)
                      have r3 := (r1.other (w.heap.size + 1) 1 (by omega) (.int .i64 (N * 10 + ((b : Int) - 48)))).other (w.heap.size + 1) 2 (by omega) (.int .i64 (P + 1))
                      have it3 := iter_set (iter_set it1 (w.heap.size + 1) 1 (by omega) (.int .i64 (N * 10 + ((b : Int) - 48)))) (w.heap.size + 1) 2 (by omega) (.int .i64 (P + 1))
                      have b3 := (b1.setCell (p := ⟨w.heap.size + 1, 1, none⟩) (by show w.heap.size ≤ w.heap.size + 1; omega) (.int .i64 (N * 10 + ((b : Int) - 48)))).setCell (p := ⟨w.heap.size + 1, 2, none⟩) (by show w.heap.size ≤ w.heap.size + 1; omega) (.int .i64 (P + 1))
                      obtain ⟨c0, c1, c2, f0, f1, f2⟩ := a1
                      obtain ⟨d0, d1, d2, g0, g1, g2⟩ := a2
                      clear HG Hb r1 it1 b1 hK
                      go_wp2
                      go_roundg (s.size - (pos + 1))
                      case measure => omega
                      case rel => exact ⟨pos + 1, S, K, _, _, by omega, rfl, a3, r3, it3, b3, by omega, by rw [show (pos + 1 == 0) = false by simp]; exact HE.out⟩
                    · have hK' : (K == 12) = false := by simp [hK]
                      have HE : Hid (G = gl false S K (N * 10 + ((b : Int) - 48)) P (s.data.toList.drop (pos + 1))) := by
                        have h := HG.out
                        rw [drop_at s pos hp, gl_dig _ _ _ _ _ _ _ (by rw [← Hb.out]; omega) (by rw [← Hb.out]; omega) hd3, ← Hb.out, if_neg hK] at h
                        exact h
                      have a2 := a1.put1 (N * 10 + ((b : Int) - 48))
                      have r3 := r1.other (w.heap.size + 1) 1 (by omega) (.int .i64 (N * 10 + ((b : Int) - 48)))
                      have it3 := iter_set it1 (w.heap.size + 1) 1 (by omega) (.int .i64 (N * 10 + ((b : Int) - 48)))
                      have b3 := b1.setCell (p := ⟨w.heap.size + 1, 1, none⟩) (by show w.heap.size ≤ w.heap.size + 1; omega) (.int .i64 (N * 10 + ((b : Int) - 48)))
                      have a3 := a2
                      obtain ⟨c0, c1, c2, f0, f1, f2⟩ := a1
                      obtain ⟨d0, d1, d2, g0, g1, g2⟩ := a2
                      clear HG Hb r1 it1 b1 hK
                      go_wp2
                      go_roundg (s.size - (pos + 1))
                      case measure => omega
                      case rel => exact ⟨pos + 1, S, K, _, _, by omega, rfl, a3, r3, it3, b3, by omega, by rw [show (pos + 1 == 0) = false by simp]; exact HE.out⟩
                  · by_cases hdot : b = 46 ∧ K = 11
                    · obtain ⟨hd1, rfl⟩ := hdot
                      have q1' : (((b : Nat) : Int) == 46) = true := by simp; omega
                      have HE : Hid (G = gl false S 12 N P (s.data.toList.drop (pos + 1))) := by
                        have h := HG.out
                        rw [drop_at s pos hp, gl_dot _ _ _ _ _ _ (by rw [← Hb.out]; exact hd1)] at h
                        exact h
                      have a3 := a1.put0 12
                      have r3 := r1.other (w.heap.size + 1) 0 (by omega) (.int .i64 12)
                      have it3 := iter_set it1 (w.heap.size + 1) 0 (by omega) (.int .i64 12)
                      have b3 := b1.setCell (p := ⟨w.heap.size + 1, 0, none⟩) (by show w.heap.size ≤ w.heap.size + 1; omega) (.int .i64 12)
                      obtain ⟨c0, c1, c2, f0, f1, f2⟩ := a1
                      clear HG Hb r1 it1 b1 hd1
                      go_wp2
                      go_roundg (s.size - (pos + 1))
                      case measure => omega
                      case rel => exact ⟨pos + 1, S, 12, N, P, by omega, rfl, a3, r3, it3, b3, by omega, by rw [show (pos + 1 == 0) = false by simp]; exact HE.out⟩
                    · have HE : Hid (G = (0, 0, 0)) := by
                        have h := HG.out
                        rw [drop_at s pos hp, gl_bad _ _ _ _ _ _ _ (fun e => by simp [hp0] at e) (by rw [← Hb.out]; exact hdot) (by rw [← Hb.out]; exact hd)] at h
                        exact h
                      have r3 := r1.set 0 0 0
                      obtain ⟨x0, x1, x2, y0, y1, y2⟩ := r1
                      obtain ⟨z0, z1, z2, _, _, _⟩ := r3
                      obtain ⟨c0, c1, c2, f0, f1, f2⟩ := a1
                      clear HG Hb
                      by_cases h46 : b = 46
                      · have q1' : (((b : Nat) : Int) == 46) = true := by simp; omega
                        have qK : (K == 11) = false := by simp; omega
                        have q2 : decide (48 ≤ ((b : Nat) : Int)) = false := by simp; omega
                        go_wp2
                        try rw [Exit.noGoto_ret]
                        refine bodyPost_ret (v := .agg #[.int .i64 0, .int .i64 0, .int .i64 0]) (by simp [results, Tryz.results161, go_sem, z0, z1, z2]) rfl ⟨by rw [HE.out], ?_⟩
                        exact ((b1.setCell (Nat.le_refl _) _).setCell (Nat.le_refl _) _).setCell (Nat.le_refl _) _
                      · have q1' : (((b : Nat) : Int) == 46) = false := by simp; omega
                        by_cases h48 : 48 ≤ b
                        · have q2 : 48 ≤ ((b : Nat) : Int) := by omega
                          by_cases h57 : b ≤ 57
                          · have q3 : ((b : Nat) : Int) ≤ 57 := by omega
                            have q4 : decide (N ≤ 99999999) = false := by simp; omega
                            go_wp2
                            try rw [Exit.noGoto_ret]
                            refine bodyPost_ret (v := .agg #[.int .i64 0, .int .i64 0, .int .i64 0]) (by simp [results, Tryz.results161, go_sem, z0, z1, z2]) rfl ⟨by rw [HE.out], ?_⟩
                            exact ((b1.setCell (Nat.le_refl _) _).setCell (Nat.le_refl _) _).setCell (Nat.le_refl _) _
                          · have q3 : decide (((b : Nat) : Int) ≤ 57) = false := by simp; omega
                            go_wp2
                            try rw [Exit.noGoto_ret]
                            refine bodyPost_ret (v := .agg #[.int .i64 0, .int .i64 0, .int .i64 0]) (by simp [results, Tryz.results161, go_sem, z0, z1, z2]) rfl ⟨by rw [HE.out], ?_⟩
                            exact ((b1.setCell (Nat.le_refl _) _).setCell (Nat.le_refl _) _).setCell (Nat.le_refl _) _
                        · have q2 : decide (48 ≤ ((b : Nat) : Int)) = false := by simp; omega
                          go_wp2
                          try rw [Exit.noGoto_ret]
                          refine bodyPost_ret (v := .agg #[.int .i64 0, .int .i64 0, .int .i64 0]) (by simp [results, Tryz.results161, go_sem, z0, z1, z2]) rfl ⟨by rw [HE.out], ?_⟩
                          exact ((b1.setCell (Nat.le_refl _) _).setCell (Nat.le_refl _) _).setCell (Nat.le_refl _) _
          · have hnx : ∀ ty, (Instr.next (.pointer (some ⟨w.heap.size + 2, 0, none⟩)) true ty).run Tryz.prog wr = _ := fun ty => Lib.run_next_any_at wr (w.heap.size + 2) s pos ty hit hp
            have hbig := decode_big s pos hp ha8
            obtain ⟨r, Hr⟩ : ∃ r, Hid (r = (Utf8.decode s pos).1) := ⟨_, Eq.refl (Utf8.decode s pos).1⟩
            obtain ⟨np, Hnp⟩ : ∃ np, Hid (np = pos + (Utf8.decode s pos).2) := ⟨_, Eq.refl (pos + (Utf8.decode s pos).2)⟩
            rw [← Hr.out] at hbig
            rw [← Hr.out, ← Hnp.out] at hnx
            clear Hr Hnp
            have it1 := Lib.iterAt_heap wr (w.heap.size + 2) s pos (np) hit
            have b1 := Lib.below_iterAt hb (k := w.heap.size + 2) (by omega) s (np)
            have a1 : A3 (wr.iterAt (w.heap.size + 2) s (np)) (w.heap.size + 1) K N P := ha.iter _ (by omega) _ _
            have r1 : A3 (wr.iterAt (w.heap.size + 2) s (np)) w.heap.size 0 0 0 := hr.iter _ (by omega) _ _
            obtain ⟨W, HW⟩ : ∃ W, Hid (W = wr.iterAt (w.heap.size + 2) s (np)) := ⟨_, Eq.refl (wr.iterAt (w.heap.size + 2) s (np))⟩
            rw [← HW.out] at hnx it1 b1 a1 r1
            clear HW ha hr hit hb
            by_cases hp0 : pos = 0
            · have hp0' : ((pos : Int) == 0) = true := by simp [hp0]
              have h45' : ((r : Int) == 45) = false := by simp; omega
              go_upto_region 13 with fail
              have hld := fun ρ hρ o ho => load58 (hT.k.later b1) ρ hρ o ho
              obtain ⟨CS, HCS⟩ : ∃ CS, Hid (CS = bigK.toArray) := ⟨_, Eq.refl bigK.toArray⟩
              rw [← HCS.out] at hld
              refine wp_region_lit ?_
              refine Go.Great.wpList_readTo rfl (some 35) rfl (.agg CS) (hld _ rfl _ rfl) ?_
              clear hld
              go_wp2
              go_loopg [36] 14 (fun g i wi => ∃ n : Nat, n + g = 14 ∧ i = .int .i64 n ∧ A3 wi (w.heap.size + 1) K N P ∧ A3 wi w.heap.size 0 0 0 ∧ wi.heap[w.heap.size + 2]? = some (.stringIter s (np)) ∧ Below w.heap.size w wi)
              case atStart => exact ⟨0, rfl, rfl, a1, r1, it1, b1⟩
              case round =>
                clear a1 r1 it1 b1
                obtain ⟨n, hn, rfl, a1, r1, it1, b1⟩ := hrel
                by_cases hlt : n < 14
                · have hix := fun w => idx58 CS n hlt w
                  have hrow : CS.extract (n * 5) (n * 5 + 5) = #[.string (kL n), .int .i64 (kS n), .bool (kB n), .bool (kW n), .bool (kR n)] := by rw [HCS.out]; exact bigK_row n hlt
                  rw [hrow] at hix
                  clear hrow HCS
                  have hcmp := cmpBig n r hbig
                  go_wp2
                  go_roundg (gk - 1)
                  case measure => omega
                  case rel => exact ⟨n + 1, by omega, by go_num, a1.alloc _, r1.alloc _, iter_alloc it1, b1.alloc b1.size _⟩
                · obtain rfl : n = 14 := by omega
                  clear HCS
                  have HE : Hid (G = (0, 0, 0)) := by
                    have h := HG.out
                    rw [drop_at s pos hp, gl_bad _ _ _ _ _ _ _ (fun _ => ⟨by omega, ltr_big _ (by omega)⟩) (by omega) (by omega)] at h
                    exact h
                  have q1 : ((r : Nat) : Int) ≠ 46 := by omega
                  have q1' : (((r : Nat) : Int) == 46) = false := by simp; omega
                  have q2 : 48 ≤ ((r : Nat) : Int) := by omega
                  have q3 : decide (((r : Nat) : Int) ≤ 57) = false := by simp; omega
                  have r3 := r1.set 0 0 0
                  obtain ⟨x0, x1, x2, y0, y1, y2⟩ := r1
                  obtain ⟨z0, z1, z2, _, _, _⟩ := r3
                  obtain ⟨c0, c1, c2, f0, f1, f2⟩ := a1
                  clear HG
                  go_wp2
                  try rw [Exit.noGoto_ret]
                  refine bodyPost_ret (v := .agg #[.int .i64 0, .int .i64 0, .int .i64 0]) (by simp [results, Tryz.results161, go_sem, z0, z1, z2]) rfl ⟨by rw [HE.out], ?_⟩
                  exact ((b1.setCell (Nat.le_refl _) _).setCell (Nat.le_refl _) _).setCell (Nat.le_refl _) _
            · have hp0' : ((pos : Int) == 0) = false := by simp; omega
              go_upto_region 13 with fail
              have hld := fun ρ hρ o ho => load58 (hT.k.later b1) ρ hρ o ho
              obtain ⟨CS, HCS⟩ : ∃ CS, Hid (CS = bigK.toArray) := ⟨_, Eq.refl bigK.toArray⟩
              rw [← HCS.out] at hld
              refine wp_region_lit ?_
              refine Go.Great.wpList_readTo rfl (some 35) rfl (.agg CS) (hld _ rfl _ rfl) ?_
              clear hld
              go_wp2
              go_loopg [36] 14 (fun g i wi => ∃ n : Nat, n + g = 14 ∧ i = .int .i64 n ∧ A3 wi (w.heap.size + 1) K N P ∧ A3 wi w.heap.size 0 0 0 ∧ wi.heap[w.heap.size + 2]? = some (.stringIter s (np)) ∧ Below w.heap.size w wi)
              case atStart => exact ⟨0, rfl, rfl, a1, r1, it1, b1⟩
              case round =>
                clear a1 r1 it1 b1
                obtain ⟨n, hn, rfl, a1, r1, it1, b1⟩ := hrel
                by_cases hlt : n < 14
                · have hix := fun w => idx58 CS n hlt w
                  have hrow : CS.extract (n * 5) (n * 5 + 5) = #[.string (kL n), .int .i64 (kS n), .bool (kB n), .bool (kW n), .bool (kR n)] := by rw [HCS.out]; exact bigK_row n hlt
                  rw [hrow] at hix
                  clear hrow HCS
                  go_wp2
                  go_roundg (gk - 1)
                  case measure => omega
                  case rel => exact ⟨n + 1, by omega, by go_num, a1.alloc _, r1.alloc _, iter_alloc it1, b1.alloc b1.size _⟩
                · obtain rfl : n = 14 := by omega
                  clear HCS
                  have HE : Hid (G = (0, 0, 0)) := by
                    have h := HG.out
                    rw [drop_at s pos hp, gl_bad _ _ _ _ _ _ _ (fun _ => ⟨by omega, ltr_big _ (by omega)⟩) (by omega) (by omega)] at h
                    exact h
                  have q1 : ((r : Nat) : Int) ≠ 46 := by omega
                  have q1' : (((r : Nat) : Int) == 46) = false := by simp; omega
                  have q2 : 48 ≤ ((r : Nat) : Int) := by omega
                  have q3 : decide (((r : Nat) : Int) ≤ 57) = false := by simp; omega
                  have r3 := r1.set 0 0 0
                  obtain ⟨x0, x1, x2, y0, y1, y2⟩ := r1
                  obtain ⟨z0, z1, z2, _, _, _⟩ := r3
                  obtain ⟨c0, c1, c2, f0, f1, f2⟩ := a1
                  clear HG
                  go_wp2
                  try rw [Exit.noGoto_ret]
                  refine bodyPost_ret (v := .agg #[.int .i64 0, .int .i64 0, .int .i64 0]) (by simp [results, Tryz.results161, go_sem, z0, z1, z2]) rfl ⟨by rw [HE.out], ?_⟩
                  exact ((b1.setCell (Nat.le_refl _) _).setCell (Nat.le_refl _) _).setCell (Nat.le_refl _) _
        · have hnx : ∀ ty, (Instr.next (.pointer (some ⟨w.heap.size + 2, 0, none⟩)) true ty).run Tryz.prog wr = _ := fun ty => Lib.run_next_end_at wr (w.heap.size + 2) s pos ty hit hp
          have e0 : s.data.toList.drop pos = [] := List.drop_eq_nil_of_le (by simp; omega)
          rw [e0] at HG
          obtain ⟨hN0, hN1, hP0, hP1, hS⟩ := bd
          rcases hS with rfl | rfl
          · have HE : Hid (G = (K, N * 1, P)) := HG.out
            clear HG e0
            have a2 := ha.put1 N
            have r2 := hr.other (w.heap.size + 1) 1 (by omega) (.int .i64 N)
            have r3 := r2.set K N P
            obtain ⟨c0, c1, c2, f0, f1, f2⟩ := ha
            obtain ⟨d0, d1, d2, g0, g1, g2⟩ := a2
            obtain ⟨x0, x1, x2, y0, y1, y2⟩ := r2
            obtain ⟨z0, z1, z2, _, _, _⟩ := r3
            go_wp2
            try rw [Exit.noGoto_ret]
            refine bodyPost_ret (v := .agg #[.int .i64 K, .int .i64 N, .int .i64 P]) (by simp [results, Tryz.results161, go_sem, z0, z1, z2]) rfl ⟨?_, ?_⟩
            · rw [HE.out]; simp
            · exact (((hb.setCell (by show w.heap.size ≤ w.heap.size + 1; omega) _).setCell (Nat.le_refl _) _).setCell (Nat.le_refl _) _).setCell (Nat.le_refl _) _
          · have HE : Hid (G = (K, N * -1, P)) := HG.out
            clear HG e0
            have a2 := ha.put1 (-N)
            have r2 := hr.other (w.heap.size + 1) 1 (by omega) (.int .i64 (-N))
            have r3 := r2.set K (-N) P
            obtain ⟨c0, c1, c2, f0, f1, f2⟩ := ha
            obtain ⟨d0, d1, d2, g0, g1, g2⟩ := a2
            obtain ⟨x0, x1, x2, y0, y1, y2⟩ := r2
            obtain ⟨z0, z1, z2, _, _, _⟩ := r3
            go_wp2
            try rw [Exit.noGoto_ret]
            refine bodyPost_ret (v := .agg #[.int .i64 K, .int .i64 (-N), .int .i64 P]) (by simp [results, Tryz.results161, go_sem, z0, z1, z2]) rfl ⟨?_, ?_⟩
            · rw [HE.out]; simp
            · exact (((hb.setCell (by show w.heap.size ≤ w.heap.size + 1; omega) _).setCell (Nat.le_refl _) _).setCell (Nat.le_refl _) _).setCell (Nat.le_refl _) _
end Go.Proofs.YtndfmgbdfcggmaaGreatDoor
/- The program's devGuess at the words; the specification's l2Digits and l26Find. -/
namespace Go.Proofs.YtndfmgbdfcggmaaGreatDoor
open Go.RowKit
set_option linter.unusedVariables false

set_option maxRecDepth 100000 in
set_option maxHeartbeats 2000000 in
theorem guess_word0 (s : ByteArray) (w : World) (hT : Tabs w) (n0 : (s.toList == [110, 97, 110]) = true) :
    Calls Tryz.prog 161 #[.string s] w fun e w' => e = .returned (.agg #[.int .i64 13, .int .i64 0, .int .i64 0]) ∧ Below w.heap.size w w' := by
  have hl := hT.w.lt
  have q0 : ∀ o : Obj, (w.alloc o).cell? ⟨2, 0, none⟩ = some (.string ⟨#[110, 97, 110]⟩) := fun o => (World.cell?_alloc_past _ _ _ hl).trans (hT.w 0 (by omega))
  have q1 : ∀ o : Obj, (w.alloc o).cell? ⟨2, 1, none⟩ = some (.string ⟨#[105, 110, 102]⟩) := fun o => (World.cell?_alloc_past _ _ _ hl).trans (hT.w 1 (by omega))
  have q2 : ∀ o : Obj, (w.alloc o).cell? ⟨2, 2, none⟩ = some (.string ⟨#[45, 105, 110, 102]⟩) := fun o => (World.cell?_alloc_past _ _ _ hl).trans (hT.w 2 (by omega))
  have q3 : ∀ o : Obj, (w.alloc o).cell? ⟨2, 3, none⟩ = some (.string ⟨#[45, 48, 46, 48]⟩) := fun o => (World.cell?_alloc_past _ _ _ hl).trans (hT.w 3 (by omega))
  go_enter Tryz.func161, Tryz.ntmps161
  go_wp2
  go_step3
  go_wp2
  clear q0 q1 q2 q3
  go_loopg [12] 0 (fun g i wr => ∃ n : Nat, n + g = 0 ∧ i = .int .i64 n ∧ wr = w.alloc (.cells #[.int .i64 0, .int .i64 0, .int .i64 0] 76))
  case atStart => exact ⟨0, rfl, rfl, rfl⟩
  case round =>
    obtain ⟨n, hn, rfl, rfl⟩ := hrel
    have hc : n = 0 := by omega
    rcases hc with rfl
    · go_wp2
      try rw [Exit.noGoto_ret]
      refine bodyPost_ret (v := .agg #[.int .i64 13, .int .i64 0, .int .i64 0]) (by simp [results, Tryz.results161, go_sem]) rfl ⟨rfl, ?_⟩
      go_grown

set_option maxRecDepth 100000 in
set_option maxHeartbeats 2000000 in
theorem guess_word1 (s : ByteArray) (w : World) (hT : Tabs w) (n0 : (s.toList == [110, 97, 110]) = false) (n1 : (s.toList == [105, 110, 102]) = true) :
    Calls Tryz.prog 161 #[.string s] w fun e w' => e = .returned (.agg #[.int .i64 13, .int .i64 1, .int .i64 0]) ∧ Below w.heap.size w w' := by
  have hl := hT.w.lt
  have q0 : ∀ o : Obj, (w.alloc o).cell? ⟨2, 0, none⟩ = some (.string ⟨#[110, 97, 110]⟩) := fun o => (World.cell?_alloc_past _ _ _ hl).trans (hT.w 0 (by omega))
  have q1 : ∀ o : Obj, (w.alloc o).cell? ⟨2, 1, none⟩ = some (.string ⟨#[105, 110, 102]⟩) := fun o => (World.cell?_alloc_past _ _ _ hl).trans (hT.w 1 (by omega))
  have q2 : ∀ o : Obj, (w.alloc o).cell? ⟨2, 2, none⟩ = some (.string ⟨#[45, 105, 110, 102]⟩) := fun o => (World.cell?_alloc_past _ _ _ hl).trans (hT.w 2 (by omega))
  have q3 : ∀ o : Obj, (w.alloc o).cell? ⟨2, 3, none⟩ = some (.string ⟨#[45, 48, 46, 48]⟩) := fun o => (World.cell?_alloc_past _ _ _ hl).trans (hT.w 3 (by omega))
  go_enter Tryz.func161, Tryz.ntmps161
  go_wp2
  go_step3
  go_wp2
  clear q0 q1 q2 q3
  go_loopg [12] 1 (fun g i wr => ∃ n : Nat, n + g = 1 ∧ i = .int .i64 n ∧ wr = w.alloc (.cells #[.int .i64 0, .int .i64 0, .int .i64 0] 76))
  case atStart => exact ⟨0, rfl, rfl, rfl⟩
  case round =>
    obtain ⟨n, hn, rfl, rfl⟩ := hrel
    have hc : n = 0 ∨ n = 1 := by omega
    rcases hc with rfl | rfl
    · go_wp2
      go_roundg (gk - 1)
      case measure => omega
      case rel => exact ⟨1, by omega, rfl, rfl⟩
    · go_wp2
      try rw [Exit.noGoto_ret]
      refine bodyPost_ret (v := .agg #[.int .i64 13, .int .i64 1, .int .i64 0]) (by simp [results, Tryz.results161, go_sem]) rfl ⟨rfl, ?_⟩
      go_grown

set_option maxRecDepth 100000 in
set_option maxHeartbeats 2000000 in
theorem guess_word2 (s : ByteArray) (w : World) (hT : Tabs w) (n0 : (s.toList == [110, 97, 110]) = false) (n1 : (s.toList == [105, 110, 102]) = false) (n2 : (s.toList == [45, 105, 110, 102]) = true) :
    Calls Tryz.prog 161 #[.string s] w fun e w' => e = .returned (.agg #[.int .i64 13, .int .i64 2, .int .i64 0]) ∧ Below w.heap.size w w' := by
  have hl := hT.w.lt
  have q0 : ∀ o : Obj, (w.alloc o).cell? ⟨2, 0, none⟩ = some (.string ⟨#[110, 97, 110]⟩) := fun o => (World.cell?_alloc_past _ _ _ hl).trans (hT.w 0 (by omega))
  have q1 : ∀ o : Obj, (w.alloc o).cell? ⟨2, 1, none⟩ = some (.string ⟨#[105, 110, 102]⟩) := fun o => (World.cell?_alloc_past _ _ _ hl).trans (hT.w 1 (by omega))
  have q2 : ∀ o : Obj, (w.alloc o).cell? ⟨2, 2, none⟩ = some (.string ⟨#[45, 105, 110, 102]⟩) := fun o => (World.cell?_alloc_past _ _ _ hl).trans (hT.w 2 (by omega))
  have q3 : ∀ o : Obj, (w.alloc o).cell? ⟨2, 3, none⟩ = some (.string ⟨#[45, 48, 46, 48]⟩) := fun o => (World.cell?_alloc_past _ _ _ hl).trans (hT.w 3 (by omega))
  go_enter Tryz.func161, Tryz.ntmps161
  go_wp2
  go_step3
  go_wp2
  clear q0 q1 q2 q3
  go_loopg [12] 2 (fun g i wr => ∃ n : Nat, n + g = 2 ∧ i = .int .i64 n ∧ wr = w.alloc (.cells #[.int .i64 0, .int .i64 0, .int .i64 0] 76))
  case atStart => exact ⟨0, rfl, rfl, rfl⟩
  case round =>
    obtain ⟨n, hn, rfl, rfl⟩ := hrel
    have hc : n = 0 ∨ n = 1 ∨ n = 2 := by omega
    rcases hc with rfl | rfl | rfl
    · go_wp2
      go_roundg (gk - 1)
      case measure => omega
      case rel => exact ⟨1, by omega, rfl, rfl⟩
    · go_wp2
      go_roundg (gk - 1)
      case measure => omega
      case rel => exact ⟨2, by omega, rfl, rfl⟩
    · go_wp2
      try rw [Exit.noGoto_ret]
      refine bodyPost_ret (v := .agg #[.int .i64 13, .int .i64 2, .int .i64 0]) (by simp [results, Tryz.results161, go_sem]) rfl ⟨rfl, ?_⟩
      go_grown

set_option maxRecDepth 100000 in
set_option maxHeartbeats 2000000 in
theorem guess_word3 (s : ByteArray) (w : World) (hT : Tabs w) (n0 : (s.toList == [110, 97, 110]) = false) (n1 : (s.toList == [105, 110, 102]) = false) (n2 : (s.toList == [45, 105, 110, 102]) = false) (n3 : (s.toList == [45, 48, 46, 48]) = true) :
    Calls Tryz.prog 161 #[.string s] w fun e w' => e = .returned (.agg #[.int .i64 13, .int .i64 3, .int .i64 0]) ∧ Below w.heap.size w w' := by
  have hl := hT.w.lt
  have q0 : ∀ o : Obj, (w.alloc o).cell? ⟨2, 0, none⟩ = some (.string ⟨#[110, 97, 110]⟩) := fun o => (World.cell?_alloc_past _ _ _ hl).trans (hT.w 0 (by omega))
  have q1 : ∀ o : Obj, (w.alloc o).cell? ⟨2, 1, none⟩ = some (.string ⟨#[105, 110, 102]⟩) := fun o => (World.cell?_alloc_past _ _ _ hl).trans (hT.w 1 (by omega))
  have q2 : ∀ o : Obj, (w.alloc o).cell? ⟨2, 2, none⟩ = some (.string ⟨#[45, 105, 110, 102]⟩) := fun o => (World.cell?_alloc_past _ _ _ hl).trans (hT.w 2 (by omega))
  have q3 : ∀ o : Obj, (w.alloc o).cell? ⟨2, 3, none⟩ = some (.string ⟨#[45, 48, 46, 48]⟩) := fun o => (World.cell?_alloc_past _ _ _ hl).trans (hT.w 3 (by omega))
  go_enter Tryz.func161, Tryz.ntmps161
  go_wp2
  go_step3
  go_wp2
  clear q0 q1 q2 q3
  go_loopg [12] 3 (fun g i wr => ∃ n : Nat, n + g = 3 ∧ i = .int .i64 n ∧ wr = w.alloc (.cells #[.int .i64 0, .int .i64 0, .int .i64 0] 76))
  case atStart => exact ⟨0, rfl, rfl, rfl⟩
  case round =>
    obtain ⟨n, hn, rfl, rfl⟩ := hrel
    have hc : n = 0 ∨ n = 1 ∨ n = 2 ∨ n = 3 := by omega
    rcases hc with rfl | rfl | rfl | rfl
    · go_wp2
      go_roundg (gk - 1)
      case measure => omega
      case rel => exact ⟨1, by omega, rfl, rfl⟩
    · go_wp2
      go_roundg (gk - 1)
      case measure => omega
      case rel => exact ⟨2, by omega, rfl, rfl⟩
    · go_wp2
      go_roundg (gk - 1)
      case measure => omega
      case rel => exact ⟨3, by omega, rfl, rfl⟩
    · go_wp2
      try rw [Exit.noGoto_ret]
      refine bodyPost_ret (v := .agg #[.int .i64 13, .int .i64 3, .int .i64 0]) (by simp [results, Tryz.results161, go_sem]) rfl ⟨rfl, ?_⟩
      go_grown

theorem guess_word (i : Nat) (hi : i < 4) (w : World) (hT : Tabs w) :
    Calls Tryz.prog 161 #[.string (wd i)] w fun e w' => e = .returned (.agg #[.int .i64 13, .int .i64 i, .int .i64 0]) ∧ Below w.heap.size w w' := by
  rcases c4 i hi with rfl | rfl | rfl | rfl
  · exact guess_word0 _ w hT (by decide +kernel)
  · exact guess_word1 _ w hT (by decide +kernel) (by decide +kernel)
  · exact guess_word2 _ w hT (by decide +kernel) (by decide +kernel) (by decide +kernel)
  · exact guess_word3 _ w hT (by decide +kernel) (by decide +kernel) (by decide +kernel) (by decide +kernel)

/-- What the program guesses. -/
def gI (s : ByteArray) : Int × Int × Int := gl true 1 11 0 0 s.data.toList
theorem guess_any (s : ByteArray) (w : World) (hT : Tabs w) (hsz : s.size ≤ 1048576) (h : ∀ i : Nat, i < 4 → s ≠ wd i) :
    Calls Tryz.prog 161 #[.string s] w fun e w' => e = .returned (.agg #[.int .i64 (gI s).1, .int .i64 (gI s).2.1, .int .i64 (gI s).2.2]) ∧ Below w.heap.size w w' := by
  have hf : ∀ (i : Nat) (l : List UInt8), i < 4 → (wd i).toList = l → (s.toList == l) = false := by
    intro i l hi hl
    rw [Bool.eq_false_iff]
    intro e
    have e1 := eq_of_beq e
    rw [← hl, Lib.toList_data, Lib.toList_data] at e1
    apply h i hi
    have := ba_list e1
    rw [this, Lib.mk_data]
  exact guess_rest s w hT hsz (hf 0 _ (by omega) (by decide +kernel)) (hf 1 _ (by omega) (by decide +kernel)) (hf 2 _ (by omega) (by decide +kernel)) (hf 3 _ (by omega) (by decide +kernel))

set_option maxHeartbeats 2000000 in
theorem impl_read_no (s : ByteArray) (K N P : Int) (w : World) (hT : Tabs w) (hne : s.toList ≠ [])
    (HG : Hid (∀ W, Tabs W → Calls Tryz.prog 161 #[.string s] W fun e w' => e = .returned (.agg #[.int .i64 K, .int .i64 N, .int .i64 P]) ∧ Below W.heap.size W w')) (hx : ((txt K N P).toList == s.toList) = false) :
    Calls Tryz.prog 145 #[.string s] w fun e w' => e = .returned (.tuple #[.agg #[.int .i64 0, .int .i64 0, .int .i64 0], .bool false]) ∧ Below w.heap.size w w' := by
  have HX : Hid (∀ W, Tabs W → Calls Tryz.prog 67 #[.agg #[.int .i64 K, .int .i64 N, .int .i64 P]] W fun e w' => e = .returned (.string (txt K N P)) ∧ Below W.heap.size W w') := fun W h => impl_text K N P W h
  obtain ⟨X, HXX⟩ : ∃ X, Hid (X = txt K N P) := ⟨_, Eq.refl (txt K N P)⟩
  rw [← HXX.out] at HX hx
  clear HXX
  have he : (s.toList == []) = false := by cases h : s.toList with | nil => exact absurd h hne | cons a b => rfl
  go_enter Tryz.func145, Tryz.ntmps145
  go_wp2_with fail
  refine (HG.out _ (hT.alloc _)).mono ?_
  rintro e w1 ⟨rfl, g1⟩
  have r1 : A3 w1 w.heap.size 0 0 0 := (A3.fresh w 0 0 0 76).later g1
  have b1 : Below w.heap.size w w1 := ((Below.refl _ _).alloc (Nat.le_refl _) _).trans (g1.mono (by simp))
  clear g1 HG
  go_wp2_with fail
  refine (HX.out _ ((hT.later b1).alloc _)).mono ?_
  rintro e w2 ⟨rfl, g2⟩
  have r2 : A3 w2 w.heap.size 0 0 0 := (r1.alloc _).later g2
  have b2 : Below w.heap.size w w2 := (b1.alloc b1.size _).trans (g2.mono (by simp; have := b1.size; omega))
  clear g2 HX r1 b1
  have r3 := r2.set 0 0 0
  obtain ⟨x0, x1, x2, y0, y1, y2⟩ := r2
  obtain ⟨z0, z1, z2, _, _, _⟩ := r3
  go_wp2
  refine bodyPost_ret (v := .tuple #[.agg #[.int .i64 0, .int .i64 0, .int .i64 0], .bool false]) (by simp [results, Tryz.results145, go_sem, z0, z1, z2]) rfl ⟨rfl, ?_⟩
  exact ((b2.setCell (Nat.le_refl _) _).setCell (Nat.le_refl _) _).setCell (Nat.le_refl _) _

set_option maxHeartbeats 2000000 in
theorem impl_read_yes (s : ByteArray) (K N P : Int) (w : World) (hT : Tabs w) (hne : s.toList ≠ [])
    (HG : Hid (∀ W, Tabs W → Calls Tryz.prog 161 #[.string s] W fun e w' => e = .returned (.agg #[.int .i64 K, .int .i64 N, .int .i64 P]) ∧ Below W.heap.size W w')) (hx : ((txt K N P).toList == s.toList) = true) :
    Calls Tryz.prog 145 #[.string s] w fun e w' => e = .returned (.tuple #[.agg #[.int .i64 K, .int .i64 N, .int .i64 P], .bool true]) ∧ Below w.heap.size w w' := by
  have HX : Hid (∀ W, Tabs W → Calls Tryz.prog 67 #[.agg #[.int .i64 K, .int .i64 N, .int .i64 P]] W fun e w' => e = .returned (.string (txt K N P)) ∧ Below W.heap.size W w') := fun W h => impl_text K N P W h
  obtain ⟨X, HXX⟩ : ∃ X, Hid (X = txt K N P) := ⟨_, Eq.refl (txt K N P)⟩
  rw [← HXX.out] at HX hx
  clear HXX
  have he : (s.toList == []) = false := by cases h : s.toList with | nil => exact absurd h hne | cons a b => rfl
  go_enter Tryz.func145, Tryz.ntmps145
  go_wp2_with fail
  refine (HG.out _ (hT.alloc _)).mono ?_
  rintro e w1 ⟨rfl, g1⟩
  have r1 : A3 w1 w.heap.size 0 0 0 := (A3.fresh w 0 0 0 76).later g1
  have b1 : Below w.heap.size w w1 := ((Below.refl _ _).alloc (Nat.le_refl _) _).trans (g1.mono (by simp))
  have n1 : w.heap.size < w1.heap.size := r1.lt
  clear g1 HG
  go_wp2_with fail
  refine (HX.out _ ((hT.later b1).alloc _)).mono ?_
  rintro e w2 ⟨rfl, g2⟩
  have r2 : A3 w2 w.heap.size 0 0 0 := (r1.alloc _).later g2
  have a2 : A3 w2 w1.heap.size K N P := (A3.fresh w1 K N P 76).later g2
  have b2 : Below w.heap.size w w2 := (b1.alloc b1.size _).trans (g2.mono (by simp; have := b1.size; omega))
  clear g2 HX r1 b1
  have r3 := r2.set K N P
  obtain ⟨x0, x1, x2, y0, y1, y2⟩ := r2
  obtain ⟨c0, c1, c2, f0, f1, f2⟩ := a2
  obtain ⟨z0, z1, z2, _, _, _⟩ := r3
  go_wp2
  refine bodyPost_ret (v := .tuple #[.agg #[.int .i64 K, .int .i64 N, .int .i64 P], .bool true]) (by simp [results, Tryz.results145, go_sem, z0, z1, z2]) rfl ⟨rfl, ?_⟩
  exact ((b2.setCell (Nat.le_refl _) _).setCell (Nat.le_refl _) _).setCell (Nat.le_refl _) _

set_option maxHeartbeats 2000000 in
theorem impl_read_empty (s : ByteArray) (K N P : Int) (w : World) (hT : Tabs w) (he : (s.toList == []) = true)
    (HG : Hid (∀ W, Tabs W → Calls Tryz.prog 161 #[.string s] W fun e w' => e = .returned (.agg #[.int .i64 K, .int .i64 N, .int .i64 P]) ∧ Below W.heap.size W w')) :
    Calls Tryz.prog 145 #[.string s] w fun e w' => e = .returned (.tuple #[.agg #[.int .i64 0, .int .i64 0, .int .i64 0], .bool false]) ∧ Below w.heap.size w w' := by
  go_enter Tryz.func145, Tryz.ntmps145
  go_wp2_with fail
  refine (HG.out _ (hT.alloc _)).mono ?_
  rintro e w1 ⟨rfl, g1⟩
  have r1 : A3 w1 w.heap.size 0 0 0 := (A3.fresh w 0 0 0 76).later g1
  have b1 : Below w.heap.size w w1 := ((Below.refl _ _).alloc (Nat.le_refl _) _).trans (g1.mono (by simp))
  clear g1 HG
  have r2 := r1.alloc (.cells #[.int .i64 K, .int .i64 N, .int .i64 P] 76)
  have b2 := b1.alloc b1.size (.cells #[.int .i64 K, .int .i64 N, .int .i64 P] 76)
  have r3 := r2.set 0 0 0
  obtain ⟨x0, x1, x2, y0, y1, y2⟩ := r2
  obtain ⟨z0, z1, z2, _, _, _⟩ := r3
  go_wp2
  refine bodyPost_ret (v := .tuple #[.agg #[.int .i64 0, .int .i64 0, .int .i64 0], .bool false]) (by simp [results, Tryz.results145, go_sem, z0, z1, z2]) rfl ⟨rfl, ?_⟩
  exact ((b2.setCell (Nat.le_refl _) _).setCell (Nat.le_refl _) _).setCell (Nat.le_refl _) _
end Go.Proofs.YtndfmgbdfcggmaaGreatDoor
/- The specification's l2Digits and l26Find. -/
namespace Go.Proofs.YtndfmgbdfcggmaaGreatDoor
open Go.RowKit
set_option linter.unusedVariables false

end Go.Proofs.YtndfmgbdfcggmaaGreatDoor
/- The walk of the specification's l2Guess. -/
namespace Go.Proofs.YtndfmgbdfcggmaaGreatDoor
open Go.RowKit
set_option linter.unusedVariables false

end Go.Proofs.YtndfmgbdfcggmaaGreatDoor
/- The walk of the specification's l2Guess: numbers. -/
namespace Go.Proofs.YtndfmgbdfcggmaaGreatDoor
open Go.RowKit
set_option linter.unusedVariables false

end Go.Proofs.YtndfmgbdfcggmaaGreatDoor
/- Reading back what is written: digits and numbers, as mathematics. -/
namespace Go.Proofs.YtndfmgbdfcggmaaGreatDoor
open Go.RowKit
open Go.Lib (decDigits itoa)
set_option linter.unusedVariables false

def isD (b : UInt8) : Prop := 48 ≤ b.toNat ∧ b.toNat ≤ 57
def valD : List UInt8 → Int → Int
  | [], A => A
  | b :: r, A => valD r (A * 10 + ((b.toNat : Int) - 48))

theorem valD_append (a b : List UInt8) (A : Int) : valD (a ++ b) A = valD b (valD a A) := by
  induction a generalizing A with
  | nil => rfl
  | cons x a ih => exact ih _
theorem valD_ge (l : List UInt8) (A : Int) (hA : 0 ≤ A) (h : ∀ b ∈ l, isD b) : A ≤ valD l A := by
  induction l generalizing A with
  | nil => exact Int.le_refl _
  | cons x l ih =>
    have hx := h x (by simp)
    have := ih (A * 10 + ((x.toNat : Int) - 48)) (by have := hx.1; omega) (fun b hb => h b (by simp [hb]))
    have h1 := hx.1
    simp only [valD]
    omega
theorem dig_toNat (d : Nat) (h : d < 10) : (UInt8.ofNat (48 + d)).toNat = 48 + d := by simp; omega
theorem dec_isD (u : Nat) : ∀ b ∈ decDigits u, isD b := by
  induction u using Nat.strongRecOn with
  | _ u ih =>
    intro b hb
    by_cases h : u < 10
    · rw [Lib.decDigits_one h] at hb
      rw [List.mem_singleton.1 hb]
      have := dig_toNat u h
      unfold isD
      omega
    · rw [decDigits_step u (by omega)] at hb
      rcases List.mem_append.1 hb with hb | hb
      · exact ih (u / 10) (by omega) b hb
      · rw [List.mem_singleton.1 hb]
        have := dig_toNat (u % 10) (by omega)
        unfold isD
        omega
theorem dec_val (u : Nat) : valD (decDigits u) 0 = u := by
  induction u using Nat.strongRecOn with
  | _ u ih =>
    by_cases h : u < 10
    · rw [Lib.decDigits_one h]
      have := dig_toNat u h
      simp only [valD]
      omega
    · rw [decDigits_step u (by omega), valD_append, ih (u / 10) (by omega)]
      have := dig_toNat (u % 10) (by omega)
      simp only [valD]
      omega
theorem dec_len9 (u : Nat) (hu : u ≤ 999999999) : (decDigits u).length ≤ 9 := by
  have h := Lib.decDigits_length u
  rw [h]
  by_cases h0 : Lib.nDigits u ≤ 9
  · exact h0
  · exfalso
    have key : ∀ k u, k < Lib.nDigits u → 1 ≤ k → 10 ^ k ≤ u := by
      intro k
      induction k with
      | zero => intro u _ h; omega
      | succ k ih =>
        intro u hk _
        by_cases hu : u < 10
        · rw [Lib.nDigits_small hu] at hk; omega
        · rw [Lib.nDigits_big hu] at hk
          by_cases hk0 : k = 0
          · subst hk0; simp; omega
          · have := ih (u / 10) (by omega) (by omega)
            rw [Nat.pow_succ]
            omega
    have := key 9 u (by omega) (by omega)
    have e : (10 : Nat) ^ 9 = 1000000000 := by decide
    omega

theorem zeros_val (j : Nat) (l : List UInt8) : valD (List.replicate j 48 ++ l) 0 = valD l 0 := by
  induction j with
  | zero => rfl
  | succ j ih =>
    rw [List.replicate_succ, List.cons_append, valD]
    exact ih
theorem pad_val (u p : Nat) : valD (pad u p) 0 = u := by rw [pad, zeros_val, dec_val]
theorem pad_isD (u p : Nat) : ∀ b ∈ pad u p, isD b := by
  intro b hb
  rcases List.mem_append.1 hb with hb | hb
  · have := (List.mem_replicate.1 hb).2
    subst this
    exact ⟨by decide, by decide⟩
  · exact dec_isD u b hb
theorem pad_len9 (u p : Nat) (hu : u ≤ 999999999) (hp : p ≤ 6) : (pad u p).length ≤ 16 := by
  have := dec_len9 u hu
  have := pad_len u p
  omega

/-- The two parts of a decimal number. -/
theorem cutp_parts (u p : Nat) : ∃ A B : List UInt8, cutp u p = A ++ 46 :: B ∧ A ++ B = pad u p ∧ B.length = p ∧ 1 ≤ A.length := by
  have h := pad_len u p
  refine ⟨(pad u p).take ((pad u p).length - p), (pad u p).drop ((pad u p).length - p), ?_, List.take_append_drop _ _, ?_, ?_⟩
  · simp [cutp]
  · rw [List.length_drop]; omega
  · rw [List.length_take]; omega

theorem gl_val (l r : List UInt8) (f : Bool) (S K N P : Int) (hN : 0 ≤ N) (h : ∀ b ∈ l, isD b) (hv : valD l N ≤ 999999999) :
    gl f S K N P (l ++ r) = gl (f && l.isEmpty) S K (valD l N) (if K = 12 then P + l.length else P) r := by
  induction l generalizing f N P with
  | nil => simp [valD]
  | cons b l ih =>
    have hb := h b (by simp)
    have hge := valD_ge l (N * 10 + ((b.toNat : Int) - 48)) (by have := hb.1; omega) (fun x hx => h x (by simp [hx]))
    have hb1 := hb.1
    simp only [valD] at hv
    rw [List.cons_append, gl_dig f S K N P b (l ++ r) hb.1 hb.2 (by omega), ih false _ _ (by omega) (fun x hx => h x (by simp [hx])) hv]
    simp only [valD, List.isEmpty_cons, Bool.and_false, Bool.false_and, List.length_cons]
    congr 1
    split
    · omega
    · rfl

theorem gl_cut (u p : Nat) (f : Bool) (S : Int) (hu : u ≤ 999999999) : gl f S 11 0 0 (cutp u p) = (12, (u : Int) * S, (p : Int)) := by
  obtain ⟨A, B, h1, h2, h3, h4⟩ := cutp_parts u p
  have hd := pad_isD u p
  rw [← h2] at hd
  have hv := pad_val u p
  rw [← h2, valD_append] at hv
  have hA : ∀ b ∈ A, isD b := fun b hb => hd b (by simp [hb])
  have hB : ∀ b ∈ B, isD b := fun b hb => hd b (by simp [hb])
  have g0 := valD_ge A 0 (by omega) hA
  have g1 := valD_ge B (valD A 0) g0 hB
  rw [h1, gl_val A (46 :: B) f S 11 0 0 (by omega) hA (by omega), if_neg (by decide), gl_dot _ _ _ _ _ _ (by decide)]
  have := gl_val B [] false S 12 (valD A 0) 0 g0 hB (by omega)
  rw [List.append_nil] at this
  rw [this, if_pos rfl, hv, h3]
  simp [gl]

theorem gl_int (u : Nat) (f : Bool) (S K : Int) (hu : u ≤ 999999999) (hK : K ≠ 12) : gl f S K 0 0 (decDigits u) = (K, (u : Int) * S, 0) := by
  have hv := dec_val u
  have := gl_val (decDigits u) [] f S K 0 0 (by omega) (dec_isD u) (by omega)
  rw [List.append_nil] at this
  rw [this, if_neg hK, hv]
  simp [gl]
end Go.Proofs.YtndfmgbdfcggmaaGreatDoor
/- Reading: what both guesses give at the text of an operand, and at any other text. -/
namespace Go.Proofs.YtndfmgbdfcggmaaGreatDoor
open Go.RowKit
open Go.Lib (decDigits itoa)
set_option linter.unusedVariables false

theorem tx_data (l : List UInt8) : (tx l).data.toList = l := by simp [tx]
theorem tx_toList (l : List UInt8) : (tx l).toList = l := by rw [Lib.toList_data, tx_data]
theorem tx_inj {a b : List UInt8} (h : tx a = tx b) : a = b := by rw [← tx_data a, h, tx_data]
def wl (i : Nat) : List UInt8 := if i = 0 then [110, 97, 110] else if i = 1 then [105, 110, 102] else if i = 2 then [45, 105, 110, 102] else [45, 48, 46, 48]
theorem wd_tx (i : Nat) (hi : i < 4) : wd i = tx (wl i) := by
  rcases c4 i hi with rfl | rfl | rfl | rfl <;> rfl

/-- A text is none of the words. -/
def NW (s : ByteArray) : Prop := ∀ i : Nat, i < 4 → s ≠ wd i
theorem nw1 (b : UInt8) (r : List UInt8) (h1 : b.toNat ≠ 110) (h2 : b.toNat ≠ 105) (h3 : b.toNat ≠ 45) : NW (tx (b :: r)) := by
  intro i hi e
  rw [wd_tx i hi] at e
  have e1 := tx_inj e
  rcases c4 i hi with rfl | rfl | rfl | rfl
  all_goals
    have e2 := (List.cons.inj e1).1
    subst e2
    first | exact h1 rfl | exact h2 rfl | exact h3 rfl
theorem nw2 (b : UInt8) (r : List UInt8) (h1 : isD b) (h2 : b :: r ≠ [48, 46, 48]) : NW (tx (45 :: b :: r)) := by
  intro i hi e
  rw [wd_tx i hi] at e
  have e1 := tx_inj e
  rcases c4 i hi with rfl | rfl | rfl | rfl
  · exact absurd (List.cons.inj e1).1 (by decide)
  · exact absurd (List.cons.inj e1).1 (by decide)
  · have e2 := (List.cons.inj (List.cons.inj e1).2).1
    subst e2
    exact absurd h1.2 (by decide)
  · exact h2 (List.cons.inj e1).2

theorem dec_cons (u : Nat) : ∃ b r, decDigits u = b :: r ∧ isD b := by
  have h := Lib.nDigits_pos u
  rw [← Lib.decDigits_length] at h
  cases hd : decDigits u with
  | nil => rw [hd] at h; simp at h
  | cons b r => exact ⟨b, r, rfl, dec_isD u b (by rw [hd]; simp)⟩
theorem cut_cons (u p : Nat) : ∃ b r, cutp u p = b :: r ∧ isD b := by
  obtain ⟨A, B, h1, h2, h3, h4⟩ := cutp_parts u p
  cases A with
  | nil => simp at h4
  | cons a A => exact ⟨a, A ++ 46 :: B, h1, pad_isD u p a (by rw [← h2]; simp)⟩
theorem isD_ne {b : UInt8} (h : isD b) : b.toNat ≠ 110 ∧ b.toNat ≠ 105 ∧ b.toNat ≠ 45 ∧ b.toNat ≠ 46 ∧ ltr b.toNat = 0 := by
  have h1 := h.1
  have h2 := h.2
  exact ⟨by omega, by omega, by omega, by omega, ltr_dig _ h1 h2⟩

/-- The letter of a kind of device. -/
def lc (k : Nat) : UInt8 := if k = 1 then 88 else if k = 2 then 89 else if k = 3 then 77 else if k = 4 then 83 else if k = 5 then 69 else if k = 6 then 71 else if k = 7 then 84 else if k = 8 then 67 else if k = 9 then 68 else 82
theorem c10 (k : Nat) (h1 : 1 ≤ k) (h2 : k ≤ 10) : k = 1 ∨ k = 2 ∨ k = 3 ∨ k = 4 ∨ k = 5 ∨ k = 6 ∨ k = 7 ∨ k = 8 ∨ k = 9 ∨ k = 10 := by omega
theorem kL_tx (k : Nat) (h1 : 1 ≤ k) (h2 : k ≤ 10) : kL k = tx [lc k] := by
  rcases c10 k h1 h2 with rfl | rfl | rfl | rfl | rfl | rfl | rfl | rfl | rfl | rfl <;> rfl
theorem lc_ltr (k : Nat) (h1 : 1 ≤ k) (h2 : k ≤ 10) : ltr (lc k).toNat = k ∧ (lc k).toNat ≠ 110 ∧ (lc k).toNat ≠ 105 ∧ (lc k).toNat ≠ 45 := by
  rcases c10 k h1 h2 with rfl | rfl | rfl | rfl | rfl | rfl | rfl | rfl | rfl | rfl <;> decide

/-- The shapes of the texts of operands that are ok. -/
inductive Shape : Int → Int → Int → ByteArray → Prop
  | word (i : Nat) (h : i < 4) : Shape 13 i 0 (wd i)
  | dev (k u : Nat) (h1 : 1 ≤ k) (h2 : k ≤ 10) (h3 : u ≤ 999999999) : Shape k u 0 (tx (lc k :: decDigits u))
  | pos (u : Nat) (h : u ≤ 999999999) : Shape 11 u 0 (tx (decDigits u))
  | neg (u : Nat) (h0 : 1 ≤ u) (h : u ≤ 999999999) : Shape 11 (-(u : Int)) 0 (tx (45 :: decDigits u))
  | dpos (u p : Nat) (h : u ≤ 999999999) (hp : p ≤ 6) : Shape 12 u p (tx (cutp u p))
  | dneg (u p : Nat) (h0 : 1 ≤ u) (h : u ≤ 999999999) (hp : p ≤ 6) : Shape 12 (-(u : Int)) p (tx (45 :: cutp u p))

theorem shape_of {k n p : Int} (h : okA k n p = true) : Shape k n p (txt k n p) := by
  unfold txt
  rw [if_pos h]
  by_cases k2 : k = 12
  · subst k2
    rw [if_pos rfl]
    have bd := okD_bd (by rw [← okA_dec]; exact h)
    obtain ⟨P, rfl⟩ := Int.eq_ofNat_of_zero_le (by omega : 0 ≤ p)
    have eP : (P : Int).toNat = P := by omega
    by_cases hn : 0 ≤ n
    · obtain ⟨u, rfl⟩ := Int.eq_ofNat_of_zero_le hn
      have e : decL (u : Int) (P : Int).toNat = cutp u P := by unfold decL; rw [if_neg (by omega), eP]; rfl
      rw [e]
      exact .dpos u P (by omega) (by omega)
    · obtain ⟨u, hu⟩ := Int.eq_ofNat_of_zero_le (by omega : 0 ≤ -n)
      obtain rfl : n = -(u : Int) := by omega
      have e : decL (-(u : Int)) (P : Int).toNat = 45 :: cutp u P := by unfold decL; rw [if_pos (by omega), eP]; simp
      rw [e]
      exact .dneg u P (by omega) (by omega) (by omega)
  rw [if_neg k2]
  have bd := ok_bd h k2
  obtain ⟨b1, b2, rfl⟩ := bd
  by_cases k3 : k = 13
  · subst k3
    rw [if_pos rfl]
    have bw := ok_word h
    obtain ⟨i, rfl⟩ := Int.eq_ofNat_of_zero_le bw.1
    exact .word i (by omega)
  rw [if_neg k3]
  by_cases k1 : k = 11
  · subst k1
    rw [kL11]
    by_cases hn : 0 ≤ n
    · obtain ⟨u, rfl⟩ := Int.eq_ofNat_of_zero_le hn
      rw [Lib.itoa_nonneg]
      exact .pos u (by omega)
    · obtain ⟨u, hu⟩ := Int.eq_ofNat_of_zero_le (by omega : 0 ≤ -n)
      obtain rfl : n = -(u : Int) := by omega
      rw [Lib.itoa_neg u (by omega)]
      exact .neg u (by omega) (by omega)
  · have hc := ok_cases h
    obtain ⟨K, rfl⟩ := Int.eq_ofNat_of_zero_le (by omega : 0 ≤ k)
    have e : okA K n 0 = decide (0 ≤ n ∧ n < kS K ∧ (0 : Int) = 0) := by
      unfold okA
      rw [if_neg k2, if_neg k1, if_neg k3]
    rw [e] at h
    simp at h
    obtain ⟨u, rfl⟩ := Int.eq_ofNat_of_zero_le h.1
    rw [Lib.itoa_nonneg, kL_tx K (by omega) (by omega), tx_append]
    exact .dev K u (by omega) (by omega) (by omega)

theorem Shape.ne {k n p : Int} {s : ByteArray} (h : Shape k n p s) : s.toList ≠ [] := by
  cases h with
  | word i h => rw [wd_tx i h, tx_toList]; rcases c4 i h with rfl | rfl | rfl | rfl <;> decide
  | dev k u h1 h2 h3 => rw [tx_toList]; simp
  | pos u h => obtain ⟨b, r, e, _⟩ := dec_cons u; rw [tx_toList, e]; simp
  | neg u h0 h => rw [tx_toList]; simp
  | dpos u p h hp => obtain ⟨b, r, e, _⟩ := cut_cons u p; rw [tx_toList, e]; simp
  | dneg u p h0 h hp => rw [tx_toList]; simp
theorem Shape.size {k n p : Int} {s : ByteArray} (h : Shape k n p s) : s.size ≤ 1048576 := by
  have hc : ∀ u p, u ≤ 999999999 → p ≤ 6 → (cutp u p).length ≤ 40 := fun u p h1 h2 => cutp_len u p (by omega) h2
  cases h with
  | word i h => rw [wd_tx i h, tx_size]; rcases c4 i h with rfl | rfl | rfl | rfl <;> decide
  | dev k u h1 h2 h3 => have := dec_len9 u h3; rw [tx_size]; simp; omega
  | pos u h => have := dec_len9 u h; rw [tx_size]; omega
  | neg u h0 h => have := dec_len9 u h; rw [tx_size]; simp; omega
  | dpos u p h hp => have := hc u p h hp; rw [tx_size]; omega
  | dneg u p h0 h hp => have := hc u p h hp; rw [tx_size]; simp; omega

theorem cut_ne (u p : Nat) (h0 : 1 ≤ u) (h : u ≤ 999999999) : cutp u p ≠ [48, 46, 48] := by
  intro e
  have h1 := gl_cut u p false 1 h
  rw [e] at h1
  have h2 : gl false 1 11 0 0 [48, 46, 48] = (12, 0, 1) := by decide +kernel
  rw [h2] at h1
  have := congrArg (fun x => x.2.1) h1
  simp at this
  omega
theorem Shape.nw {k n p : Int} {s : ByteArray} (h : Shape k n p s) (hk : k ≠ 13) : NW s := by
  cases h with
  | word i h => exact absurd rfl hk
  | dev k u h1 h2 h3 => have := lc_ltr k h1 h2; exact nw1 _ _ this.2.1 this.2.2.1 this.2.2.2
  | pos u h => obtain ⟨b, r, e, hb⟩ := dec_cons u; rw [e]; have := isD_ne hb; exact nw1 _ _ this.1 this.2.1 this.2.2.1
  | neg u h0 h =>
    obtain ⟨b, r, e, hb⟩ := dec_cons u
    rw [e]
    refine nw2 b r hb ?_
    intro e2
    rw [← e] at e2
    have := dec_isD u 46 (by rw [e2]; simp)
    exact absurd this.1 (by decide)
  | dpos u p h hp => obtain ⟨b, r, e, hb⟩ := cut_cons u p; rw [e]; have := isD_ne hb; exact nw1 _ _ this.1 this.2.1 this.2.2.1
  | dneg u p h0 h hp =>
    obtain ⟨b, r, e, hb⟩ := cut_cons u p
    have := cut_ne u p h0 h
    rw [e] at this ⊢
    exact nw2 b r hb this

theorem Shape.gI {k n p : Int} {s : ByteArray} (h : Shape k n p s) (hk : k ≠ 13) : gI s = (k, n, p) := by
  unfold YtndfmgbdfcggmaaGreatDoor.gI
  cases h with
  | word i h => exact absurd rfl hk
  | dev k u h1 h2 h3 =>
    have hl := lc_ltr k h1 h2
    rw [tx_data, gl_ltr _ _ _ _ _ _ hl.2.2.2 (by rw [hl.1]; omega), hl.1, gl_int u false 1 k h3 (by omega)]
    simp
  | pos u h => rw [tx_data, gl_int u true 1 11 h (by decide)]; simp
  | neg u h0 h => rw [tx_data, gl_minus _ _ _ _ _ _ (by decide), gl_int u false (-1) 11 h (by decide)]; simp
  | dpos u p h hp => rw [tx_data, gl_cut u p true 1 h]; simp
  | dneg u p h0 h hp => rw [tx_data, gl_minus _ _ _ _ _ _ (by decide), gl_cut u p false (-1) h]; simp

theorem impl_guess_ok {k n p : Int} {s : ByteArray} (h : Shape k n p s) (w : World) (hT : Tabs w) :
    Calls Tryz.prog 161 #[.string s] w fun e w' => e = .returned (.agg #[.int .i64 k, .int .i64 n, .int .i64 p]) ∧ Below w.heap.size w w' := by
  by_cases hk : k = 13
  · cases h with
    | word i h => exact guess_word i h w hT
    | dev k u h1 h2 h3 => omega
    | pos u h => omega
    | neg u h0 h => omega
    | dpos u p h hp => omega
    | dneg u p h0 h hp => omega
  · have h1 := guess_any s w hT h.size (h.nw hk)
    rw [h.gI hk] at h1
    exact h1

theorem impl_guess_some (s : ByteArray) (hs : s.size ≤ 1048576) : ∃ G : Int × Int × Int, ∀ w, Tabs w → Calls Tryz.prog 161 #[.string s] w fun e w' => e = .returned (.agg #[.int .i64 G.1, .int .i64 G.2.1, .int .i64 G.2.2]) ∧ Below w.heap.size w w' := by
  by_cases h : NW s
  · exact ⟨gI s, fun w hT => guess_any s w hT hs h⟩
  · obtain ⟨i, hi, e⟩ : ∃ i : Nat, i < 4 ∧ s = wd i := Classical.byContradiction fun hn => h fun i hi e => hn ⟨i, hi, e⟩
    subst e
    exact ⟨(13, i, 0), fun w hT => guess_word i hi w hT⟩
end Go.Proofs.YtndfmgbdfcggmaaGreatDoor
/- Reading: the specification's guess; DevRead of both; the law FnExactDevRead. -/
namespace Go.Proofs.YtndfmgbdfcggmaaGreatDoor
open Go.RowKit
open Go.Lib (decDigits itoa)
set_option linter.unusedVariables false

theorem word_cmp (j : Nat) (hj : j < 4) : ∀ i : Nat, i < 4 → ((wd j).toList == (wd i).toList) = decide (i = j) := by
  intro i hi
  rcases c4 i hi with rfl | rfl | rfl | rfl <;> rcases c4 j hj with rfl | rfl | rfl | rfl <;> decide +kernel
theorem cmp_self (s : ByteArray) : (s.toList == s.toList) = true := beq_self_eq_true _
theorem cmp_ne {a b : ByteArray} (h : a ≠ b) : (a.toList == b.toList) = false := by
  rw [Bool.eq_false_iff]
  intro e
  have e1 := eq_of_beq e
  rw [Lib.toList_data, Lib.toList_data] at e1
  have := ba_list e1
  exact h (by rw [this, Lib.mk_data])

/-- Nobody's text. -/
def NT (s : ByteArray) : Prop := ∀ k n p : Int, okA k n p = true → txt k n p ≠ s
theorem nt_ne {s : ByteArray} (h : NT s) (hne : s.toList ≠ []) (k n p : Int) : ((txt k n p).toList == s.toList) = false := by
  apply cmp_ne
  by_cases ho : okA k n p = true
  · exact h k n p ho
  · intro e
    apply hne
    rw [← e]
    unfold txt
    rw [if_neg ho, Lib.toList_data]

theorem impl_dev_yes {k n p : Int} (ho : okA k n p = true) (w : World) (hT : Tabs w) :
    Calls Tryz.prog 145 #[.string (txt k n p)] w fun e w' => e = .returned (.tuple #[.agg #[.int .i64 k, .int .i64 n, .int .i64 p], .bool true]) ∧ Below w.heap.size w w' :=
  impl_read_yes _ k n p w hT (shape_of ho).ne (fun W hW => impl_guess_ok (shape_of ho) W hW) (cmp_self _)
theorem impl_dev_no {s : ByteArray} (h : NT s) (hs : s.size ≤ 1048576) (w : World) (hT : Tabs w) :
    Calls Tryz.prog 145 #[.string s] w fun e w' => e = .returned (.tuple #[.agg #[.int .i64 0, .int .i64 0, .int .i64 0], .bool false]) ∧ Below w.heap.size w w' := by
  obtain ⟨G, hG⟩ := impl_guess_some s hs
  by_cases hne : s.toList = []
  · exact impl_read_empty s G.1 G.2.1 G.2.2 w hT (by rw [hne]; rfl) hG
  · exact impl_read_no s G.1 G.2.1 G.2.2 w hT hne hG (nt_ne h hne _ _ _)
end Go.Proofs.YtndfmgbdfcggmaaGreatDoor
