/- An element in new memory: the program's normElem. -/
import Derived.Test.YtcmmiamnbefefaaDoorCf
import Derived.Deep.AppendLies
namespace Go.Proofs.YtcmmiamnbefefaaDoor
open Go.RowKit
set_option linter.unusedVariables false

theorem own_base {w : World} {base base' size n : Nat} {e : TypeId} {v : Value} {xs : List Value} (h : w.ownsRow base e size v n xs) (hb : base' ≤ base) : w.ownsRow base' e size v n xs := by
  refine ⟨h.1, ?_⟩
  rcases h.2 with h | ⟨g, cap, cur, e1, e2, e3⟩
  · exact .inl h
  · exact .inr ⟨g, cap, cur, e1, by omega, e3⟩
theorem two_below' {w : World} (o1 o2 : Obj) : Below w.heap.size w ((w.alloc o1).alloc o2) := ((Below.refl _ _).alloc (Nat.le_refl _) _).alloc (by simp) _
theorem two_free {X : World} {B : Nat} {T : TypeId} {a b : Value} {w3 : World} {W : World} (g3 : Below W.heap.size W w3) (kA : X.heap[B]? = some (.cells #[a, b] T (0, 0))) (hX : W.heap = X.heap := by rfl) :
    w3.heap[B]? = some (.cells #[a, b] T (0, 0)) ∧ w3.cell? ⟨B, 0, none⟩ = some a ∧ w3.cell? ⟨B, 1, none⟩ = some b ∧ w3.frozen? ⟨B, 0, none⟩ = false ∧ w3.frozen? ⟨B, 1, none⟩ = false := by
  have k3 : w3.heap[B]? = some (.cells #[a, b] T (0, 0)) := by
    have h0 : W.heap[B]? = some (.cells #[a, b] T (0, 0)) := by rw [hX]; exact kA
    exact (g3.block _ (Array.getElem?_eq_some_iff.1 h0).1).trans h0
  exact ⟨k3, (cell_of_row _ _ _ _ _ _ k3).trans rfl, (cell_of_row _ _ _ _ _ _ k3).trans rfl, by simp [World.frozen?, k3], by simp [World.frozen?, k3]⟩
set_option maxHeartbeats 1000000 in
theorem same_i (k n p : Int) (w : World) : Calls Tryd.prog 50 #[.agg #[.int .i64 k, .int .i64 n, .int .i64 p]] w fun e w' => e = .returned (.agg #[.int .i64 k, .int .i64 n, .int .i64 p]) ∧ Below w.heap.size w w' := by
  go_enter Tryd.func50, Tryd.ntmps50
  go_wp2
  exact bodyPost_ret (v := .agg #[.int .i64 k, .int .i64 n, .int .i64 p]) (by simp [results, Tryd.results50, go_sem]) rfl ⟨rfl, ((Below.refl _ _).alloc (Nat.le_refl _) _).alloc (by simp) _⟩

set_option maxRecDepth 10000 in
set_option maxHeartbeats 2000000 in
theorem take_i (base fb : Nat) (a : Option Addr) (m cp : Nat) (xs : List ArgT) (k n p : Int) (hm : m = xs.length) (hm1 : m ≤ 1048576) (w : World) (hf : w.cell? ⟨fb, 0, none⟩ = some (.func (.func 50) #[] #[])) (hb : base ≤ w.heap.size) (hO : w.ownsRow base 88 3 (.slice a m cp) m (avs xs)) :
    Calls Tryd.prog 77 #[.slice a m cp, .agg #[.int .i64 k, .int .i64 n, .int .i64 p], .pointer (some ⟨fb, 0, none⟩)] w fun e w' => ∃ g1 cap1, e = .returned (.slice (some ⟨g1, 0, none⟩) (m + 1) cap1) ∧ w'.ownsRow base 88 3 (.slice (some ⟨g1, 0, none⟩) (m + 1) cap1) (m + 1) (avs (xs ++ [(k, n, p)])) ∧ w.grownBy w' (Value.slice a m cp).ownBlock := by
  have hinfo : (Tryd.prog.info? 88).map (fun i => (i.zero, i.size, i.bytes)) = some (some (.agg #[.int .i64 0, .int .i64 0, .int .i64 0]), 3, 24) := by kernel_rfl
  obtain ⟨ti, hi, hzz⟩ := Option.map_eq_some_iff.1 hinfo
  simp only [Prod.mk.injEq] at hzz
  obtain ⟨hz0, hz1, hz2⟩ := hzz
  have HI : Hid (Tryd.prog.info? 88 = some ti ∧ ti.zero = some (.agg #[.int .i64 0, .int .i64 0, .int .i64 0]) ∧ ti.size = 3 ∧ ti.bytes = 24) := ⟨hi, hz0, hz1, hz2⟩
  clear hi hz0 hz1 hz2 hinfo
  have hfb := World.block_lt_of_cell? _ _ hf
  simp only at hfb
  have HO : Hid (w.ownsRow base 88 3 (.slice a m cp) m (avs xs)) := hO
  have HAv : Hid (avs (xs ++ [(k, n, p)]) = avs xs ++ [.int .i64 k, .int .i64 n, .int .i64 p]) := avs_snoc xs (k, n, p)
  clear hO hm
  go_enter Tryd.func77, Tryd.ntmps77
  go_wp2_with fail
  refine (same_i k n p _).mono ?_
  rintro e w1 ⟨rfl, g1⟩
  have G1 : Below w.heap.size w w1 := ((Below.refl _ _).alloc (Nat.le_refl _) _).trans (g1.mono (by simp))
  have own3 : (w1.alloc (.cells #[.int .i64 k, .int .i64 n, .int .i64 p] 88)).ownsRow base 88 3 (.slice a m cp) m (avs xs) := World.ownsRow.alloc (ownl HO.out G1) _
  have news3 : ∀ (q : Nat) (v : Value), ([.int .i64 k, .int .i64 n, .int .i64 p] : List Value)[q]? = some v → (w1.alloc (.cells #[.int .i64 k, .int .i64 n, .int .i64 p] 88)).cell? ((⟨w1.heap.size, 0, none⟩ : Addr).add q) = some v := by
    intro q v hq
    match q with
    | 0 => simp at hq; subst hq; simp [Addr.add]
    | 1 => simp at hq; subst hq; simp [Addr.add]
    | 2 => simp at hq; subst hq; simp [Addr.add]
    | (j + 3) => simp at hq
  have hsz : w.heap.size ≤ w1.heap.size := G1.size
  have HG1 : Hid (Below w.heap.size w w1) := G1
  clear g1 G1
  go_wp2_with (at_builtin; refine wpList_append_lies _ rfl _ _ 46 rfl base 88 ti (.agg #[.int .i64 0, .int .i64 0, .int .i64 0]) 3 24 Tryd.underlying46 HI.out.1 HI.out.2.1 HI.out.2.2.1 HI.out.2.2.2 rfl (by decide) _ m (avs xs) rfl own3 ⟨w1.heap.size, 0, none⟩ 1 1 [.int .i64 k, .int .i64 n, .int .i64 p] rfl rfl news3 ?c2 (by omega) ?c3 ?c4 ?c5 _ rfl ?_)
  case c2 => intro v hu; simp at hu; rcases hu with rfl | rfl | rfl <;> rfl
  case c3 => unfold maxLen; omega
  case c4 => omega
  case c5 => simp; omega
  intro g1 cap1 w5 own4 g4 hat hlt4
  have HF : Hid (w5.ownsRow base 88 3 (.slice (some ⟨g1, 0, none⟩) (m + 1) cap1) (m + 1) (avs (xs ++ [(k, n, p)])) ∧ w.grownBy w5 (Value.slice a m cp).ownBlock) := ⟨by rw [HAv.out]; exact own4, ((gbb HG1.out).trans (World.grownBy_alloc _ _ _)).trans g4⟩
  clear own3 news3 own4 g4 hat hlt4
  go_wp2
  go_ret
  exact ⟨g1, cap1, rfl, HF.out.1, HF.out.2⟩

set_option maxRecDepth 10000 in
set_option maxHeartbeats 4000000 in
theorem fold_i (fb lo : Nat) (v : Value) (xs : List ArgT) (w : World) (hv : ArgsIs w lo v xs) (hbig : xs.length ≤ 1048576) (hf : w.cell? ⟨fb, 0, none⟩ = some (.func (.func 50) #[] #[])) :
    Calls Tryd.prog 76 #[v, .slice none 0 0, .func (.func 77) #[] #[.pointer (some ⟨fb, 0, none⟩)]] w fun e w' => ∃ a cp, e = .returned (.slice a xs.length cp) ∧ w'.ownsRow w.heap.size 88 3 (.slice a xs.length cp) xs.length (avs xs) ∧ Below w.heap.size w w' := by
  obtain ⟨a, cap, rfl, hl, hx⟩ := hv
  have HX : Hid (∀ j x, xs[j]? = some x → ∃ b o cs, a = some ⟨b, o, none⟩ ∧ lo ≤ b ∧ cs.length = 3 ∧ w.rangeAt b (o + j * 3) cs ∧ ArgIs x cs) := hx
  have HFn : Hid (w.cell? ⟨fb, 0, none⟩ = some (.func (.func 50) #[] #[]) ∧ fb < w.heap.size) := ⟨hf, World.block_lt_of_cell? _ _ hf⟩
  obtain ⟨len, HL⟩ : ∃ len, Hid (len = xs.length) := ⟨_, rfl⟩
  rw [← HL.out] at hl hbig ⊢
  clear hx hf
  go_enter Tryd.func76, Tryd.ntmps76
  go_wp2
  go_loopg [1, 11] len (fun gg into i wr => ∃ (n cp : Nat) (ia : Option Addr), n + gg = len ∧ i = .int .i64 n ∧ into = .slice ia n cp ∧ Hid (wr.ownsRow w.heap.size 88 3 (.slice ia n cp) n (avs (xs.take n)) ∧ Below w.heap.size w wr))
  case atStart => exact ⟨0, 0, none, by omega, rfl, rfl, by simpa [avs] using World.ownsRow_nil w w.heap.size 88 3, Below.refl _ _⟩
  case round =>
    obtain ⟨n, cp, ia, hn, rfl, rfl, HS⟩ := hrel
    by_cases hlt : n < len
    · have i1 : (n : Int) < (len : Int) := by omega
      have i3 : (0 : Int) ≤ (n : Int) := by omega
      obtain ⟨x, hxn⟩ : ∃ x, xs[n]? = some x := ⟨_, List.getElem?_eq_getElem (by have := HL.out; omega)⟩
      obtain ⟨b, o, cs, rfl, hlo, hcs, hrg, hR⟩ := HX.out n x hxn
      obtain rfl : cs = _ := hR
      have hb := HS.out.2
      have HLd : Hid ((loadVar 88 ⟨b, o + n * 3, none⟩).run Tryd.prog wr = .ok (.agg #[.int .i64 x.1, .int .i64 x.2.1, .int .i64 x.2.2]) wr) := run_loadVar_mid wr b (o + n * 3) 88 [.int .i64 x.1, .int .i64 x.2.1, .int .i64 x.2.2] _ (fun i c hi => (Keeps.of_below hb 0) _ _ _ (Nat.zero_le _) (hrg i c hi)) Tryd.underlying88 rfl (by kernel_rfl)
      obtain ⟨k, Hk⟩ : ∃ q, Hid (q = x.1) := ⟨_, rfl⟩
      obtain ⟨p, Hp⟩ : ∃ q, Hid (q = x.2.1) := ⟨_, rfl⟩
      obtain ⟨q, Hq⟩ : ∃ q, Hid (q = x.2.2) := ⟨_, rfl⟩
      rw [← Hk.out, ← Hp.out, ← Hq.out] at HLd
      have HTk : Hid (xs.take (n + 1) = xs.take n ++ [(k, p, q)]) := by
        show xs.take (n + 1) = xs.take n ++ [(k, p, q)]
        rw [Hk.out, Hp.out, Hq.out, List.take_add_one, hxn]
        rfl
      have gA : Below wr.heap.size wr (wr.alloc (.cells #[.int .i64 k, .int .i64 p, .int .i64 q] 88)) := (Below.refl _ _).alloc (Nat.le_refl _) _
      have hlt2 : (xs.take n).length = n := by rw [List.length_take]; have := HL.out; omega
      have HCl : Hid (Calls Tryd.prog 77 #[.slice ia n cp, .agg #[.int .i64 k, .int .i64 p, .int .i64 q], .pointer (some ⟨fb, 0, none⟩)] (wr.alloc (.cells #[.int .i64 k, .int .i64 p, .int .i64 q] 88)) fun e w' => ∃ g1 cap1, e = .returned (.slice (some ⟨g1, 0, none⟩) (n + 1) cap1) ∧ w'.ownsRow w.heap.size 88 3 (.slice (some ⟨g1, 0, none⟩) (n + 1) cap1) (n + 1) (avs (xs.take n ++ [(k, p, q)])) ∧ (wr.alloc (.cells #[.int .i64 k, .int .i64 p, .int .i64 q] 88)).grownBy w' (Value.slice ia n cp).ownBlock) :=
        take_i w.heap.size fb ia n cp (xs.take n) k p q hlt2.symm (by omega) _ ((Keeps.of_below gA 0) _ _ _ (Nat.zero_le _) ((Keeps.of_below hb 0) _ _ _ (Nat.zero_le _) HFn.out.1)) (by simp; have := hb.size; omega) (ownl HS.out.1 gA)
      have HLA : Hid ((loadVar 88 ⟨wr.heap.size, 0, none⟩).run Tryd.prog (wr.alloc (.cells #[.int .i64 k, .int .i64 p, .int .i64 q] 88)) = .ok (.agg #[.int .i64 k, .int .i64 p, .int .i64 q]) (wr.alloc (.cells #[.int .i64 k, .int .i64 p, .int .i64 q] 88))) := load_all (heap_alloc_last wr _) _ _ Tryd.underlying88 rfl (by kernel_rfl)
      have HBA : Hid (Below w.heap.size w (wr.alloc (.cells #[.int .i64 k, .int .i64 p, .int .i64 q] 88)) ∧ ∀ j, (Value.slice ia n cp).ownBlock = some j → w.heap.size ≤ j) := ⟨hb.alloc hb.size _, fun j hj => (HS.out.1.lt j hj).1⟩
      clear hb hrg hcs hlo gA hlt2 HS
      go_wp2_with (first | (refine wpL_load rfl 88 _ rfl _ _ rfl _ HLd.out ?_) | (refine wpL_load rfl 88 _ rfl _ _ rfl _ HLA.out ?_) | fail)
      refine HCl.out.mono ?_
      rintro e w5 ⟨g1, cap1, rfl, o5, g5⟩
      have HFF : Hid (w5.ownsRow w.heap.size 88 3 (.slice (some ⟨g1, 0, none⟩) (n + 1) cap1) (n + 1) (avs (xs.take (n + 1))) ∧ Below w.heap.size w w5) := ⟨by rw [HTk.out]; exact o5, HBA.out.1.grown g5 HBA.out.1.size HBA.out.2⟩
      clear o5 g5 HCl HLA HLd HBA
      go_wp2
      go_roundg (gk - 1)
      case measure => omega
      case rel => exact ⟨n + 1, cap1, some ⟨g1, 0, none⟩, by omega, by simp, rfl, HFF⟩
    · have i1 : ¬ ((n : Int) < (len : Int)) := by omega
      have hnl : n = len := by omega
      subst hnl
      have HF : Hid (wr.ownsRow w.heap.size 88 3 (.slice ia n cp) n (avs xs) ∧ Below w.heap.size w wr) := ⟨by have := HS.out.1; rwa [List.take_of_length_le (by have := HL.out; omega)] at this, HS.out.2⟩
      clear HS
      go_wp2
      go_ret
      exact ⟨ia, cp, rfl, HF.out.1, HF.out.2⟩

set_option maxRecDepth 10000 in
set_option maxHeartbeats 2000000 in
theorem each_i (lo : Nat) (v : Value) (xs : List ArgT) (w : World) (hv : ArgsIs w lo v xs) (hbig : xs.length ≤ 1048576) :
    Calls Tryd.prog 51 #[v, .func (.func 50) #[] #[]] w fun e w' => ∃ a cp, e = .returned (.slice a xs.length cp) ∧ w'.ownsRow w.heap.size 88 3 (.slice a xs.length cp) xs.length (avs xs) ∧ Below w.heap.size w w' := by
  have hmf : ∀ (fn : Fn) (first cap : Array Value) (w : World), (Instr.makeFunc fn first cap).run Tryd.prog w = .ok (.func fn first cap) w := fun _ _ _ _ => rfl
  have gA : ∀ o, Below w.heap.size w (w.alloc o) := fun o => (Below.refl _ _).alloc (Nat.le_refl _) _
  have HFo : Hid (∀ W fb, Below w.heap.size w W → W.cell? ⟨fb, 0, none⟩ = some (.func (.func 50) #[] #[]) → Calls Tryd.prog 76 #[v, .slice none 0 0, .func (.func 77) #[] #[.pointer (some ⟨fb, 0, none⟩)]] W fun e w' => ∃ a cp, e = .returned (.slice a xs.length cp) ∧ w'.ownsRow W.heap.size 88 3 (.slice a xs.length cp) xs.length (avs xs) ∧ Below W.heap.size W w') := fun W fb g hf => fold_i fb lo v xs W (argsIs_move (Keeps.of_below g lo) (Nat.le_refl _) hv) hbig hf
  obtain ⟨len, HL⟩ : ∃ l, Hid (l = xs.length) := ⟨_, rfl⟩
  rw [← HL.out] at HFo ⊢
  clear hv hbig
  go_enter Tryd.func51, Tryd.ntmps51
  go_wp2_with fail
  refine (HFo.out _ w.heap.size (gA _) (by simp)).mono ?_
  rintro e w1 ⟨a, cp, rfl, o1, g1⟩
  have HF : Hid (w1.ownsRow w.heap.size 88 3 (.slice a len cp) len (avs xs) ∧ Below w.heap.size w w1) := ⟨own_base o1 (by simp), (gA _).trans (g1.mono (by simp))⟩
  clear o1 g1
  go_wp2
  go_ret
  exact ⟨a, cp, rfl, HF.out.1, HF.out.2⟩

set_option maxRecDepth 10000 in
set_option maxHeartbeats 4000000 in
theorem nelem_i (op : Int) (ua : Option Addr) (ul uc lo : Nat) (xs : List ArgT) (hul : ul = xs.length) (w : World) (hv : ArgsIs w lo (.slice ua ul uc) xs) (hbig : xs.length ≤ 1048576) :
    Calls Tryd.prog 32 #[.agg #[.int .i64 op, .slice ua ul uc]] w fun e w' => ∃ (a : Option Addr) (cp : Nat), e = .returned (.agg #[.int .i64 op, .slice a ul cp]) ∧ ArgsOwn w' w.heap.size (Value.slice a ul cp).ownBlock.toList (.slice a ul cp) xs ∧ Below w.heap.size w w' := by
  have HEa : Hid (∀ W, Below w.heap.size w W → Calls Tryd.prog 51 #[.slice ua ul uc, .func (.func 50) #[] #[]] W fun e w' => ∃ a cp, e = .returned (.slice a ul cp) ∧ w'.ownsRow W.heap.size 88 3 (.slice a ul cp) ul (avs xs) ∧ Below W.heap.size W w') := fun W g => by
    rw [hul] at hv ⊢
    exact each_i lo _ xs W (argsIs_move (Keeps.of_below g lo) (Nat.le_refl _) hv) hbig
  have HA : Hid (∀ W a cp, W.ownsRow w.heap.size 88 3 (.slice a ul cp) ul (avs xs) → ArgsOwn W w.heap.size (Value.slice a ul cp).ownBlock.toList (.slice a ul cp) xs) := fun W a cp h => args_of (by rw [← hul]; exact h)
  have b0 : Below w.heap.size w ((w.alloc (.cells #[.int .i64 op, .slice ua ul uc] 48)).alloc (.cells #[.int .i64 0, .slice none 0 0] 48)) := two_below' _ _
  obtain ⟨r1, r2⟩ := rows2 w (.cells #[.int .i64 op, .slice ua ul uc] 48) (.cells #[.int .i64 0, .slice none 0 0] 48)
  have hz : ((w.alloc (.cells #[.int .i64 op, .slice ua ul uc] 48)).alloc (.cells #[.int .i64 0, .slice none 0 0] 48)).heap.size = w.heap.size + 1 + 1 := by simp
  clear hv hbig hul
  go_enter Tryd.func32, Tryd.ntmps32
  go_wp2
  generalize ((w.alloc (.cells #[.int .i64 op, .slice ua ul uc] 48)).alloc (.cells #[.int .i64 0, .slice none 0 0] 48)) = W0 at b0 r1 r2 hz ⊢
  have c0 : W0.cell? ⟨w.heap.size, 0, none⟩ = some (.int .i64 op) := (cell_of_row _ _ _ _ _ _ r1).trans rfl
  have c1 : W0.cell? ⟨w.heap.size, 1, none⟩ = some (.slice ua ul uc) := (cell_of_row _ _ _ _ _ _ r1).trans rfl
  go_region_with (first | (go_at_call 51; refine (HEa.out _ (by first | exact b0 | exact b0.drew)).mono ?_; rintro e w9 ⟨a9, cp9, rfl, o9, g9⟩; obtain ⟨kr, d0, d1, f0, f1⟩ := two_free g9 r2; obtain ⟨_, e0, e1, _, _⟩ := two_free g9 r1))
  · have hz9 : w.heap.size + 1 < W0.drew.heap.size := by show w.heap.size + 1 < W0.heap.size; omega
    have HR : Hid (((w9.setCell ⟨w.heap.size + 1, 0, none⟩ (.int .i64 op)).setCell ⟨w.heap.size + 1, 1, none⟩ (.slice a9 ul cp9)).heap[w.heap.size + 1]? = some (.cells #[.int .i64 op, .slice a9 ul cp9] 48 (0, 0))) := row_put (row_put kr 0 _) 1 _
    have HF : Hid (ArgsOwn ((w9.setCell ⟨w.heap.size + 1, 0, none⟩ (.int .i64 op)).setCell ⟨w.heap.size + 1, 1, none⟩ (.slice a9 ul cp9)) w.heap.size (Value.slice a9 ul cp9).ownBlock.toList (.slice a9 ul cp9) xs ∧ Below w.heap.size w ((w9.setCell ⟨w.heap.size + 1, 0, none⟩ (.int .i64 op)).setCell ⟨w.heap.size + 1, 1, none⟩ (.slice a9 ul cp9))) := by
      refine ⟨HA.out _ _ _ (own_base (ownsRow_setCell_below (a := ⟨w.heap.size + 1, 1, none⟩) (ownsRow_setCell_below (a := ⟨w.heap.size + 1, 0, none⟩) o9 hz9 _) hz9 _) (by omega)), ?_⟩
      exact ((b0.drew.trans (g9.mono b0.drew.size)).setCell (p := ⟨w.heap.size + 1, 0, none⟩) (Nat.le_succ _) _).setCell (p := ⟨w.heap.size + 1, 1, none⟩) (Nat.le_succ _) _
    obtain ⟨WF, HWF⟩ : ∃ W, Hid (W = (w9.setCell ⟨w.heap.size + 1, 0, none⟩ (.int .i64 op)).setCell ⟨w.heap.size + 1, 1, none⟩ (.slice a9 ul cp9)) := ⟨_, rfl⟩
    rw [← HWF.out] at HR HF ⊢
    clear HWF kr d0 d1 f0 f1 e0 e1 o9 g9 c0 c1 r1 r2 b0
    go_wp2_with (first | (refine ret_row rfl rfl HR.out Tryd.underlying48 rfl (by kernel_rfl) rfl ?_) | fail)
    exact ⟨a9, cp9, rfl, HF.out.1, HF.out.2⟩
  · have hz9 : w.heap.size + 1 < W0.drew.heap.size := by show w.heap.size + 1 < W0.heap.size; omega
    have HR : Hid (((w9.setCell ⟨w.heap.size + 1, 0, none⟩ (.int .i64 op)).setCell ⟨w.heap.size + 1, 1, none⟩ (.slice a9 ul cp9)).heap[w.heap.size + 1]? = some (.cells #[.int .i64 op, .slice a9 ul cp9] 48 (0, 0))) := row_put (row_put kr 0 _) 1 _
    have HF : Hid (ArgsOwn ((w9.setCell ⟨w.heap.size + 1, 0, none⟩ (.int .i64 op)).setCell ⟨w.heap.size + 1, 1, none⟩ (.slice a9 ul cp9)) w.heap.size (Value.slice a9 ul cp9).ownBlock.toList (.slice a9 ul cp9) xs ∧ Below w.heap.size w ((w9.setCell ⟨w.heap.size + 1, 0, none⟩ (.int .i64 op)).setCell ⟨w.heap.size + 1, 1, none⟩ (.slice a9 ul cp9))) := by
      refine ⟨HA.out _ _ _ (own_base (ownsRow_setCell_below (a := ⟨w.heap.size + 1, 1, none⟩) (ownsRow_setCell_below (a := ⟨w.heap.size + 1, 0, none⟩) o9 hz9 _) hz9 _) (by omega)), ?_⟩
      exact ((b0.drew.trans (g9.mono b0.drew.size)).setCell (p := ⟨w.heap.size + 1, 0, none⟩) (Nat.le_succ _) _).setCell (p := ⟨w.heap.size + 1, 1, none⟩) (Nat.le_succ _) _
    obtain ⟨WF, HWF⟩ : ∃ W, Hid (W = (w9.setCell ⟨w.heap.size + 1, 0, none⟩ (.int .i64 op)).setCell ⟨w.heap.size + 1, 1, none⟩ (.slice a9 ul cp9)) := ⟨_, rfl⟩
    rw [← HWF.out] at HR HF ⊢
    clear HWF kr d0 d1 f0 f1 e0 e1 o9 g9 c0 c1 r1 r2 b0
    go_wp2_with (first | (refine ret_row rfl rfl HR.out Tryd.underlying48 rfl (by kernel_rfl) rfl ?_) | fail)
    exact ⟨a9, cp9, rfl, HF.out.1, HF.out.2⟩
  · have hz9 : w.heap.size + 1 < W0.drew.heap.size := by show w.heap.size + 1 < W0.heap.size; omega
    have HR : Hid (((w9.setCell ⟨w.heap.size + 1, 0, none⟩ (.int .i64 op)).setCell ⟨w.heap.size + 1, 1, none⟩ (.slice a9 ul cp9)).heap[w.heap.size + 1]? = some (.cells #[.int .i64 op, .slice a9 ul cp9] 48 (0, 0))) := row_put (row_put kr 0 _) 1 _
    have HF : Hid (ArgsOwn ((w9.setCell ⟨w.heap.size + 1, 0, none⟩ (.int .i64 op)).setCell ⟨w.heap.size + 1, 1, none⟩ (.slice a9 ul cp9)) w.heap.size (Value.slice a9 ul cp9).ownBlock.toList (.slice a9 ul cp9) xs ∧ Below w.heap.size w ((w9.setCell ⟨w.heap.size + 1, 0, none⟩ (.int .i64 op)).setCell ⟨w.heap.size + 1, 1, none⟩ (.slice a9 ul cp9))) := by
      refine ⟨HA.out _ _ _ (own_base (ownsRow_setCell_below (a := ⟨w.heap.size + 1, 1, none⟩) (ownsRow_setCell_below (a := ⟨w.heap.size + 1, 0, none⟩) o9 hz9 _) hz9 _) (by omega)), ?_⟩
      exact ((b0.drew.trans (g9.mono b0.drew.size)).setCell (p := ⟨w.heap.size + 1, 0, none⟩) (Nat.le_succ _) _).setCell (p := ⟨w.heap.size + 1, 1, none⟩) (Nat.le_succ _) _
    obtain ⟨WF, HWF⟩ : ∃ W, Hid (W = (w9.setCell ⟨w.heap.size + 1, 0, none⟩ (.int .i64 op)).setCell ⟨w.heap.size + 1, 1, none⟩ (.slice a9 ul cp9)) := ⟨_, rfl⟩
    rw [← HWF.out] at HR HF ⊢
    clear HWF kr d0 d1 f0 f1 e0 e1 o9 g9 c0 c1 r1 r2 b0
    go_wp2_with (first | (refine ret_row rfl rfl HR.out Tryd.underlying48 rfl (by kernel_rfl) rfl ?_) | fail)
    exact ⟨a9, cp9, rfl, HF.out.1, HF.out.2⟩
end Go.Proofs.YtcmmiamnbefefaaDoor
