/- The law FnExactTextPrint. -/
import Derived.Test.YtgopfaegdlefpaaGreatDoorVk
import Derived.Test.YtgopfaegdlefpaaGreatDoorUj
import Derived.Test.YtgopfaegdlefpaaGreatDoorGk
import Derived.Test.YtgopfaegdlefpaaGreatDoorGg
import Derived.Test.YtgopfaegdlefpaaGreatDoorGdM
import Derived.Test.YtgopfaegdlefpaaGreatDoorEk
import Derived.Test.YtgopfaegdlefpaaGreatDoorEs
import Derived.Test.YtgopfaegdlefpaaGreatDoorRows
import Derived.LaidLaws
import Derived.LaidHandle
import Derived.Handed
import Derived.Shelf.Vars
import Derived.Lib.LaidU8
import Derived.Lay
namespace Go.Proofs.YtgopfaegdlefpaaGreatDoor
open Go.RowKit
set_option linter.unusedVariables false

/-! How many words there are at most. -/
theorem flat_len {α β : Type} (f : α → List β) : ∀ xs : List α, (xs.flatMap f).length = (xs.map fun x => (f x).length).sum
  | [] => rfl
  | x :: xs => by
    have := flat_len f xs
    simp only [List.flatMap_cons, List.length_append, List.map_cons, List.sum_cons]; omega
theorem sum_mul {α : Type} (k : Nat) (g : α → Nat) : ∀ xs : List α, (xs.map fun x => k * g x).sum = k * (xs.map g).sum
  | [] => rfl
  | x :: xs => by
    have := sum_mul k g xs
    simp only [List.map_cons, List.sum_cons, Nat.mul_add]; omega
theorem RowIs.mem {α : Type} {W : World} {lo z : Nat} {R : α → List Value → Prop} {v : Value} {xs : List α} (h : RowIs W lo z R v xs) : ∀ x ∈ xs, ∃ cs, R x cs := by
  intro x hx
  obtain ⟨a, cap, _, _, hr⟩ := h
  obtain ⟨j, hj, rfl⟩ := List.mem_iff_getElem.1 hx
  obtain ⟨_, _, cs, _, _, _, _, hR⟩ := hr j _ (List.getElem?_eq_getElem hj)
  exact ⟨cs, hR⟩
theorem wNet_len (tx : Int → List ArgT → ByteArray) {W : World} {lo : Nat} : ∀ (m : Nat) (t : NetT) (cs : List Value), NetIs W lo m t cs → (wNet tx m t).length ≤ 2 * szP (pNet m t)
  | 0, _, _, h => h.elim
  | m + 1, .mk k e kids, cs, h => by
    obtain ⟨v, v', rfl, ha, hk⟩ := h
    have h1 := sum_le_sum (fun x => (wNet tx m x).length) (fun x => 2 * szP (pNet m x)) kids (fun x hx => by
      obtain ⟨cs, hR⟩ := hk.mem x hx
      exact wNet_len tx m x cs hR)
    rw [sum_mul, ← flat_len, ← szP_flat] at h1
    have e1 : szP (pNet (m + 1) (.mk k e kids)) = 1 + szP (kids.flatMap (pNet m)) := rfl
    rw [e1]
    show (if k = 1 then [tx e.op e.args] else sgK k :: (kids.flatMap (wNet tx m) ++ [sgK 9])).length ≤ _
    split
    · simp; omega
    · simp only [List.length_cons, List.length_append, List.length_nil]; omega
theorem kidsW_len {α : Type} (f : α → List ByteArray) (xs : List α) : (kidsW (xs.map f)).length ≤ (xs.map fun x => 1 + (f x).length).sum + 1 := by
  cases xs with
  | nil => exact Nat.zero_le _
  | cons x xs =>
    simp only [List.map_cons, kidsW, List.length_cons, List.length_append, List.length_nil, List.sum_cons]
    have h1 := flat_len (fun y => sgK 7 :: y) (xs.map f)
    rw [List.map_map] at h1
    have h2 : (xs.map ((fun x => (sgK 7 :: x).length) ∘ f)).sum = (xs.map fun x => 1 + (f x).length).sum := by
      congr 1
      exact List.map_congr_left fun x _ => by simp [Nat.add_comm]
    rw [h2] at h1
    omega
theorem wArm_len (tx : Int → List ArgT → ByteArray) {W : World} {lo : Nat} : ∀ (m : Nat) (t : ArmT) (cs : List Value), ArmIs W lo m t cs → (wArm tx m t).length + 1 ≤ 3 * szP (pArm m false t)
  | 0, _, _, h => h.elim
  | m + 1, .mk net coils kids, cs, h => by
    obtain ⟨ns, v, v', rfl, hn, hc, hk⟩ := h
    have h1 := sum_le_sum (fun x => 1 + (wArm tx m x).length) (fun x => 3 * szP (pArm m false x)) kids (fun x hx => by
      obtain ⟨cs, hR⟩ := hk.mem x hx
      have := wArm_len tx m x cs hR
      omega)
    rw [sum_mul, ← szP_flat] at h1
    have h2 := kidsW_len (wArm tx m) kids
    have h3 := wNet_len tx m net ns hn
    have e1 : szP (pArm (m + 1) false (.mk net coils kids)) = szP (if noneT net then ([] : List PartT) else pNet m net) + ((1 + coils.length) + szP (kids.flatMap (pArm m false))) := by
      show szP ((if noneT net then ([] : List PartT) else pNet m net) ++ .inr (.mk net coils kids, false) :: kids.flatMap (pArm m false)) = _
      rw [szP_app]; rfl
    rw [e1]
    show ((if noneT net then [] else wNet tx m net) ++ sgK 5 :: (coils.map (fun e => tx e.op e.args) ++ kidsW (kids.map (wArm tx m)))).length + 1 ≤ _
    simp only [List.length_append, List.length_cons, List.length_map]
    cases noneT net with
    | true =>
      simp only [if_true, List.length_nil]
      rw [show szP ([] : List PartT) = 0 from rfl]
      omega
    | false =>
      simp only [Bool.false_eq_true, if_false]
      omega
theorem firstR_all (f : ArmT → Int) : ∀ (xs : List ArmT) (i : Nat), (firstR f i xs).1 = 0 → ∀ x ∈ xs, f x = 0
  | y :: ys, i, h, x, hx => by
    unfold firstR at h
    by_cases hy : f y = 0
    · rw [if_pos hy] at h
      rcases List.mem_cons.1 hx with rfl | hx
      · exact hy
      · exact firstR_all f ys _ h x hx
    · rw [if_neg hy] at h; exact absurd h hy
theorem firstR_pos (f : ArmT → Int) (hf : ∀ x, 0 ≤ f x) : ∀ (xs : List ArmT) (i : Nat), 0 ≤ (firstR f i xs).1
  | [], i => by simp [firstR]
  | y :: ys, i => by
    unfold firstR
    split
    · exact firstR_pos f hf ys _
    · exact hf y
theorem treeC_pos (ct cl : Int → List ArgT → Bool) (m : Nat) (xs : List ArmT) : 0 ≤ (treeC ct cl m xs).1 := by
  unfold treeC
  split
  · show (0 : Int) ≤ 1; omega
  · exact firstR_pos _ (fun x => (firstC_range ct cl _).1) xs 0
theorem good_of (ct cl : Int → List ArgT → Bool) (tx : Int → List ArgT → ByteArray) {W : World} {lo m : Nat} {v : Value} {xs : List ArmT} (hv : ArmsIs W lo m v xs) (h : (treeC ct cl m xs).1 = 0) :
    (∀ x ∈ xs, firstC ct cl (pArm m true x) = 0) ∧ xs.length ≤ 40 ∧ ∀ x ∈ xs, (wArm tx m x).length ≤ 2000 := by
  unfold treeC at h
  by_cases hm : manyT m xs = true
  · rw [if_pos hm] at h; exact absurd h (by show (1 : Int) ≠ 0; omega)
  rw [if_neg hm] at h
  unfold manyT at hm
  simp only [Bool.or_eq_true, decide_eq_true_eq, not_or] at hm
  refine ⟨firstR_all _ xs 0 h, by omega, fun x hx => ?_⟩
  obtain ⟨cs, hR⟩ := hv.mem x hx
  have h1 := wArm_len tx m x cs hR
  have h2 := sum_mem (fun x => szP (pArm m false x)) xs x hx
  rw [← szP_flat] at h2
  omega

/-! Contacts, coils and their texts, as ladders have them. -/
def ctE (op : Int) (xs : List ArgT) : Bool := decide (op ≤ 10) && rtk op xs
def clE (op : Int) (xs : List ArgT) : Bool := decide (21 ≤ op) && rtk op xs
theorem sl_of {W : World} {lo : Nat} {a : Option Addr} {len cap : Nat} {xs : List ArgT} (h : ArgsIs W lo (.slice a len cap) xs) : len = xs.length ∧ Sl W a xs := by
  obtain ⟨a', cap', hv, _, hx⟩ := h
  simp only [Value.slice.injEq] at hv
  obtain ⟨rfl, rfl, rfl⟩ := hv
  refine ⟨rfl, ?_⟩
  cases xs with
  | nil => exact .inl rfl
  | cons x xs =>
    obtain ⟨b, o, cs, rfl, _, _, _, _⟩ := hx 0 x rfl
    refine .inr ⟨b, o, rfl, fun j y hj => ?_⟩
    obtain ⟨b', o', cs', e, _, _, hr, hR⟩ := hx j y hj
    simp only [Option.some.injEq, Addr.mk.injEq] at e
    obtain ⟨rfl, rfl, -⟩ := e
    rw [show cs' = [.int .i64 y.1, .int .i64 y.2.1, .int .i64 y.2.2] from hR] at hr
    exact ⟨hr 0 _ rfl, hr 1 _ rfl, hr 2 _ rfl⟩
theorem ic_i {W : World} (hT : KT W) {lo : Nat} (op : Int) (v : Value) (xs : List ArgT) (h : ArgsIs W lo v xs) : Calls Tryz.prog 200 #[.agg #[.int .i64 op, v]] W fun e w' => e = .returned (.bool (ctE op xs)) ∧ Below W.heap.size W w' := by
  obtain ⟨a, cap, rfl, _, _⟩ := id h
  exact impl_iscontact op a xs _ cap (sl_of h).1 W hT (sl_of h).2
theorem il_i {W : World} (hT : KT W) {lo : Nat} (op : Int) (v : Value) (xs : List ArgT) (h : ArgsIs W lo v xs) : Calls Tryz.prog 169 #[.agg #[.int .i64 op, v]] W fun e w' => e = .returned (.bool (clE op xs)) ∧ Below W.heap.size W w' := by
  obtain ⟨a, cap, rfl, _, _⟩ := id h
  exact impl_iscoil op a xs _ cap (sl_of h).1 W hT (sl_of h).2
theorem ic_s {W : World} {lo : Nat} (op : Int) (v : Value) (xs : List ArgT) (h : ArgsIs W lo v xs) : Calls Tryz.prog 119 #[.agg #[.int .i64 op, v]] W fun e w' => e = .returned (.bool (ctE op xs)) ∧ Below W.heap.size W w' := by
  obtain ⟨a, cap, rfl, _, _⟩ := id h
  exact spec_iscontact op a xs _ cap (sl_of h).1 W (sl_of h).2
theorem il_s {W : World} {lo : Nat} (op : Int) (v : Value) (xs : List ArgT) (h : ArgsIs W lo v xs) : Calls Tryz.prog 77 #[.agg #[.int .i64 op, v]] W fun e w' => e = .returned (.bool (clE op xs)) ∧ Below W.heap.size W w' := by
  obtain ⟨a, cap, rfl, _, _⟩ := id h
  exact spec_iscoil op a xs _ cap (sl_of h).1 W (sl_of h).2
theorem tx_i {W : World} (hT : Tabs W) {lo : Nat} (op : Int) (v : Value) (xs : List ArgT) (h : ArgsIs W lo v xs) : Calls Tryz.prog 114 #[.agg #[.int .i64 op, v]] W fun e w' => e = .returned (.string (etx op xs)) ∧ Below W.heap.size W w' := by
  obtain ⟨a, cap, rfl, _, _⟩ := id h
  exact impl_etext op a xs _ cap (sl_of h).1 W hT (sl_of h).2
theorem tx_s {W : World} {lo : Nat} (op : Int) (v : Value) (xs : List ArgT) (h : ArgsIs W lo v xs) : Calls Tryz.prog 74 #[.agg #[.int .i64 op, v]] W fun e w' => e = .returned (.string (etx op xs)) ∧ Below W.heap.size W w' := by
  obtain ⟨a, cap, rfl, _, _⟩ := id h
  exact spec_etext op a xs _ cap (sl_of h).1 W (sl_of h).2
theorem etx_size (op : Int) (xs : List ArgT) : (etx op xs).size ≤ 300 := by
  unfold etx
  split
  · next h =>
    show (etl op xs).toArray.size ≤ 300
    rw [List.size_toArray]
    unfold etl
    rw [List.length_append]
    have h3 := rtk_3 h
    have h1 := join_le (xs.map tl) (btw op).data.toList (by rw [List.length_map]; exact h3.2) (fun x hx => by
      obtain ⟨y, _, rfl⟩ := List.mem_map.1 hx
      have := txt_le y.1 y.2.1 y.2.2
      rw [Lib.size_eq] at this
      exact this) (by have := btw_le op; rw [Lib.size_eq] at this; exact this)
    have h2 := ahd_size op
    rw [Lib.size_eq] at h2
    omega
  · exact Nat.zero_le _
/-- The handle that errors.As asks. -/
def EH (W : World) : Prop := W.cell? ⟨0, 0, none⟩ = some (.iface 192 (.agg #[.pointer (some ⟨9, 67, none⟩)]))
theorem EH.later {W W' : World} (h : EH W) (g : Below W.heap.size W W') : EH W' := dep_cell g (World.block_lt_of_cell? _ _ h) h

def textB (m : Nat) (xs : List ArmT) : ByteArray := if (treeC ctE clE m xs).1 = 0 then ⟨(textL etx m xs).toArray⟩ else ⟨#[]⟩
theorem print_i (m : Nat) (a : Option Addr) (cap : Nat) (xs : List ArmT) (w : World) (hv : ArmsIs w 0 m (.slice a xs.length cap) xs) (hcap : xs.length ≤ cap) (hw : xs.length + (xs.map (wA m)).sum ≤ 1048576) (hT : Tabs w) (hE : EH w) :
    Calls Tryz.prog 9 #[.slice a xs.length cap] w fun e w' => e = .returned (.string (textB m xs)) ∧ Below w.heap.size w w' :=
  print_run ctE clE etx etx_size m _ xs w hv _ _ (fun h => good_of ctE clE etx hv h)
    (fun W g => check_i ctE clE m a cap xs W (armsIs_move (Keeps.of_below g 0) (Nat.le_refl _) (Nat.le_refl _) hv) hcap hw (hE.later g) (fun W' g' => fun op v ys h => ic_i ((hT.later g).later g').k op v ys h) (fun W' g' => fun op v ys h => il_i ((hT.later g).later g').k op v ys h))
    (fun W' g => fun op v ys h => tx_i (hT.later g) op v ys h)
theorem print_s (m : Nat) (v : Value) (xs : List ArmT) (w : World) (hv : ArmsIs w 0 m v xs) (hw : xs.length + (xs.map (wA m)).sum ≤ 1048576) :
    Calls Tryz.prog 10 #[v] w fun e w' => e = .returned (.string (textB m xs)) ∧ Below w.heap.size w w' :=
  sprint_run ctE clE etx etx_size m v xs w 0 hv _ _ (treeC_pos ctE clE m xs) (fun h => good_of ctE clE etx hv h)
    (fun W g => scheck ctE clE m v xs W 0 (armsIs_move (Keeps.of_below g 0) (Nat.le_refl _) (Nat.le_refl _) hv) hw (fun W' _ => ic_s) (fun W' _ => il_s))
    (fun W' g => tx_s)

set_option maxRecDepth 10000 in
set_option maxHeartbeats 4000000 in
theorem law_print (v : Value) (w : World) (ha : ∃ m xs, ArmsIs w 0 m v xs) (hT : Tabs w) (hE : EH w) :
    Calls Tryz.prog 7 #[v] w fun e w' => e = .returned (.bool true) ∧ Below w.heap.size w w' := by
  obtain ⟨m, xs, hx⟩ := ha
  have HX : Hid (ArmsIs w 0 m v xs ∧ Tabs w ∧ EH w) := ⟨hx, hT, hE⟩
  clear hx hT hE
  have LX : Hid (∀ W, Below w.heap.size w W → ArmsIs W 0 m v xs) := fun W g => armsIs_move (Keeps.of_below g 0) (Nat.le_refl _) (Nat.le_refl _) HX.out.1
  obtain ⟨p, Hp⟩ : ∃ p, Hid (p = xs.length + (xs.map (wA m)).sum) := ⟨_, rfl⟩
  go_enter Tryz.func7, Tryz.ntmps7
  go_wp2_with fail
  refine (sz_arms m 1048576 (by omega) (by omega) v xs w 0 HX.out.1).mono ?_
  rintro e w1 ⟨rfl, g1⟩
  rw [← Hp.out]
  have b1 : Below w.heap.size w w1 := g1
  clear g1
  by_cases hp : (p : Int) ≤ 1048576
  case neg =>
    rw [szR_no hp]
    go_wp2
    go_ret
    exact ⟨rfl, b1⟩
  rw [szR_yes hp]
  have i1 : ¬ ((1048576 : Int) - p < 0) := by omega
  have hpp : xs.length + (xs.map (wA m)).sum ≤ 1048576 := by have := Hp.out; omega
  have HTX : Hid (∀ W, Below w.heap.size w W → Calls Tryz.prog 24 #[v] W fun r w' => ∃ v', r = .returned v' ∧ ArmsIs w' W.heap.size m v' xs ∧ Below W.heap.size W w') := fun W g => to_arms m v xs W 0 (LX.out W g) hpp
  have HTC : Hid (∀ W, Below w.heap.size w W → Calls Tryz.prog 24 #[v] W fun r w' => ∃ a cap, r = .returned (.slice a xs.length cap) ∧ xs.length ≤ cap ∧ ArmsIs w' W.heap.size m (.slice a xs.length cap) xs ∧ Below W.heap.size W w') := fun W g => to_arms_cap m v xs W 0 (LX.out W g) hpp
  obtain ⟨T, HTT⟩ : ∃ T, Hid (T = textB m xs) := ⟨_, rfl⟩
  have HS1 : Hid (∀ t W, ArmsIs W 0 m t xs → Calls Tryz.prog 10 #[t] W fun r w' => r = .returned (.string T) ∧ Below W.heap.size W w') := fun t W h => by rw [HTT.out]; exact print_s m t xs W h hpp
  have HS2 : Hid (∀ a cap W, Below w.heap.size w W → xs.length ≤ cap → ArmsIs W 0 m (.slice a xs.length cap) xs → Calls Tryz.prog 9 #[.slice a xs.length cap] W fun r w' => r = .returned (.string T) ∧ Below W.heap.size W w') := fun a cap W g hc h => by
    rw [HTT.out]; exact print_i m a cap xs W h hc hpp (HX.out.2.1.later g) (HX.out.2.2.later g)
  obtain ⟨len, HLn⟩ : ∃ len, Hid (len = xs.length) := ⟨_, rfl⟩
  rw [← HLn.out] at HTC HS2
  clear LX HX Hp hpp HTT
  go_wp2_with fail
  refine (HTX.out _ b1).mono ?_
  rintro e w3 ⟨t1, rfl, k1, g3⟩
  have b3 := b1.trans (g3.mono b1.size)
  have K1 : Hid (ArmsIs w3 0 m t1 xs) := armsIs_move (Keeps.refl _ _) (Nat.zero_le _) (Nat.le_refl _) k1
  clear g3 k1 b1
  go_wp2_with fail
  refine (HS1.out t1 w3 K1.out).mono ?_
  rintro e w5 ⟨rfl, g5⟩
  have b5 := b3.trans (g5.mono b3.size)
  clear g5 b3 K1
  go_wp2_with fail
  refine (HTC.out _ b5).mono ?_
  rintro e w6 ⟨ax, cx, rfl, hcx, k6, g6⟩
  have b6 := b5.trans (g6.mono b5.size)
  have X6 : Hid (ArmsIs w6 0 m (.slice ax len cx) xs ∧ len ≤ cx) := ⟨armsIs_move (Keeps.refl _ _) (Nat.zero_le _) (Nat.le_refl _) k6, hcx⟩
  clear g6 k6 b5 hcx
  go_wp2_with fail
  refine (HS2.out ax cx w6 b6 X6.out.2 X6.out.1).mono ?_
  rintro e w8 ⟨rfl, g8⟩
  have b8 := b6.trans (g8.mono b6.size)
  have X8 : Hid (ArmsIs w8 0 m (.slice ax len cx) xs) := armsIs_move (Keeps.of_below g8 0) (Nat.zero_le _) (Nat.le_refl _) X6.out.1
  clear g8 b6 X6
  go_wp2_with fail
  refine (HTX.out _ b8).mono ?_
  rintro e w9 ⟨x2, rfl, k9, g9⟩
  have b9 := b8.trans (g9.mono b8.size)
  have X9 : Hid (ArmsIs w9 0 m (.slice ax len cx) xs) := armsIs_move (Keeps.of_below g9 0) (Nat.zero_le _) (Nat.le_refl _) X8.out
  have Z9 : Hid (ArmsIs w9 0 m x2 xs) := armsIs_move (Keeps.refl _ _) (Nat.zero_le _) (Nat.le_refl _) k9
  clear g9 b8 X8 k9
  go_wp2_with fail
  refine (eq_arms m m _ x2 xs xs w9 0 0 X9.out Z9.out).mono ?_
  rintro e wa ⟨rfl, ga⟩
  rw [eqB_refl]
  have ba := b9.trans (ga.mono b9.size)
  clear ga b9 X9 Z9
  go_wp2
  go_ret
  exact ⟨rfl, ba⟩
end Go.Proofs.YtgopfaegdlefpaaGreatDoor
/- What the listed variables and the handle give the walks over ladders; the wrap of a law whose walk is handed the world's shape too. -/
namespace Go.Proofs.YtgopfaegdlefpaaGreatDoor
open Go.RowKit Go.Lib
set_option linter.unusedVariables false

def ML (W : World) : Prop := True
theorem ml_of_shape {W : World} (h : W.ShapedOpen Tryz.prog) : ML W := trivial
theorem et_named : Tryz.prog.globalNamed "errors.errorType" = some 0 := by kernel_rfl
theorem rt_type : (Tryz.prog.cutTypes.find? (·.1 == "internal/reflectlite.rtype")).map (·.2) = some 192 := by kernel_rfl
theorem err_row : ((List.range 346).filter fun t => Tryz.prog.rowNamed t [101, 114, 114, 111, 114]) = [67] := by kernel_rfl
theorem types_size : Tryz.prog.types.size = 346 := by kernel_rfl
theorem err_name : (Rows.laid_errors_errorType : DataW Unit).handleName? = some [101, 114, 114, 111, 114] := by kernel_rfl
theorem err_nofn : (Rows.laid_errors_errorType : DataW Unit).funcsIn? = none := by kernel_rfl
theorem eh_of_laid {W : World} (h : handlesMet Tryz.prog [("errors.errorType", Rows.laid_errors_errorType)] W) : EH W := by
  have h1 := h _ (List.mem_singleton.2 rfl)
  simp only [err_nofn] at h1
  obtain ⟨name, u, ty, e1, e2, e3, e4, e5⟩ := h1
  obtain rfl := Option.some.inj (err_name.symm.trans e1)
  obtain rfl := Option.some.inj (rt_type.symm.trans e2)
  have hm : ty ∈ (List.range 346).filter fun t => Tryz.prog.rowNamed t [101, 114, 114, 111, 114] := List.mem_filter.2 ⟨List.mem_range.2 (by rw [← types_size]; exact e3), e4⟩
  rw [err_row] at hm
  obtain rfl := List.mem_singleton.1 hm
  have hh : typeHandle Tryz.prog 67 = .pointer (some ⟨9, 67, none⟩) := by kernel_rfl
  rw [hh] at e5
  have := World.var?_cell et_named e5 0
  simpa [EH] using this

/-- The world in which nothing is laid but the handle. -/
noncomputable def handleBase (os : Os) : World :=
  let w0 := World.holding Tryz.prog os ⟨#[], #[], []⟩
  { w0 with heap := w0.heap.modify 0 fun
      | .cells _ t frozen => .cells #[.iface 192 (.agg #[.pointer (some ⟨9, 67, none⟩)])] t frozen
      | o => o }
/-- The handle, and the plain data on a list. -/
noncomputable def handleWorld (os : Os) (plain : List (String × DataW Unit)) : World := (handleBase os).layVars Tryz.prog plain
theorem handleWorld_os (os : Os) (plain : List (String × DataW Unit)) : (handleWorld os plain).os = os := World.layVars_os _ _ _
theorem handleWorld_met {os : Os} {laid : List (String × DataW Unit)} (args : Array Value)
    (hf : (handleBase os).layFits Tryz.prog (laid.filter fun x => x.2.handleName?.isNone) [] = true)
    (hi : (handleBase os).layIfaces Tryz.prog (laid.filter fun x => x.2.handleName?.isNone) (handleWorld os (laid.filter fun x => x.2.handleName?.isNone)) = true)
    (hh : (laid.filter fun x => x.2.handleName?.isSome).all (handleAtB Tryz.prog ((handleWorld os (laid.filter fun x => x.2.handleName?.isNone)).forCall (fun _ _ => 0) ⟨#[], args, []⟩).memory) = true) :
    laidMetH Tryz.prog laid ((handleWorld os (laid.filter fun x => x.2.handleName?.isNone)).forCall (fun _ _ => 0) ⟨#[], args, []⟩).memory := by
  refine laidMetH_of_parts ?_ hh
  generalize (laid.filter fun x => x.2.handleName?.isNone) = pl at hf hi
  have e1 : (pl.filter fun x => (pl.map (·.1)).contains x.1) = pl := List.filter_eq_self.2 fun x hx => List.contains_iff_mem.2 (List.mem_map.2 ⟨x, hx, rfl⟩)
  have e2 : (pl.filter fun x => !(pl.map (·.1)).contains x.1) = [] := List.filter_eq_nil_iff.2 fun x hx => by rw [List.contains_iff_mem.2 (List.mem_map.2 ⟨x, hx, rfl⟩)]; simp
  have h : laidMet Tryz.prog pl (handleWorld os pl) := laidMet_layVars (w0 := handleBase os) (pl.map (·.1)) [] (by rw [e1]; rfl) (by rw [e1]; exact hf) (by rw [e1]; exact hi) (by rw [e2]; exact LaidIn.none)
  exact h.of_heap (by simp [World.memory, World.forCall, Input.heap])

/-- A law's lifted form out of a walk that is handed the world's shape beside what is laid. -/
theorem lift_shaped {H : Type} {enc : TypeId × Value → H} {asm0 : Assume} {C : Checked} {os : Os} {f : FuncId} {fn : Func} {s : ChangeSpec} {cs : List PathCond} {b1 b2 b3 b4 : Bool} {X : World → Array Value → Prop}
    (keep : ∀ (w w' : World) (args : Array Value), w.heap = w'.heap → X w args → X w' args) (own : ownKnob C.prog.godebug = none) (st : os.Started) (ni : C.prog.inits.idxOf? f = none) (hfn : C.prog.funcs[f]? = some fn)
    (wit : ∃ (w : World) (tape : Tape) (i : Input), w.os = os ∧ (w.forCall tape i).Shaped C.prog ∧ i.vars = [] ∧ Input.okWide C.prog (w.forCall tape i) .any w.heap.size f i ∧
      ((s.pre enc C.prog fn cs b1 (w.forCall tape i).memory i.args ∧ X (w.forCall tape i).memory i.args) ∧ sizedMet enc C.prog fn (OpenSpec.ofChange s) b1 (w.forCall tape i).memory i.args) ∧ asm0.holds C.prog (lone (Frame.enter C.prog f i.args .normal) [] (w.forCall tape i)))
    (walk : ∀ (W : World) (base : Nat) (args : Array Value) (ds gs : List (DataW H)) (before : List MemPlace),
      (∀ (j : Nat) t v, fn.params[j]? = some t → args[j]? = some v → Value.okWide C.prog W .any base t v) →
      DataW.Whole enc C.prog fn.params.toList s.vars b1 W args.toList ds gs before → W.ShapedOpen C.prog → X W args →
      Calls C.prog f args W fun e W' => ∃ v, e = .returned v ∧ s.post enc C.prog fn b1 b2 b3 b4 W args v W') :
    ReturnsInHanded asm0 C os f .any (fun w args => (s.pre enc C.prog fn cs b1 w args ∧ X w args) ∧ sizedMet enc C.prog fn (OpenSpec.ofChange s) b1 w args) (s.post enc C.prog fn b1 b2 b3 b4) := by
  refine returnsInHanded_of_calls own st ni wit (fun w tape i _ shape _ ok pre _ => ?_)
  obtain ⟨-, -, -, fn', hfn', -, -, -, -, vals⟩ := ok
  obtain rfl := Option.some.inj (hfn'.symm.trans hfn)
  obtain ⟨⟨⟨ds, gs, before, whole, -⟩, x⟩, -⟩ := pre
  refine (walk (w.forCall tape i) w.heap.size i.args ds gs before vals (DataW.Whole.of_heap (w' := w.forCall tape i) (by rfl) whole) shape (keep _ _ _ (by rfl) x)).mono ?_
  rintro e W' ⟨v, rfl, hp⟩
  exact ChangeSpec.post_blind hp

/-- The law's walk, as the frame calls it. -/
theorem walk_print (v : Value) (W : World) (ha : ∃ m xs, ArmsIs W 0 m v xs) (k : KT W) (p : PT W) (t : WT W) (m : ML W) (h : EH W) :
    Calls Tryz.prog 7 #[v] W fun e w' => e = .returned (.bool true) ∧ Below W.heap.size W w' := law_print v W ha ⟨k, p, t⟩ h
end Go.Proofs.YtgopfaegdlefpaaGreatDoor
