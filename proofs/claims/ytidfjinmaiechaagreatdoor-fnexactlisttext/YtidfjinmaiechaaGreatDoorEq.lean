/- The text of a contact or coil; ElemText of both sides. -/
import Derived.Test.YtidfjinmaiechaaGreatDoorEp
namespace Go.Proofs.YtidfjinmaiechaaGreatDoor
open Go.RowKit Go.Shelf
set_option linter.unusedVariables false

def tl (x : Arg) : List UInt8 := (txt x.1 x.2.1 x.2.2).data.toList
def etl (op : Int) (xs : List Arg) : List UInt8 := (ahd op).data.toList ++ Lib.join (xs.map tl) (btw op).data.toList
/-- The text of a contact or coil. -/
def etx (op : Int) (xs : List Arg) : ByteArray := if rtk op xs then ⟨(etl op xs).toArray⟩ else ⟨#[]⟩

theorem txt_le (k n p : Int) : (txt k n p).size ≤ 60 := by
  unfold txt
  split
  · rename_i ho
    split
    · rename_i h12
      subst h12
      have hb : okD n p = true := by simpa [okA] using ho
      have := okD_bd hb
      rw [tx_size]
      unfold decL
      split
      · have := cutp_len n.natAbs p.toNat (by omega) (by omega); simp; omega
      · have := cutp_len n.toNat p.toNat (by omega) (by omega); omega
    · split
      · rename_i h13
        subst h13
        have := ok_word ho
        have : n = 0 ∨ n = 1 ∨ n = 2 ∨ n = 3 := by omega
        rcases this with rfl | rfl | rfl | rfl <;> decide
      · rename_i h12 h13
        have hb := ok_bd ho h12
        have h1 := kL_small k
        have h2 := itoa_size n (by omega) (by omega)
        rw [ByteArray.size_append]; omega
  · decide

theorem btw_le (op : Int) : (btw op).size ≤ 2 := by
  rcases op_cases op with h | ⟨n, hn, rfl⟩
  · rw [(out_all op h).2.1]; decide
  · rcases c38 n hn with rfl | rfl | rfl | rfl | rfl | rfl | rfl | rfl | rfl | rfl | rfl | rfl | rfl | rfl | rfl | rfl | rfl | rfl | rfl | rfl | rfl | rfl | rfl | rfl | rfl | rfl | rfl | rfl | rfl | rfl | rfl | rfl | rfl | rfl | rfl | rfl | rfl | rfl
    all_goals decide

theorem join_le (l : List (List UInt8)) (sep : List UInt8) (hl : l.length ≤ 3) (h : ∀ x ∈ l, x.length ≤ 60) (hs : sep.length ≤ 2) : (Lib.join l sep).length ≤ 190 := by
  match l, hl with
  | [], _ => simp [Lib.join_nil]
  | [a], _ =>
    rw [Lib.join_one]
    have := h a (by simp); omega
  | [a, b], _ =>
    rw [Lib.join_cons]
    have h1 := h a (by simp); have h2 := h b (by simp)
    simp [Lib.joinTail]; omega
  | [a, b, c], _ =>
    rw [Lib.join_cons]
    have h1 := h a (by simp); have h2 := h b (by simp); have h3 := h c (by simp)
    simp [Lib.joinTail]; omega
  | _ :: _ :: _ :: _ :: _, hl => simp at hl

theorem rtk_3 {op : Int} {xs : List Arg} (h : rtk op xs = true) : 1 ≤ xs.length ∧ xs.length ≤ 3 := by
  obtain ⟨h1, h2⟩ := rtk_len h
  have := nd_ok op
  simp only [okPl, Bool.and_eq_true, decide_eq_true_eq] at this
  unfold arN at h1
  refine ⟨?_, by omega⟩
  cases xs with
  | nil => exact absurd rfl h2
  | cons => simp

theorem map_xf (xs : List Arg) : (List.range xs.length).map (fun n => txt (xf xs n).1 (xf xs n).2.1 (xf xs n).2.2) = xs.map fun x => txt x.1 x.2.1 x.2.2 := by
  apply List.ext_getElem?
  intro i
  rw [List.getElem?_map, List.getElem?_map]
  by_cases h : i < xs.length
  · rw [List.getElem?_range h, List.getElem?_eq_getElem h]
    simp [xf, List.getElem?_eq_getElem h]
  · rw [List.getElem?_eq_none (by simp; omega), List.getElem?_eq_none (by omega)]; rfl

theorem impl_etext (op : Int) (a : Option Addr) (xs : List Arg) (len cap : Nat) (hlen : len = xs.length) (w : World) (hT : Tabs w) (hx : Sl w a xs) :
    Calls Tryz.prog 38 #[.agg #[.int .i64 op, .slice a len cap]] w fun e w' => e = .returned (.string (etx op xs)) ∧ Below w.heap.size w w' := by
  cases hr : rtk op xs with
  | false =>
    rw [show etx op xs = ⟨#[]⟩ by unfold etx; rw [hr]; rfl]
    exact etext_no op (ahd op) (btw op) _ _ _ _ _ _ a len cap w (pv_one _) (pv_one _) (pv_one _) (pv_one _) (pv_one _) (pv_one _) (fun W _ => rule_of op W)
      (fun W h => by have := rule_take op a xs len cap hlen W (hT.k.later h) (hx.later h); rwa [hr] at this)
  | true =>
    obtain ⟨h1, h3⟩ := rtk_3 hr
    subst hlen
    obtain ⟨b, o, rfl, ho⟩ : ∃ b o, a = some ⟨b, o, none⟩ ∧ Ops w b o xs := by
      rcases hx with rfl | h
      · simp at h1
      · exact h
    have hj : (Lib.join (xs.map tl) (btw op).data.toList).length ≤ 190 := by
      refine join_le _ _ (by simpa using h3) ?_ (by have := btw_le op; simpa using this)
      intro x hx
      obtain ⟨y, _, rfl⟩ := List.mem_map.1 hx
      have := txt_le y.1 y.2.1 y.2.2
      simpa [tl] using this
    rw [show etx op xs = ahd op ++ ⟨(Lib.join (xs.map tl) (btw op).data.toList).toArray⟩ by
      unfold etx
      rw [hr]
      simp only [if_true, etl]
      apply ByteArray.ext
      simp]
    refine etext_run op (ahd op) (btw op) _ _ _ _ _ _ _ xs.length b o cap h3 h1 (xf xs) (fun n => txt (xf xs n).1 (xf xs n).2.1 (xf xs n).2.2) w (pv_one _) (pv_one _) (pv_one _) (pv_one _) (pv_one _) (pv_one _) (fun n hn => ho.fn n hn) ?_ (fun W _ => rule_of op W) ?_ ?_ ?_
    · have := ahd_size op
      have h2 : (⟨(Lib.join (xs.map tl) (btw op).data.toList).toArray⟩ : ByteArray).size = (Lib.join (xs.map tl) (btw op).data.toList).length := by simp [ByteArray.size]
      rw [h2]; omega
    · intro W h
      have := rule_take op (some ⟨b, o, none⟩) xs xs.length cap rfl W (hT.k.later h) (.inr ⟨b, o, rfl, ho.later h⟩)
      rwa [hr] at this
    · intro n hn W h
      exact impl_text _ _ _ W (hT.later h)
    · intro W T hc
      have e1 : ((List.range xs.length).map fun n => txt (xf xs n).1 (xf xs n).2.1 (xf xs n).2.2).map (·.data.toList) = xs.map tl := by
        rw [map_xf, List.map_map]; rfl
      have hjn := Any.strings_Join Tryz.layJ Tryz.layJ_extra T 0 xs.length ((List.range xs.length).map fun n => txt (xf xs n).1 (xf xs n).2.1 (xf xs n).2.2) (btw op) W
        (fun j x hj => by
          have hjl : j < xs.length := by have := (List.getElem?_eq_some_iff.1 hj).1; simpa using this
          rw [List.getElem?_map, List.getElem?_range hjl] at hj
          obtain rfl := Option.some.inj hj
          rw [Nat.zero_add]; exact hc j hjl)
        (World.block_lt_of_cell? _ _ (hc 0 (by omega))) (by simp; omega) (by simp) (by rw [e1]; omega)
      rw [e1, List.length_map, List.length_range] at hjn
      exact hjn

set_option maxHeartbeats 2000000 in
theorem spec_sign (op : Int) (h1 : 5 ≤ op) (h2 : op ≤ 10) (w : World) :
    Calls Tryz.prog 59 #[.int .i64 op] w fun e w' => e = .returned (.string (btw op)) ∧ Below w.heap.size w w' := by
  have : op = 5 ∨ op = 6 ∨ op = 7 ∨ op = 8 ∨ op = 9 ∨ op = 10 := by omega
  rcases this with rfl | rfl | rfl | rfl | rfl | rfl
  all_goals
    go_enter Tryz.func59, Tryz.ntmps59
    go_wp2
    go_ret
    exact ⟨rfl, by go_grown⟩
end Go.Proofs.YtidfjinmaiechaaGreatDoor

