/- What a list of instructions leaves on a stack of nets, as mathematics. -/
import Derived.Test.YtkppcmpdghnmgaaDoorBkl
import Derived.Test.YtkppcmpdghnmgaaDoorXaM
import Derived.Test.YtkppcmpdghnmgaaDoorUcM
namespace Go.Proofs.YtkppcmpdghnmgaaDoor
open Go.RowKit
set_option linter.unusedVariables false

def ctB (op : Int) (xs : List ArgT) : Bool := decide (op ≤ 10) && rtk op xs
def okX (i : InstT) : Bool := okI i.code i.one.op i.one.args
def bk : List InstT → List NetT → Option (List NetT)
  | [], s => some s
  | i :: is, s => if okX i then (match stp i.code i.one s with | some s' => bk is s' | none => none) else none
theorem bk_at {xs : List InstT} {j : Nat} {x : InstT} (h : xs[j]? = some x) (s : List NetT) : bk (xs.drop j) s = if okX x then (match stp x.code x.one s with | some s' => bk (xs.drop (j + 1)) s' | none => none) else none := by
  obtain ⟨h1, h2⟩ := List.getElem?_eq_some_iff.1 h
  rw [List.drop_eq_getElem_cons h1, h2]
  rfl
theorem rtk_three {op : Int} {xs : List Arg} (h : rtk op xs = true) : xs.length ≤ 3 := by
  have h1 := (rtk_len h).1
  have h2 : (ndP op).length ≤ 3 := by have := nd_ok op; unfold okPl at this; simp only [Bool.and_eq_true, decide_eq_true_eq] at this; exact this.1
  unfold arN at h1
  omega
theorem okX_ct {i : InstT} (h : okX i = true) (hc : 1 ≤ i.code ∧ i.code ≤ 3) : ctB i.one.op i.one.args = true ∧ i.one.args.length ≤ 3 := by
  unfold okX okI at h
  rw [if_neg (by omega), if_pos (by omega)] at h
  refine ⟨h, rtk_three (op := i.one.op) ?_⟩
  simp only [Bool.and_eq_true] at h
  exact h.2
theorem okX_rng {i : InstT} (h : okX i = true) : 1 ≤ i.code ∧ i.code ≤ 11 := by
  unfold okX okI at h
  by_cases hc : i.code < 1 ∨ 11 < i.code
  · rw [if_pos hc] at h; simp at h
  · omega

/-- How many nets there are. -/
def cnt (m : Nat) (t : NetT) : Nat := szP (pNet m t)
theorem cnt_s (m : Nat) (k : Int) (e : ElemT) (kids : List NetT) : cnt (m + 1) (.mk k e kids) = 1 + (kids.map (cnt m)).sum := by
  show szP (.inl (.mk k e kids) :: kids.flatMap (pNet m)) = _
  have : szP (.inl (.mk k e kids) :: kids.flatMap (pNet m)) = 1 + szP (kids.flatMap (pNet m)) := by simp [szP, pSize]
  rw [this, szP_flat]
  rfl
theorem cnt_mono : ∀ (m : Nat) (t : NetT), cnt m t ≤ cnt (m + 1) t
  | 0, t => Nat.zero_le _
  | m + 1, .mk k e kids => by
    rw [cnt_s, cnt_s]
    have := sum_le_sum (cnt m) (cnt (m + 1)) kids (fun x _ => cnt_mono m x)
    omega
theorem wN_mono : ∀ (m : Nat) (t : NetT), wN m t ≤ wN (m + 1) t
  | 0, t => Nat.zero_le _
  | m + 1, .mk k e kids => by
    have := sum_le_sum (wN m) (wN (m + 1)) kids (fun x _ => wN_mono m x)
    show wE e + (kids.length + (kids.map (wN m)).sum) ≤ wE e + (kids.length + (kids.map (wN (m + 1))).sum)
    omega
theorem cnt_opn (k : Int) (m : Nat) (t : NetT) : ((opn k t).map (cnt m)).sum ≤ cnt (m + 1) t := by
  unfold opn
  split
  · obtain ⟨k', e, kids⟩ := t
    rw [cnt_s]
    show (kids.map (cnt m)).sum ≤ _
    omega
  · have := cnt_mono m t
    simpa using this
theorem w_opn (k : Int) (m : Nat) (t : NetT) : (opn k t).length + ((opn k t).map (wN m)).sum ≤ 1 + wN (m + 1) t := by
  unfold opn
  split
  · obtain ⟨k', e, kids⟩ := t
    show kids.length + (kids.map (wN m)).sum ≤ 1 + (wE e + (kids.length + (kids.map (wN m)).sum))
    omega
  · have := wN_mono m t
    simp
    omega
theorem cnt_jn (k : Int) (a b : NetT) (m : Nat) : cnt m (jnT k a b) ≤ 1 + cnt m a + cnt m b := by
  cases m with
  | zero => exact Nat.zero_le _
  | succ m =>
    unfold jnT
    rw [cnt_s, List.map_append, List.sum_append]
    have := cnt_opn k m a
    have := cnt_opn k m b
    omega
theorem w_jn (k : Int) (a b : NetT) (m : Nat) : wN m (jnT k a b) ≤ 2 + wN m a + wN m b := by
  cases m with
  | zero => exact Nat.zero_le _
  | succ m =>
    show wE e0T + ((opn k a ++ opn k b).length + ((opn k a ++ opn k b).map (wN m)).sum) ≤ _
    have h1 := w_opn k m a
    have h2 := w_opn k m b
    rw [List.length_append, List.map_append, List.sum_append]
    show 0 + _ ≤ _
    omega
theorem cnt_ad (k : Int) (a b : NetT) (m : Nat) : cnt m (adT k a b) ≤ 1 + cnt m a + cnt m b := by
  unfold adT
  split
  · omega
  · exact cnt_jn k a b m
theorem w_ad (k : Int) (a b : NetT) (m : Nat) : wN m (adT k a b) ≤ 2 + wN m a + wN m b := by
  unfold adT
  split
  · omega
  · exact w_jn k a b m
theorem cnt_ct (e : ElemT) (m : Nat) : cnt m (ctT e) ≤ 1 := by
  cases m with
  | zero => exact Nat.zero_le _
  | succ m => unfold ctT; rw [cnt_s]; simp
theorem w_ct (e : ElemT) (m : Nat) : wN m (ctT e) ≤ e.args.length := by
  cases m with
  | zero => exact Nat.zero_le _
  | succ m => show wE e + (0 + 0) ≤ _; unfold wE; omega
theorem cnt_nt (a : NetT) (m : Nat) : cnt m (ntT a) ≤ 1 + cnt m a := by
  cases m with
  | zero => exact Nat.zero_le _
  | succ m => unfold ntT; rw [cnt_s]; have := cnt_mono m a; simp; omega
theorem w_nt (a : NetT) (m : Nat) : wN m (ntT a) ≤ 1 + wN m a := by
  cases m with
  | zero => exact Nat.zero_le _
  | succ m => have := wN_mono m a; show 0 + (1 + (wN m a + 0)) ≤ _; omega
/-- Every part is right. -/
def Rt (t : NetT) : Prop := ∀ (m : Nat) (cl : Int → List ArgT → Bool), ∀ p ∈ pNet m t, cP ctB cl p = 0
theorem rt_kids {k : Int} {e : ElemT} {kids : List NetT} (h : ∀ x ∈ kids, Rt x) (h0 : cN ctB (.mk k e kids) = 0) : Rt (.mk k e kids) := by
  intro m cl p hp
  cases m with
  | zero => simp [pNet] at hp
  | succ m =>
    rcases List.mem_cons.1 hp with rfl | hp
    · exact h0
    · obtain ⟨x, hx, hp⟩ := List.mem_flatMap.1 hp
      exact h x hx m cl p hp
theorem rt_kid {k : Int} {e : ElemT} {kids : List NetT} (h : Rt (.mk k e kids)) : ∀ x ∈ kids, Rt x := fun x hx m cl p hp => h (m + 1) cl p (List.mem_cons_of_mem _ (List.mem_flatMap.2 ⟨x, hx, hp⟩))
theorem rt_opn {k : Int} {t : NetT} (h : Rt t) : ∀ x ∈ opn k t, Rt x := by
  unfold opn
  split
  · obtain ⟨k', e, kids⟩ := t
    exact rt_kid h
  · intro x hx; simp at hx; rw [hx]; exact h
theorem rt_ad {k : Int} (hk : k = 2 ∨ k = 3) {a b : NetT} (ha : Rt a) (hb : Rt b) (hoa : OkN a) (hob : OkN b) : Rt (adT k a b) := by
  unfold adT
  split
  · exact hb
  · refine rt_kids (fun x hx => ?_) ?_
    · rcases List.mem_append.1 hx with hx | hx
      · exact rt_opn ha x hx
      · exact rt_opn hb x hx
    · show cNv k 0 0 (opn k a ++ opn k b).length _ = 0
      have := opn_pos hk hoa
      have hl : 0 < (opn k a ++ opn k b).length := by rw [List.length_append]; omega
      unfold cNv
      rw [if_neg (by omega), if_pos ⟨by omega, by omega, rfl, rfl, hl, fun h => by omega⟩]
theorem rt_ct {e : ElemT} (h : ctB e.op e.args = true) : Rt (ctT e) := rt_kids (fun x hx => by simp at hx) (by
  show cNv 1 e.op e.args.length 0 (ctB e.op e.args) = 0
  rw [h]
  rfl)
theorem rt_nt {a : NetT} (h : Rt a) : Rt (ntT a) := rt_kids (fun x hx => by simp at hx; rw [hx]; exact h) (by rfl)

/-- What is so of a stack behind so many instructions. -/
structure GS (j : Nat) (s : List NetT) : Prop where
  ok : ∀ t ∈ s, OkN t ∧ Rt t
  nets : ∀ m, (s.map (cnt m)).sum ≤ 2 * j
  wt : ∀ m, (s.map (wN m)).sum ≤ 5 * j
theorem GS.nil : GS 0 [] := ⟨fun t h => by simp at h, fun m => by simp, fun m => by simp⟩
theorem GS.cons {j : Nat} {t : NetT} {s : List NetT} (h1 : OkN t ∧ Rt t) (h2 : ∀ x ∈ s, OkN x ∧ Rt x) (h3 : ∀ m, cnt m t + (s.map (cnt m)).sum ≤ 2 * j) (h4 : ∀ m, wN m t + (s.map (wN m)).sum ≤ 5 * j) : GS j (t :: s) := ⟨fun x hx => by
  rcases List.mem_cons.1 hx with rfl | hx
  · exact h1
  · exact h2 x hx, fun m => by simpa using h3 m, fun m => by simpa using h4 m⟩
theorem GS.step {j : Nat} {i : InstT} {s s' : List NetT} (h : GS j s) (hi : okX i = true) (hs : stp i.code i.one s = some s') : GS (j + 1) s' := by
  unfold stp at hs
  split at hs
  case isFalse => simp at hs
  case isTrue hc =>
    simp at hs
    obtain ⟨hn, hc1, hc2⟩ := hc
    have hnd : ∀ c : Int, ndT c = if c = 1 then 0 else if c = 4 ∨ c = 5 then 2 else 1 := fun c => rfl
    rcases (by omega : i.code = 1 ∨ i.code = 2 ∨ i.code = 3 ∨ i.code = 4 ∨ i.code = 5 ∨ i.code = 6) with e | e | e | e | e | e
    · rw [e] at hs
      subst hs
      obtain ⟨q1, q2⟩ := okX_ct hi (by omega)
      exact GS.cons ⟨okN_ct _, rt_ct q1⟩ h.ok (fun m => by have := h.nets m; have := cnt_ct i.one m; omega) (fun m => by have := h.wt m; have := w_ct i.one m; omega)
    · rw [e] at hs hn
      obtain ⟨q1, q2⟩ := okX_ct hi (by omega)
      match s, hs, hn, h with
      | [], _, hn, _ => simp [ndT] at hn
      | a :: r, hs, _, h =>
        have hs : adT 2 a (ctT i.one) :: r = s' := hs
        subst hs
        have ha := h.ok a (List.mem_cons_self ..)
        refine GS.cons ⟨okN_ad (.inl rfl) ha.1 (okN_ct _), rt_ad (.inl rfl) ha.2 (rt_ct q1) ha.1 (okN_ct _)⟩ (fun x hx => h.ok x (List.mem_cons_of_mem _ hx)) (fun m => ?_) (fun m => ?_)
        · have := h.nets m; have := cnt_ad 2 a (ctT i.one) m; have := cnt_ct i.one m; simp at *; omega
        · have := h.wt m; have := w_ad 2 a (ctT i.one) m; have := w_ct i.one m; simp at *; omega
    · rw [e] at hs hn
      obtain ⟨q1, q2⟩ := okX_ct hi (by omega)
      match s, hs, hn, h with
      | [], _, hn, _ => simp [ndT] at hn
      | a :: r, hs, _, h =>
        have hs : adT 3 a (ctT i.one) :: r = s' := hs
        subst hs
        have ha := h.ok a (List.mem_cons_self ..)
        refine GS.cons ⟨okN_ad (.inr rfl) ha.1 (okN_ct _), rt_ad (.inr rfl) ha.2 (rt_ct q1) ha.1 (okN_ct _)⟩ (fun x hx => h.ok x (List.mem_cons_of_mem _ hx)) (fun m => ?_) (fun m => ?_)
        · have := h.nets m; have := cnt_ad 3 a (ctT i.one) m; have := cnt_ct i.one m; simp at *; omega
        · have := h.wt m; have := w_ad 3 a (ctT i.one) m; have := w_ct i.one m; simp at *; omega
    · rw [e] at hs hn
      match s, hs, hn, h with
      | [], _, hn, _ => simp [ndT] at hn
      | [a], _, hn, _ => simp [ndT] at hn
      | a :: b :: r, hs, _, h =>
        have hs : adT 2 b a :: r = s' := hs
        subst hs
        have ha := h.ok a (by simp)
        have hb := h.ok b (by simp)
        refine GS.cons ⟨okN_ad (.inl rfl) hb.1 ha.1, rt_ad (.inl rfl) hb.2 ha.2 hb.1 ha.1⟩ (fun x hx => h.ok x (by simp [hx])) (fun m => ?_) (fun m => ?_)
        · have := h.nets m; have := cnt_ad 2 b a m; simp at *; omega
        · have := h.wt m; have := w_ad 2 b a m; simp at *; omega
    · rw [e] at hs hn
      match s, hs, hn, h with
      | [], _, hn, _ => simp [ndT] at hn
      | [a], _, hn, _ => simp [ndT] at hn
      | a :: b :: r, hs, _, h =>
        have hs : adT 3 b a :: r = s' := hs
        subst hs
        have ha := h.ok a (by simp)
        have hb := h.ok b (by simp)
        refine GS.cons ⟨okN_ad (.inr rfl) hb.1 ha.1, rt_ad (.inr rfl) hb.2 ha.2 hb.1 ha.1⟩ (fun x hx => h.ok x (by simp [hx])) (fun m => ?_) (fun m => ?_)
        · have := h.nets m; have := cnt_ad 3 b a m; simp at *; omega
        · have := h.wt m; have := w_ad 3 b a m; simp at *; omega
    · rw [e] at hs hn
      match s, hs, hn, h with
      | [], _, hn, _ => simp [ndT] at hn
      | a :: r, hs, _, h =>
        have hs : ntT a :: r = s' := hs
        subst hs
        have ha := h.ok a (List.mem_cons_self ..)
        refine GS.cons ⟨okN_nt _, rt_nt ha.2⟩ (fun x hx => h.ok x (List.mem_cons_of_mem _ hx)) (fun m => ?_) (fun m => ?_)
        · have := h.nets m; have := cnt_nt a m; simp at *; omega
        · have := h.wt m; have := w_nt a m; simp at *; omega
theorem GS.okS {j : Nat} {s : List NetT} (h : GS j s) (hj : j ≤ 1000) : OkS s := fun t ht => ⟨(h.ok t ht).1, by
  have h1 := Nat.le_trans (sum_mem (cnt 2) s t ht) (h.nets 2)
  obtain ⟨k, e, kids⟩ := t
  rw [cnt_s] at h1
  have h2 : kids.length ≤ (kids.map (cnt 1)).sum := by
    clear h1 ht
    induction kids with
    | nil => simp
    | cons x r ih =>
      obtain ⟨k', e', ks⟩ := x
      have h3 : 1 ≤ cnt 1 (.mk k' e' ks) := by have := cnt_s 0 k' e' ks; simp only [Nat.zero_add] at this; omega
      simp only [List.length_cons, List.map_cons, List.sum_cons]
      omega
  show kids.length ≤ 400000
  omega⟩
theorem GS.one {j : Nat} {s : List NetT} (h : GS j s) {t : NetT} (ht : t ∈ s) (m : Nat) : cnt m t ≤ 2 * j ∧ wN m t ≤ 5 * j := ⟨Nat.le_trans (sum_mem (cnt m) s t ht) (h.nets m), Nat.le_trans (sum_mem (wN m) s t ht) (h.wt m)⟩
/-- The net of a list. -/
def netB (xs : List InstT) : Option NetT := if xs.length ≤ 1000 then (match bk xs [] with | some [t] => if cnt (xs.length + 2) t ≤ 400 then some t else none | _ => none) else none
end Go.Proofs.YtkppcmpdghnmgaaDoor
/- BackNet of the specification. -/
namespace Go.Proofs.YtkppcmpdghnmgaaDoor
open Go.RowKit
set_option linter.unusedVariables false

set_option maxHeartbeats 1000000 in
theorem needs_s (c : Int) (w : World) : Calls Tryd.prog 15 #[.int .i64 c] w fun e w' => e = .returned (.int .i64 ((ndT c : Nat) : Int)) ∧ w' = w := by
  by_cases h1 : c = 1
  · subst h1
    go_enter Tryd.func15, Tryd.ntmps15
    go_wp2
    go_ret
    exact ⟨rfl, rfl⟩
  by_cases h4 : c = 4
  · subst h4
    go_enter Tryd.func15, Tryd.ntmps15
    go_wp2
    go_ret
    exact ⟨rfl, rfl⟩
  by_cases h5 : c = 5
  · subst h5
    go_enter Tryd.func15, Tryd.ntmps15
    go_wp2
    go_ret
    exact ⟨rfl, rfl⟩
  have i1 : (c == 1) = false := by simpa using h1
  have i4 : (c == 4) = false := by simpa using h4
  have i5 : (c == 5) = false := by simpa using h5
  have HN : Hid (ndT c = 1) := by show ndT c = 1; unfold ndT; rw [if_neg h1, if_neg (by omega)]
  clear h1 h4 h5
  go_enter Tryd.func15, Tryd.ntmps15
  go_wp2
  go_ret
  exact ⟨by rw [HN.out]; rfl, rfl⟩

/-- One instruction on the specification's stack. -/
theorem sdo_s (base n lo : Nat) (c op : Int) (ua : Option Addr) (ul uc : Nat) (ys : List ArgT) (w : World) (hul : ul = ys.length) (hv : ArgsIs w lo (.slice ua ul uc) ys) (hbig : ys.length ≤ 1048576) (hb : base ≤ w.heap.size) (a : Option Addr) (N cp : Nat) (F : List Nat) (s s' : List NetT) (hN : N = s.length) (hNl : N ≤ 1000) (hR : RowOwn w base 29 4 (NetOwn w base (n + 1)) F (.slice a N cp) s.reverse) (hnd : F.Nodup) (hO : OkS s) (hs : stp c ⟨op, ys⟩ s = some s') :
    Calls Tryd.prog 16 #[.slice a N cp, .agg #[.int .i64 c, .int .i64 op, .slice ua ul uc]] w fun e w' => SdR w base (n + 2) s'.reverse e w' := by
  unfold stp at hs
  split at hs
  case isFalse => simp at hs
  case isTrue hc =>
    simp at hs
    obtain ⟨hn, hc1, hc2⟩ := hc
    rcases (by omega : c = 1 ∨ c = 2 ∨ c = 3 ∨ c = 4 ∨ c = 5 ∨ c = 6) with rfl | rfl | rfl | rfl | rfl | rfl
    · subst hs
      show Calls _ _ _ _ fun e w' => SdR w base (n + 2) (ctT ⟨op, ys⟩ :: s).reverse e w'
      rw [List.reverse_cons]
      exact sd_1 base n lo op ua ul uc ys w hul hv hbig hb a N cp F s.reverse (by simpa using hN) hNl hR hnd
    · match s, hn, hs, hR, hO, hN with
      | [], hn, _, _, _, _ => simp [ndT] at hn
      | y :: r, _, hs, hR, hO, hN =>
        have hs : adT 2 y (ctT ⟨op, ys⟩) :: r = s' := hs
        subst hs
        rw [List.reverse_cons] at hR ⊢
        exact sd_2 base n lo op ua ul uc ys w hul hv hbig hb a N r.reverse.length cp F r.reverse y rfl (by simp at hN ⊢; omega) (by omega) hR hnd (hO y (by simp))
    · match s, hn, hs, hR, hO, hN with
      | [], hn, _, _, _, _ => simp [ndT] at hn
      | y :: r, _, hs, hR, hO, hN =>
        have hs : adT 3 y (ctT ⟨op, ys⟩) :: r = s' := hs
        subst hs
        rw [List.reverse_cons] at hR ⊢
        exact sd_3 base n lo op ua ul uc ys w hul hv hbig hb a N r.reverse.length cp F r.reverse y rfl (by simp at hN ⊢; omega) (by omega) hR hnd (hO y (by simp))
    · match s, hn, hs, hR, hO, hN with
      | [], hn, _, _, _, _ => simp [ndT] at hn
      | [_], hn, _, _, _, _ => simp [ndT] at hn
      | y :: z :: r, _, hs, hR, hO, hN =>
        have hs : adT 2 z y :: r = s' := hs
        subst hs
        rw [List.reverse_cons, List.reverse_cons] at hR
        rw [List.reverse_cons]
        exact sd_4 base n lo op ua ul uc ys w hul hv hbig hb a N (r.reverse.length + 1) r.reverse.length cp F r.reverse z y rfl (by omega) (by simp at hN ⊢; omega) (by omega) hR hnd (hO y (by simp)) (hO z (by simp))
    · match s, hn, hs, hR, hO, hN with
      | [], hn, _, _, _, _ => simp [ndT] at hn
      | [_], hn, _, _, _, _ => simp [ndT] at hn
      | y :: z :: r, _, hs, hR, hO, hN =>
        have hs : adT 3 z y :: r = s' := hs
        subst hs
        rw [List.reverse_cons, List.reverse_cons] at hR
        rw [List.reverse_cons]
        exact sd_5 base n lo op ua ul uc ys w hul hv hbig hb a N (r.reverse.length + 1) r.reverse.length cp F r.reverse z y rfl (by omega) (by simp at hN ⊢; omega) (by omega) hR hnd (hO y (by simp)) (hO z (by simp))
    · match s, hn, hs, hR, hO, hN with
      | [], hn, _, _, _, _ => simp [ndT] at hn
      | y :: r, _, hs, hR, hO, hN =>
        have hs : ntT y :: r = s' := hs
        subst hs
        rw [List.reverse_cons] at hR ⊢
        exact sd_6 base n lo op ua ul uc ys w hul hv hbig hb a N r.reverse.length cp F r.reverse y rfl (by simp at hN ⊢; omega) (by omega) hR hnd

/-- What BackNet leaves. -/
def BnR (xs : List InstT) (w : World) (e : Ending) (w' : World) : Prop :=
  match netB xs with
  | some t => ∃ (k op : Int) (a1 : Option Addr) (l1 c1 : Nat) (a2 : Option Addr) (l2 c2 : Nat) (F : List Nat), e = .returned (.tuple #[.agg #[.int .i64 k, .int .i64 op, .slice a1 l1 c1, .slice a2 l2 c2], .bool true]) ∧ NetOwn w' w.heap.size (xs.length + 2) F t [.int .i64 k, .int .i64 op, .slice a1 l1 c1, .slice a2 l2 c2] ∧ F.Nodup ∧ Below w.heap.size w w'
  | none => e = .returned (.tuple #[.agg #[.int .i64 0, .int .i64 0, .slice none 0 0, .slice none 0 0], .bool false]) ∧ Below w.heap.size w w'
/-- Where the specification's loop stands. -/
def SlAt (xs : List InstT) (w : World) (j : Nat) (a : Option Addr) (N cp : Nat) (wr : World) : Prop :=
  ∃ (F : List Nat) (s : List NetT), N = s.length ∧ RowOwn wr (w.heap.size + 1) 29 4 (NetOwn wr (w.heap.size + 1) (j + 1)) F (.slice a N cp) s.reverse ∧ F.Nodup ∧ GS j s ∧ bk xs [] = bk (xs.drop j) s ∧ s.length ≤ j ∧ Below (w.heap.size + 1) (w.alloc (.cells #[.int .i64 0, .int .i64 0, .slice none 0 0, .slice none 0 0] 29)) wr
theorem stp_len {c : Int} {e : ElemT} {s s' : List NetT} (h : stp c e s = some s') : s'.length ≤ s.length + 1 := by
  unfold stp at h
  split at h
  case isFalse => simp at h
  case isTrue hc =>
    simp at h
    subst h
    unfold doT
    split
    · simp
    · match s with
      | [] => simp
      | a :: r =>
        simp only
        split
        · simp
        · split
          · simp
          · split
            · simp
            · match r with
              | [] => simp
              | b :: q =>
                simp only
                split
                · simp
                · split <;> simp
end Go.Proofs.YtkppcmpdghnmgaaDoor
/- BackNet of the specification: the walk. -/
namespace Go.Proofs.YtkppcmpdghnmgaaDoor
open Go.RowKit
set_option linter.unusedVariables false

theorem bn_none {xs : List InstT} {w w' : World} {z : Value} (h : netB xs = none) (hz : z = .agg #[.int .i64 0, .int .i64 0, .slice none 0 0, .slice none 0 0]) (g : Below w.heap.size w w') : BnR xs w (.returned (.tuple #[z, .bool false])) w' := by
  subst hz
  unfold BnR
  rw [h]
  exact ⟨rfl, g⟩
/-- What the loop's round asks: done with nothing, or one step more. -/
theorem sl_step {xs : List InstT} {w wr : World} {j : Nat} {a : Option Addr} {N cp : Nat} {x : InstT} {lo : Nat} {ua : Option Addr} {uc : Nat} (h : SlAt xs w j a N cp wr) (hx : xs[j]? = some x) (hl : xs.length ≤ 1000) :
    (okX x = false → netB xs = none) ∧ (okX x = true → 7 ≤ x.code → netB xs = none) ∧ (okX x = true → N < ndT x.code → netB xs = none) ∧
    (okX x = true → x.code < 7 → ndT x.code ≤ N → ∀ W, Below wr.heap.size wr W → ArgsIs W lo (.slice ua x.one.args.length uc) x.one.args → x.one.args.length ≤ 1048576 → Calls Tryd.prog 16 #[.slice a N cp, .agg #[.int .i64 x.code, .int .i64 x.one.op, .slice ua x.one.args.length uc]] W fun e w' => ∃ a' N' cp', e = .returned (.slice a' N' cp') ∧ SlAt xs w (j + 1) a' N' cp' w') := by
  obtain ⟨F, s, hN, hR, hnd, hG, hb, hsj, gB⟩ := h
  have hj : j < xs.length := (List.getElem?_eq_some_iff.1 hx).1
  have hat := bk_at hx s
  have hno : bk xs [] = none → netB xs = none := fun h => by unfold netB; rw [if_pos hl, h]
  refine ⟨fun h => hno ?_, fun h h7 => hno ?_, fun h hf => hno ?_, fun h h7 hf W gW hv hbig => ?_⟩
  · rw [hb, hat, h]; rfl
  · rw [hb, hat, h]
    have : stp x.code x.one s = none := by unfold stp; rw [if_neg (by omega)]
    rw [this]; rfl
  · rw [hb, hat, h]
    have : stp x.code x.one s = none := by unfold stp; rw [if_neg (by omega)]
    rw [this]; rfl
  · have hr := okX_rng h
    obtain ⟨s', hs'⟩ : ∃ s', stp x.code x.one s = some s' := ⟨_, by unfold stp; rw [if_pos ⟨by omega, by omega, by omega⟩]⟩
    have hsz : w.heap.size + 1 ≤ wr.heap.size := by have := gB.size; simpa using this
    refine (sdo_s (w.heap.size + 1) j lo x.code x.one.op ua x.one.args.length uc x.one.args W rfl hv hbig (by have := gW.size; omega) a N cp F s s' hN (by omega) (netS_later hR gW) hnd (hG.okS (by omega)) hs').mono ?_
    rintro e w' ⟨a', m, cp', F', rfl, hm, hR', hn', g'⟩
    refine ⟨a', m, cp', rfl, F', s', by rw [hm]; simp, hR', hn', hG.step h hs', ?_, ?_, ?_⟩
    · rw [hb, hat, if_pos h, hs']
    · have := stp_len hs'; omega
    · exact (gB.trans (gW.mono hsz)).trans g'
theorem sl_done {xs : List InstT} {w wr : World} {a : Option Addr} {N cp : Nat} (h : SlAt xs w xs.length a N cp wr) (hl : xs.length ≤ 1000) :
    (N ≠ 1 → netB xs = none) ∧ (N = 1 → ∃ t g F c, a = some ⟨g, 0, none⟩ ∧ NetOwn wr (w.heap.size + 1) (xs.length + 1) F t c ∧ F.Nodup ∧ c.length = 4 ∧ (∀ i u, c[i]? = some u → wr.cell? ⟨g, i, none⟩ = some u) ∧ cnt (xs.length + 1) t ≤ 2000 ∧ wN (xs.length + 1) t ≤ 5000 ∧ cnt (xs.length + 2) t ≤ 2000 ∧ (cnt (xs.length + 2) t ≤ 400 → netB xs = some t) ∧ (¬ cnt (xs.length + 2) t ≤ 400 → netB xs = none) ∧ w.heap.size + 1 ≤ g) := by
  obtain ⟨F, s, hN, hR, hnd, hG, hb, hsj, gB⟩ := h
  rw [List.drop_length] at hb
  have hb : bk xs [] = some s := hb
  refine ⟨fun h1 => ?_, fun h1 => ?_⟩
  · unfold netB
    rw [if_pos hl, hb]
    match s, hN with
    | [], _ => rfl
    | [t], hN => simp at hN; omega
    | _ :: _ :: _, _ => rfl
  · match s, hN, hR, hG, hb with
    | [], hN, _, _, _ => simp at hN; omega
    | _ :: _ :: _, hN, _, _, _ => simp at hN; omega
    | [t], hN, hR, hG, hb =>
      obtain ⟨g, F1, f, c1, c, rfl, hR4, hFF, hNy, hcl, hcc⟩ := row4_of (xs := []) (y := t) (by simpa using hR) hnd (by simpa using hN)
      have q1 := hG.one (t := t) (by simp) (xs.length + 1)
      have q2 := hG.one (t := t) (by simp) (xs.length + 2)
      rw [hFF] at hnd
      refine ⟨t, g, f, c, rfl, hNy, (List.nodup_append.1 (List.nodup_cons.1 hnd).2).2.1, hcl, fun i u hu => by have := hcc i u hu; simpa using this, by omega, by omega, by omega, fun h4 => ?_, fun h4 => ?_, hR4.bs⟩
      · unfold netB; rw [if_pos hl, hb]; simp only; rw [if_pos h4]
      · unfold netB; rw [if_pos hl, hb]; simp only; rw [if_neg h4]
theorem cnt_grow {W : World} {base : Nat} : ∀ (n : Nat) (F : List Nat) (t : NetT) (c : List Value), NetOwn W base n F t c → ∀ m, n ≤ m → cnt m t = cnt n t
  | 0, _, _, _, h, _, _ => h.elim
  | n + 1, F, .mk k e kids, c, h, m + 1, hm => by
    obtain ⟨v, v', F1, F2, hc, rfl, h1, h2⟩ := h
    rw [cnt_s, cnt_s]
    have hk : kids.map (cnt m) = kids.map (cnt n) := by
      apply List.map_congr_left
      intro x hx
      obtain ⟨cs, F', hE, _, _⟩ := h2
      obtain ⟨i, hi⟩ := List.getElem?_of_mem hx
      obtain ⟨f, cc, _, _, _, _, _, _, _, _, hr⟩ := hE.at i x hi
      exact cnt_grow n f x cc hr m (by omega)
    rw [hk]
  | n + 1, _, _, _, _, 0, hm => by omega

theorem RowOwn.base {α : Type} {W : World} {base base' e z : Nat} {R R' : List Nat → α → List Value → Prop} {F : List Nat} {v : Value} {xs : List α} (h : RowOwn W base e z R F v xs) (hb : base' ≤ base) (hR : ∀ f x c, R f x c → R' f x c) : RowOwn W base' e z R' F v xs := by
  obtain ⟨cs, F', h1, h2, h3⟩ := h
  exact ⟨cs, F', h1.move fun f x c _ => hR f x c, own_base h2 hb, h3⟩
theorem NetOwn.base {W : World} {base base' : Nat} (hb : base' ≤ base) : ∀ (n : Nat) (F : List Nat) (t : NetT) (c : List Value), NetOwn W base n F t c → NetOwn W base' n F t c
  | 0, _, _, _, h => h.elim
  | n + 1, F, .mk k e kids, c, h => by
    obtain ⟨v, v', F1, F2, hc, rfl, h1, h2⟩ := h
    exact ⟨v, v', F1, F2, hc, rfl, RowOwn.base h1 hb fun _ _ _ h => h, RowOwn.base h2 hb fun f x c h => NetOwn.base hb n f x c h⟩
/-- A net is handed back through the result's block. -/
theorem bn_some {xs : List InstT} {w W : World} {t : NetT} {F : List Nat} {k1 o1 : Int} {p1 : Option Addr} {pl1 pc1 : Nat} {q1 : Option Addr} {ql1 qc1 : Nat} (h : netB xs = some t) (hN : NetOwn W (w.heap.size + 1) (xs.length + 1) F t [.int .i64 k1, .int .i64 o1, .slice p1 pl1 pc1, .slice q1 ql1 qc1]) (hn : F.Nodup) (g : Below w.heap.size w W) (hr : W.heap[w.heap.size]? = some (.cells #[.int .i64 0, .int .i64 0, .slice none 0 0, .slice none 0 0] 29 (0, 0))) :
    ∃ W', (storeVar 29 ⟨w.heap.size, 0, none⟩ (.agg #[.int .i64 k1, .int .i64 o1, .slice p1 pl1 pc1, .slice q1 ql1 qc1])).run Tryd.prog W = .ok () W' ∧ (W'.cell? ⟨w.heap.size, 0, none⟩ = some (.int .i64 k1) ∧ W'.cell? ⟨w.heap.size, 1, none⟩ = some (.int .i64 o1) ∧ W'.cell? ⟨w.heap.size, 2, none⟩ = some (.slice p1 pl1 pc1) ∧ W'.cell? ⟨w.heap.size, 3, none⟩ = some (.slice q1 ql1 qc1)) ∧ BnR xs w (.returned (.tuple #[.agg #[.int .i64 k1, .int .i64 o1, .slice p1 pl1 pc1, .slice q1 ql1 qc1], .bool true])) W' := by
  have k := row_set hr #[.int .i64 k1, .int .i64 o1, .slice p1 pl1 pc1, .slice q1 ql1 qc1]
  refine ⟨_, store_all hr _ _ rfl (by kernel_rfl) (by simp [Value.oneCell']), ⟨(cell_of_row _ _ _ _ _ _ k).trans rfl, (cell_of_row _ _ _ _ _ _ k).trans rfl, (cell_of_row _ _ _ _ _ _ k).trans rfl, (cell_of_row _ _ _ _ _ _ k).trans rfl⟩, ?_⟩
  unfold BnR
  rw [h]
  refine ⟨k1, o1, p1, pl1, pc1, q1, ql1, qc1, F, rfl, ?_, hn, below_setRow g (Nat.le_refl _) _⟩
  have hl := NetOwn.lt _ _ _ _ hN
  exact NetOwn.move (gb_row W w.heap.size _) (xs.length + 1) (xs.length + 2) (by omega) F t _ (fun x hx e => by simp at e; have := hl x hx; omega) (NetOwn.base (by omega) _ _ _ _ hN)

set_option maxRecDepth 10000 in
set_option maxHeartbeats 4000000 in
theorem bnet_s (v : Value) (xs : List InstT) (w : World) (lo : Nat) (hv : InstsIs w lo v xs) (hbig : xs.length + (xs.map wI).sum ≤ 1048576) :
    Calls Tryd.prog 5 #[v] w fun e w' => BnR xs w e w' := by
  obtain ⟨a, cap, rfl, hl, hx⟩ := hv
  have HX : Hid (∀ j x, xs[j]? = some x → ∃ b o cs, a = some ⟨b, o, none⟩ ∧ lo ≤ b ∧ cs.length = 3 ∧ w.rangeAt b (o + j * 3) cs ∧ InstIs w lo x cs) := hx
  have HBg : Hid (∀ x ∈ xs, x.one.args.length ≤ 1048576) := fun x hx => by have h1 := sum_mem wI xs x hx; have h2 : wI x = x.one.args.length := rfl; omega
  obtain ⟨len, HL⟩ : ∃ len, Hid (len = xs.length) := ⟨_, rfl⟩
  rw [← HL.out] at hl ⊢
  have b0 : Below w.heap.size w (w.alloc (.cells #[.int .i64 0, .int .i64 0, .slice none 0 0, .slice none 0 0] 29)) := (Below.refl _ _).alloc (Nat.le_refl _) _
  clear hx hbig
  by_cases hlen : len ≤ 1000
  case neg =>
    have i1 : (1000 : Int) < (len : Int) := by omega
    have HF : Hid (BnR xs w (.returned (.tuple #[.agg #[.int .i64 0, .int .i64 0, .slice none 0 0, .slice none 0 0], .bool false])) (w.alloc (.cells #[.int .i64 0, .int .i64 0, .slice none 0 0, .slice none 0 0] 29))) := bn_none (by unfold netB; rw [if_neg (by rw [← HL.out]; exact hlen)]) rfl b0
    clear HX HBg b0
    go_enter Tryd.func5, Tryd.ntmps5
    go_wp2
    exact bodyPost_ret (v := .tuple #[.agg #[.int .i64 0, .int .i64 0, .slice none 0 0, .slice none 0 0], .bool false]) (by simp [results, Tryd.results5, go_sem]) rfl HF.out
  have i0 : ¬ ((1000 : Int) < (len : Int)) := by omega
  have HST : Hid (SlAt xs w 0 (some ⟨w.heap.size + 1, 0, none⟩) 0 0 ((w.alloc (.cells #[.int .i64 0, .int .i64 0, .slice none 0 0, .slice none 0 0] 29)).alloc (.cells #[] 29))) := by
    have hm := World.ownsRow_made (base := w.heap.size + 1) (e := 29) (size := 4) (w.alloc (.cells #[.int .i64 0, .int .i64 0, .slice none 0 0, .slice none 0 0] 29)) #[] 0 (by simp) (by unfold maxLen; omega) rfl
    have hs : (w.alloc (.cells #[.int .i64 0, .int .i64 0, .slice none 0 0, .slice none 0 0] 29)).heap.size = w.heap.size + 1 := by simp
    rw [hs] at hm
    exact ⟨[w.heap.size + 1], [], rfl, ⟨[], [], .nil, hm, rfl⟩, by simp, GS.nil, rfl, by simp, (Below.refl _ _).alloc (by simp) _⟩
  have HNone : Hid (netB xs = none → ∀ W, Below w.heap.size w W → W.heap[w.heap.size]? = some (.cells #[.int .i64 0, .int .i64 0, .slice none 0 0, .slice none 0 0] 29 (0, 0)) → ∃ W', (storeVar 29 ⟨w.heap.size, 0, none⟩ (.agg #[.int .i64 0, .int .i64 0, .slice none 0 0, .slice none 0 0])).run Tryd.prog W = .ok () W' ∧ (W'.cell? ⟨w.heap.size, 0, none⟩ = some (.int .i64 0) ∧ W'.cell? ⟨w.heap.size, 1, none⟩ = some (.int .i64 0) ∧ W'.cell? ⟨w.heap.size, 2, none⟩ = some (.slice none 0 0) ∧ W'.cell? ⟨w.heap.size, 3, none⟩ = some (.slice none 0 0)) ∧ BnR xs w (.returned (.tuple #[.agg #[.int .i64 0, .int .i64 0, .slice none 0 0, .slice none 0 0], .bool false])) W') := fun hno W gW hr => by
    have k := row_set hr #[.int .i64 0, .int .i64 0, .slice none 0 0, .slice none 0 0]
    exact ⟨_, store_all hr _ _ rfl (by kernel_rfl) (by simp [Value.oneCell']), ⟨(cell_of_row _ _ _ _ _ _ k).trans rfl, (cell_of_row _ _ _ _ _ _ k).trans rfl, (cell_of_row _ _ _ _ _ _ k).trans rfl, (cell_of_row _ _ _ _ _ _ k).trans rfl⟩, bn_none hno rfl (below_setRow gW (Nat.le_refl _) _)⟩
  have HZr : Hid (∀ j sa N cp wr, SlAt xs w j sa N cp wr → Below w.heap.size w wr ∧ wr.heap[w.heap.size]? = some (.cells #[.int .i64 0, .int .i64 0, .slice none 0 0, .slice none 0 0] 29 (0, 0))) := fun j sa N cp wr hS => by
    obtain ⟨F, s, -, -, -, -, -, -, gB⟩ := hS
    exact ⟨b0.trans (gB.mono (by omega)), (gB.block _ (by omega)).trans (heap_alloc_last w _)⟩
  go_enter Tryd.func5, Tryd.ntmps5
  go_wp2
  go_loopg [4, 5] len (fun gg sv i wr => ∃ (j N cp : Nat) (sa : Option Addr), j + gg = len ∧ i = .int .i64 j ∧ sv = .slice sa N cp ∧ N ≤ 1000 ∧ Hid (SlAt xs w j sa N cp wr))
  case atStart => exact ⟨0, 0, 0, some ⟨w.heap.size + 1, 0, none⟩, by omega, rfl, rfl, by omega, HST⟩
  case round =>
    clear HST
    obtain ⟨j, N, cp, sa, hn, rfl, rfl, hN1, HS⟩ := hrel
    obtain ⟨gW, rW⟩ := HZr.out _ _ _ _ _ HS.out
    by_cases hlt : j < len
    · have i1 : (j : Int) < (len : Int) := by omega
      have i3 : (0 : Int) ≤ (j : Int) := by omega
      obtain ⟨x, hxn⟩ : ∃ x, xs[j]? = some x := ⟨_, List.getElem?_eq_getElem (by have := HL.out; omega)⟩
      obtain ⟨bk', o, cs, rfl, hlo, hcs, hrg, u, rfl, hR⟩ := HX.out j x hxn
      have hR0 := hR
      obtain ⟨ua, uc, rfl, -, -⟩ := hR
      have c40 : wr.cell? ⟨bk', o + j * 3, none⟩ = some (.int .i64 x.code) := by have := (Keeps.of_below gW 0) _ _ _ (Nat.zero_le _) (hrg 0 _ rfl); simpa using this
      have HLd : Hid (∀ W, Below w.heap.size w W → (loadVar 46 ⟨bk', o + j * 3, none⟩).run Tryd.prog W = .ok (.agg #[.int .i64 x.code, .int .i64 x.one.op, .slice ua x.one.args.length uc]) W) := fun W g => run_loadVar_mid W bk' (o + j * 3) 46 [.int .i64 x.code, .int .i64 x.one.op, .slice ua x.one.args.length uc] _ (fun i c hi => (Keeps.of_below g 0) _ _ _ (Nat.zero_le _) (hrg i c hi)) Tryd.underlying46 rfl (by kernel_rfl)
      have HOk : Hid (∀ W, Below w.heap.size w W → Calls Tryd.prog 14 #[.agg #[.int .i64 x.code, .int .i64 x.one.op, .slice ua x.one.args.length uc]] W fun e w' => e = .returned (.bool (okX x)) ∧ Below W.heap.size W w') := fun W g => ok_s x.code x.one.op ua x.one.args x.one.args.length uc rfl W (sl_of (argsIs_move (Keeps.of_below g lo) (Nat.le_refl _) hR0)).2
      obtain ⟨t1, t2, t3, t4⟩ := sl_step (lo := lo) (ua := ua) (uc := uc) HS.out hxn (by have := HL.out; omega)
      have HT1 : Hid (okX x = false → netB xs = none) := t1
      have HT2 : Hid (okX x = true → 7 ≤ x.code → netB xs = none) := t2
      have HT3 : Hid (okX x = true → N < ndT x.code → netB xs = none) := t3
      have HT4 : Hid (okX x = true → x.code < 7 → ndT x.code ≤ N → ∀ W, Below wr.heap.size wr W → Calls Tryd.prog 16 #[.slice sa N cp, .agg #[.int .i64 x.code, .int .i64 x.one.op, .slice ua x.one.args.length uc]] W fun e w' => ∃ a' N' cp', e = .returned (.slice a' N' cp') ∧ SlAt xs w (j + 1) a' N' cp' w') := fun q1 q2 q3 W g => t4 q1 q2 q3 W g (argsIs_move (Keeps.of_below (gW.trans (g.mono gW.size)) lo) (Nat.le_refl _) hR0) (HBg.out x (List.mem_of_getElem? hxn))
      have hcr : Hid (okX x = true → 1 ≤ x.code ∧ x.code ≤ 11) := okX_rng
      obtain ⟨b, Hb⟩ : ∃ b, Hid (b = okX x) := ⟨_, rfl⟩
      obtain ⟨c, Hc⟩ : ∃ c, Hid (c = x.code) := ⟨_, rfl⟩
      obtain ⟨op, Hop⟩ : ∃ c, Hid (c = x.one.op) := ⟨_, rfl⟩
      obtain ⟨ul, Hul⟩ : ∃ c, Hid (c = x.one.args.length) := ⟨_, rfl⟩
      rw [← Hc.out, ← Hop.out, ← Hul.out] at HLd HOk HT4
      rw [← Hc.out] at c40 HT2 HT3 hcr
      rw [← Hb.out] at HOk HT1 HT2 HT3 HT4 hcr
      have HLd1 : Hid ((loadVar 46 ⟨bk', o + j * 3, none⟩).run Tryd.prog wr = .ok (.agg #[.int .i64 c, .int .i64 op, .slice ua ul uc]) wr) := HLd.out wr gW
      have HOk1 : Hid (Calls Tryd.prog 14 #[.agg #[.int .i64 c, .int .i64 op, .slice ua ul uc]] wr fun e w' => e = .returned (.bool b) ∧ Below wr.heap.size wr w') := HOk.out wr gW
      clear t1 t2 t3 t4 hR0 hrg hlo hcs Hb Hc Hop Hul hxn HOk HX HBg HS
      go_wp2_with (first | (refine wpL_load rfl 46 _ rfl _ _ rfl _ HLd1.out ?_) | fail)
      refine HOk1.out.mono ?_
      rintro e w1 ⟨rfl, g1⟩
      have G1 : Below w.heap.size w w1 := gW.trans (g1.mono gW.size)
      have r1 : w1.heap[w.heap.size]? = some (.cells #[.int .i64 0, .int .i64 0, .slice none 0 0, .slice none 0 0] 29 (0, 0)) := (g1.block _ (Array.getElem?_eq_some_iff.1 rW).1).trans rW
      have HG1 : Hid (Below wr.heap.size wr w1) := g1
      have HLd2 : Hid ((loadVar 46 ⟨bk', o + j * 3, none⟩).run Tryd.prog w1 = .ok (.agg #[.int .i64 c, .int .i64 op, .slice ua ul uc]) w1) := HLd.out w1 G1
      clear g1 rW gW HOk1 HLd1 HLd c40
      cases b
      · obtain ⟨W', hs, ⟨z0, z1, z2, z3⟩, hB⟩ := HNone.out (HT1.out rfl) w1 G1 r1
        have HSt : Hid ((storeVar 29 ⟨w.heap.size, 0, none⟩ (.agg #[.int .i64 0, .int .i64 0, .slice none 0 0, .slice none 0 0])).run Tryd.prog w1 = .ok () W') := hs
        have HFB : Hid (BnR xs w (.returned (.tuple #[.agg #[.int .i64 0, .int .i64 0, .slice none 0 0, .slice none 0 0], .bool false])) W') := hB
        clear hs hB HT1 HT2 HT3 HT4 HNone G1 r1 HG1 HZr hcr
        go_wp2_with (first | (refine wpL_store rfl 29 (.tmp 2) (.tmp 40) rfl w.heap.size 0 rfl (.agg #[.int .i64 0, .int .i64 0, .slice none 0 0, .slice none 0 0]) rfl W' HSt.out ?_) | fail)
        exact bodyPost_ret (v := .tuple #[.agg #[.int .i64 0, .int .i64 0, .slice none 0 0, .slice none 0 0], .bool false]) (by simp [results, Tryd.results5, go_sem, z0, z1, z2, z3]) rfl HFB.out
      by_cases h7 : 7 ≤ c
      · have i7 : (7 : Int) ≤ c := h7
        obtain ⟨W', hs, ⟨z0, z1, z2, z3⟩, hB⟩ := HNone.out (HT2.out rfl h7) w1 G1 r1
        have HSt : Hid ((storeVar 29 ⟨w.heap.size, 0, none⟩ (.agg #[.int .i64 0, .int .i64 0, .slice none 0 0, .slice none 0 0])).run Tryd.prog w1 = .ok () W') := hs
        have HFB : Hid (BnR xs w (.returned (.tuple #[.agg #[.int .i64 0, .int .i64 0, .slice none 0 0, .slice none 0 0], .bool false])) W') := hB
        clear hs hB HT1 HT2 HT3 HT4 HNone G1 r1 HG1 HZr hcr h7
        go_wp2_with (first | (refine wpL_store rfl 29 (.tmp 2) (.tmp 40) rfl w.heap.size 0 rfl (.agg #[.int .i64 0, .int .i64 0, .slice none 0 0, .slice none 0 0]) rfl W' HSt.out ?_) | fail)
        exact bodyPost_ret (v := .tuple #[.agg #[.int .i64 0, .int .i64 0, .slice none 0 0, .slice none 0 0], .bool false]) (by simp [results, Tryd.results5, go_sem, z0, z1, z2, z3]) rfl HFB.out
      have i7 : ¬ ((7 : Int) ≤ c) := h7
      obtain ⟨nd, Hnd⟩ : ∃ nd, Hid (nd = ndT c) := ⟨_, rfl⟩
      have HNd : Hid (Calls Tryd.prog 15 #[.int .i64 c] w1 fun e w' => e = .returned (.int .i64 (nd : Int)) ∧ w' = w1) := by
        show Calls _ _ _ _ _
        rw [Hnd.out]; exact needs_s c w1
      rw [← Hnd.out] at HT3 HT4
      clear HT1 HT2 h7
      go_wp2_with fail
      refine HNd.out.mono ?_
      rintro e w9 ⟨rfl, rfl⟩
      by_cases hf : N < nd
      · have i8 : (N : Int) < (nd : Int) := by omega
        obtain ⟨W', hs, ⟨z0, z1, z2, z3⟩, hB⟩ := HNone.out (HT3.out (by first | rfl | trivial) hf) w9 G1 r1
        have HSt : Hid ((storeVar 29 ⟨w.heap.size, 0, none⟩ (.agg #[.int .i64 0, .int .i64 0, .slice none 0 0, .slice none 0 0])).run Tryd.prog w9 = .ok () W') := hs
        have HFB : Hid (BnR xs w (.returned (.tuple #[.agg #[.int .i64 0, .int .i64 0, .slice none 0 0, .slice none 0 0], .bool false])) W') := hB
        clear hs hB HT3 HT4 HNone G1 r1 HG1 HZr hcr HNd
        go_wp2_with (first | (refine wpL_store rfl 29 (.tmp 2) (.tmp 40) rfl w.heap.size 0 rfl (.agg #[.int .i64 0, .int .i64 0, .slice none 0 0, .slice none 0 0]) rfl W' HSt.out ?_) | fail)
        exact bodyPost_ret (v := .tuple #[.agg #[.int .i64 0, .int .i64 0, .slice none 0 0, .slice none 0 0], .bool false]) (by simp [results, Tryd.results5, go_sem, z0, z1, z2, z3]) rfl HFB.out
      have i8 : ¬ ((N : Int) < (nd : Int)) := by omega
      have HDo : Hid (Calls Tryd.prog 16 #[.slice sa N cp, .agg #[.int .i64 c, .int .i64 op, .slice ua ul uc]] w9 fun e w' => ∃ a' N' cp', e = .returned (.slice a' N' cp') ∧ SlAt xs w (j + 1) a' N' cp' w') := HT4.out (by first | rfl | trivial) (by omega) (by omega) w9 HG1.out
      clear HT3 HT4 HNd hf
      go_wp2_with (first | (refine wpL_load rfl 46 _ rfl _ _ rfl _ HLd2.out ?_) | fail)
      refine HDo.out.mono ?_
      rintro e w3 ⟨a', N', cp', rfl, hS3⟩
      have HS3 : Hid (SlAt xs w (j + 1) a' N' cp' w3) := hS3
      have hN3 : N' ≤ 1000 := by obtain ⟨F, s, e1, _, _, _, _, e2, _⟩ := hS3; omega
      clear hS3 HDo HLd2 G1 r1 HG1
      go_wp2
      go_roundg (gk - 1)
      case measure => omega
      case rel => exact ⟨j + 1, N', cp', a', by omega, by simp, rfl, hN3, HS3⟩
    · have i1 : ¬ ((j : Int) < (len : Int)) := by omega
      have hjl : j = xs.length := by have := HL.out; omega
      obtain ⟨d1, d2⟩ := sl_done (by rw [← hjl]; exact HS.out) (by have := HL.out; omega)
      clear hjl
      by_cases h1 : N = 1
      case neg =>
        have i4 : ((N : Int) == 1) = false := by simp; omega
        have i5 : ((N : Int) != 1) = true := by simp; omega
        obtain ⟨W', hs, ⟨z0, z1, z2, z3⟩, hB⟩ := HNone.out (d1 h1) wr gW rW
        have HSt : Hid ((storeVar 29 ⟨w.heap.size, 0, none⟩ (.agg #[.int .i64 0, .int .i64 0, .slice none 0 0, .slice none 0 0])).run Tryd.prog wr = .ok () W') := hs
        have HFB : Hid (BnR xs w (.returned (.tuple #[.agg #[.int .i64 0, .int .i64 0, .slice none 0 0, .slice none 0 0], .bool false])) W') := hB
        clear hs hB HNone gW rW HZr HS d1 d2 h1 HX HBg
        go_wp2_with (first | (refine wpL_store rfl 29 (.tmp 2) (.tmp 57) rfl w.heap.size 0 rfl (.agg #[.int .i64 0, .int .i64 0, .slice none 0 0, .slice none 0 0]) rfl W' HSt.out ?_) | fail)
        exact bodyPost_ret (v := .tuple #[.agg #[.int .i64 0, .int .i64 0, .slice none 0 0, .slice none 0 0], .bool false]) (by simp [results, Tryd.results5, go_sem, z0, z1, z2, z3]) rfl HFB.out
      obtain ⟨t, g, F, c, rfl, hNy, hFn, hcl, hcc, hb1, hb2, hb3, hy, hno, hgb⟩ := d2 h1
      subst h1
      obtain ⟨o1, p1, pl1, pc1, q1, ql1, qc1, rfl, -⟩ := hNy.cells
      obtain ⟨k1, Hk1⟩ : ∃ k, Hid (k = nkd t) := ⟨_, rfl⟩
      rw [← Hk1.out] at hNy hcc
      have hcg : cnt (xs.length + 2) t = cnt (xs.length + 1) t := cnt_grow _ _ _ _ hNy _ (by omega)
      rw [hcg] at hy hno
      have HLt : Hid (∀ W, Below wr.heap.size wr W → (loadVar 29 ⟨g, 0, none⟩).run Tryd.prog W = .ok (.agg #[.int .i64 k1, .int .i64 o1, .slice p1 pl1 pc1, .slice q1 ql1 qc1]) W) := fun W gg => ld4 (fun i u hu => (Keeps.of_below gg 0) _ _ _ (Nat.zero_le _) (by rw [Nat.zero_add]; exact hcc i u hu))
      have HSz : Hid (Calls Tryd.prog 17 #[.agg #[.int .i64 k1, .int .i64 o1, .slice p1 pl1 pc1, .slice q1 ql1 qc1]] wr fun r w' => r = .returned (.int .i64 (cnt (xs.length + 1) t : Nat)) ∧ Below wr.heap.size wr w') := ss_net (xs.length + 1) t _ wr 0 (NetOwn.is (Nat.zero_le _) _ _ _ _ hNy) (by show cnt (xs.length + 1) t ≤ _; omega)
      have HNy : Hid (NetOwn wr (w.heap.size + 1) (xs.length + 1) F t [.int .i64 k1, .int .i64 o1, .slice p1 pl1 pc1, .slice q1 ql1 qc1] ∧ F.Nodup) := ⟨hNy, hFn⟩
      have HY : Hid (cnt (xs.length + 1) t ≤ 400 → netB xs = some t) := hy
      have HNo : Hid (¬ cnt (xs.length + 1) t ≤ 400 → netB xs = none) := hno
      obtain ⟨q, Hq⟩ : ∃ q, Hid (q = cnt (xs.length + 1) t) := ⟨_, rfl⟩
      rw [← Hq.out] at HSz HY HNo hb1
      have HL1 : Hid ((loadVar 29 ⟨g, 0, none⟩).run Tryd.prog wr = .ok (.agg #[.int .i64 k1, .int .i64 o1, .slice p1 pl1 pc1, .slice q1 ql1 qc1]) wr) := HLt.out wr (Below.refl _ _)
      have m0 : wr.cell? ⟨g, 0, none⟩ = some (.int .i64 k1) := hcc 0 _ rfl
      have m1 : wr.cell? ⟨g, 1, none⟩ = some (.int .i64 o1) := hcc 1 _ rfl
      have m2 : wr.cell? ⟨g, 2, none⟩ = some (.slice p1 pl1 pc1) := hcc 2 _ rfl
      have m3 : wr.cell? ⟨g, 3, none⟩ = some (.slice q1 ql1 qc1) := hcc 3 _ rfl
      clear hNy hFn hcl hcc hb2 hb3 hy hno hcg d1 HS HX HBg HL1
      go_wp2_with fail
      refine HSz.out.mono ?_
      rintro e w5 ⟨rfl, g5⟩
      have G5 : Below w.heap.size w w5 := gW.trans (g5.mono gW.size)
      have r5 : w5.heap[w.heap.size]? = some (.cells #[.int .i64 0, .int .i64 0, .slice none 0 0, .slice none 0 0] 29 (0, 0)) := (g5.block _ (Array.getElem?_eq_some_iff.1 rW).1).trans rW
      by_cases h4 : q ≤ 400
      · have i6 : ¬ ((400 : Int) < (q : Int)) := by omega
        obtain ⟨W', hs, ⟨z0, z1, z2, z3⟩, hB⟩ := bn_some (HY.out h4) (HNy.out.1.later (Nat.le_refl _) g5) HNy.out.2 G5 r5
        have HL5 : Hid ((loadVar 29 ⟨g, 0, none⟩).run Tryd.prog w5 = .ok (.agg #[.int .i64 k1, .int .i64 o1, .slice p1 pl1 pc1, .slice q1 ql1 qc1]) w5) := HLt.out w5 g5
        have HSt : Hid ((storeVar 29 ⟨w.heap.size, 0, none⟩ (.agg #[.int .i64 k1, .int .i64 o1, .slice p1 pl1 pc1, .slice q1 ql1 qc1])).run Tryd.prog w5 = .ok () W') := hs
        have HFB : Hid (BnR xs w (.returned (.tuple #[.agg #[.int .i64 k1, .int .i64 o1, .slice p1 pl1 pc1, .slice q1 ql1 qc1], .bool true])) W') := hB
        clear hs hB HNone gW rW HZr HY HNo HNy HLt G5 r5 g5 HSz h4 m0 m1 m2 m3
        go_wp2_with (first | (refine wpL_load rfl 29 (.tmp 59) rfl g 0 rfl (.agg #[.int .i64 k1, .int .i64 o1, .slice p1 pl1 pc1, .slice q1 ql1 qc1]) HL5.out ?_) | (refine wpL_store rfl 29 (.tmp 2) (.tmp 60) rfl w.heap.size 0 rfl (.agg #[.int .i64 k1, .int .i64 o1, .slice p1 pl1 pc1, .slice q1 ql1 qc1]) rfl W' HSt.out ?_) | fail)
        exact bodyPost_ret (v := .tuple #[.agg #[.int .i64 k1, .int .i64 o1, .slice p1 pl1 pc1, .slice q1 ql1 qc1], .bool true]) (by simp [results, Tryd.results5, go_sem, z0, z1, z2, z3]) rfl HFB.out
      · have i6 : (400 : Int) < (q : Int) := by omega
        obtain ⟨W', hs, ⟨z0, z1, z2, z3⟩, hB⟩ := HNone.out (HNo.out h4) w5 G5 r5
        have HSt : Hid ((storeVar 29 ⟨w.heap.size, 0, none⟩ (.agg #[.int .i64 0, .int .i64 0, .slice none 0 0, .slice none 0 0])).run Tryd.prog w5 = .ok () W') := hs
        have HFB : Hid (BnR xs w (.returned (.tuple #[.agg #[.int .i64 0, .int .i64 0, .slice none 0 0, .slice none 0 0], .bool false])) W') := hB
        clear hs hB HNone gW rW HZr HY HNo HNy HLt G5 r5 g5 HSz h4 m0 m1 m2 m3
        go_wp2_with (first | (refine wpL_store rfl 29 (.tmp 2) (.tmp 57) rfl w.heap.size 0 rfl (.agg #[.int .i64 0, .int .i64 0, .slice none 0 0, .slice none 0 0]) rfl W' HSt.out ?_) | fail)
        exact bodyPost_ret (v := .tuple #[.agg #[.int .i64 0, .int .i64 0, .slice none 0 0, .slice none 0 0], .bool false]) (by simp [results, Tryd.results5, go_sem, z0, z1, z2, z3]) rfl HFB.out
end Go.Proofs.YtkppcmpdghnmgaaDoor
