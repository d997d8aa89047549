/- Texts split and joined; what is read of the pieces. -/
import Derived.Test.YtndfmgbdfcggmaaGreatDoorJc
import Derived.Test.YtndfmgbdfcggmaaGreatDoorHaM
import Derived.Lib.SplitLaws
import Derived.Lib.IndexMore
namespace Go.Proofs.YtndfmgbdfcggmaaGreatDoor
open Go.RowKit
set_option linter.unusedVariables false

/-! Split and joined; what is read of the pieces. -/
theorem hit_parts {s sub : List UInt8} {i : Nat} (h : Lib.index s sub = i) : s = s.take i ++ (sub ++ s.drop (i + sub.length)) := by
  rcases Lib.index_spec s sub with ⟨h1, _⟩ | ⟨j, h1, h2, h3, _⟩
  · omega
  · obtain rfl : j = i := by omega
    unfold Lib.occAt at h3
    rw [List.isPrefixOf_iff_prefix] at h3
    obtain ⟨t, ht⟩ := h3
    have e : s.drop (j + sub.length) = t := by rw [← List.drop_drop, ← ht, List.drop_left]
    rw [e, ht, List.take_append_drop]
/-- What was split is what is joined. -/
theorem join_split (sep : ByteArray) : ∀ (k : Nat) (s : ByteArray), Lib.splitB sep 0 k s ≠ [] ∧ Lib.join ((Lib.splitB sep 0 k s).map (·.data.toList)) sep.data.toList = s.data.toList
  | 0, s => ⟨by simp [Lib.splitB], by simp [Lib.splitB, Lib.join_one]⟩
  | k + 1, s => by
    have hB : Lib.indexB s sep = Lib.index s.data.toList sep.data.toList := rfl
    rcases (by omega : Lib.indexB s sep < 0 ∨ 0 ≤ Lib.indexB s sep) with hneg | hpos
    · have hm : Lib.indexB s sep = -1 := by have := Lib.index_ge s.data.toList sep.data.toList; rw [hB] at hneg ⊢; omega
      rw [Lib.splitB_miss _ _ _ _ hm]
      exact ⟨by simp, by simp [Lib.join_one]⟩
    · obtain ⟨i, hi⟩ := Int.eq_ofNat_of_zero_le hpos
      rw [Lib.splitB_hit _ _ _ _ i hi]
      refine ⟨by simp, ?_⟩
      obtain ⟨h1, h2⟩ := join_split sep k (s.extract (i + sep.size) s.size)
      have hp := hit_parts (hB ▸ hi : Lib.index s.data.toList sep.data.toList = i)
      have hd : (s.extract (i + sep.size) s.size).data.toList = s.data.toList.drop (i + sep.data.toList.length) := by
        rw [Lib.extract_data, ← Lib.size_eq]
        apply List.take_of_length_le
        rw [List.length_drop, ← Lib.size_eq]; exact Nat.le_refl _
      have ht : (s.extract 0 (i + 0)).data.toList = s.data.toList.take i := by
        rw [Lib.extract_data]; simp
      rw [List.map_cons, Lib.join_cons, ht]
      have e : Lib.joinTail sep.data.toList ((Lib.splitB sep 0 k (s.extract (i + sep.size) s.size)).map (·.data.toList)) = sep.data.toList ++ Lib.join ((Lib.splitB sep 0 k (s.extract (i + sep.size) s.size)).map (·.data.toList)) sep.data.toList := by
        cases hq : (Lib.splitB sep 0 k (s.extract (i + sep.size) s.size)).map (·.data.toList) with
        | nil => exact absurd (List.map_eq_nil_iff.1 hq) h1
        | cons y L => rw [Lib.join_cons]; simp [Lib.joinTail]
      rw [e, h2, hd, ← hp]
theorem index_tl (x : Arg) (c : UInt8) (g r : List UInt8) (hc : isSg c.toNat = true) : Lib.index (tl x ++ (c :: g ++ r)) (c :: g) = (tl x).length := by
  refine Lib.index_first (i := (tl x).length) (by simp) ?_ fun j hj => ?_
  · unfold Lib.occAt
    rw [List.drop_left, List.isPrefixOf_iff_prefix]
    exact List.prefix_append _ _
  · unfold Lib.occAt
    rw [List.drop_append_of_le_length (by omega), List.drop_eq_getElem_cons hj, List.cons_append, List.isPrefixOf_cons_cons]
    have := (tl_sg x _ (List.getElem_mem hj)).1
    have hne : (c == (tl x)[j]) = false := by
      rw [beq_eq_false_iff_ne]
      intro e
      rw [← e, hc] at this
      cases this
    rw [hne]; rfl
/-- The operands' part of a text is split into the operands' texts. -/
theorem split_mid (op : Int) (c : UInt8) (g : List UInt8) (hb : (btw op).data.toList = c :: g) (hc : isSg c.toNat = true) : ∀ (xs : List Arg), xs ≠ [] → ∀ s : ByteArray, s.data.toList = mid op xs → (Lib.splitB (btw op) 0 (xs.length - 1) s).map (·.data.toList) = xs.map tl
  | [], h, _, _ => absurd rfl h
  | [x], _, s, hs => by
    rw [mid_one] at hs
    simp [Lib.splitB, hs]
  | x :: y :: r, _, s, hs => by
    rw [mid_more, hb] at hs
    have hi : Lib.indexB s (btw op) = (tl x).length := by
      show Lib.index s.data.toList (btw op).data.toList = _
      rw [hs, hb]
      exact index_tl x c g _ hc
    have e : (x :: y :: r).length - 1 = (y :: r).length - 1 + 1 := by simp
    have hbs : (btw op).size = (c :: g).length := by rw [Lib.size_eq, hb]
    rw [e, Lib.splitB_hit _ _ _ _ _ hi, List.map_cons, split_mid op c g hb hc (y :: r) (by simp) _ ?_]
    · rw [List.map_cons]
      congr 1
      rw [Lib.extract_data, hs]
      simp
    · rw [Lib.extract_data, hs, hbs, ← List.drop_drop, List.drop_left, List.drop_left]
      apply List.take_of_length_le
      rw [Lib.size_eq, hs]
      simp only [List.length_append]
      omega
/-- An operand's text, read. -/
def IsTl (s : ByteArray) : Prop := ∃ x : Arg, okA x.1 x.2.1 x.2.2 = true ∧ tl x = s.data.toList
noncomputable def rdA (s : ByteArray) : Arg := @dite _ (IsTl s) (Classical.propDecidable _) (fun h => h.choose) fun _ => (0, 0, 0)
noncomputable def rdB (s : ByteArray) : Bool := @decide (IsTl s) (Classical.propDecidable _)
theorem rd_yes {s : ByteArray} {x : Arg} (h : okA x.1 x.2.1 x.2.2 = true) (e : tl x = s.data.toList) : rdA s = x ∧ rdB s = true := by
  have hx : IsTl s := ⟨x, h, e⟩
  refine ⟨?_, @decide_eq_true _ (Classical.propDecidable _) hx⟩
  unfold rdA
  rw [dif_pos hx]
  exact tl_inj hx.choose_spec.1 h (hx.choose_spec.2.trans e.symm)
theorem rd_tl {s : ByteArray} (h : rdB s = true) : okA (rdA s).1 (rdA s).2.1 (rdA s).2.2 = true ∧ tl (rdA s) = s.data.toList := by
  have h : IsTl s := @of_decide_eq_true _ (Classical.propDecidable _) h
  unfold rdA
  rw [dif_pos h]
  exact h.choose_spec
theorem rd_no {s : ByteArray} (h : rdB s = false) : rdA s = (0, 0, 0) ∧ ∀ x : Arg, okA x.1 x.2.1 x.2.2 = true → tl x ≠ s.data.toList := by
  have h : ¬ IsTl s := @of_decide_eq_false _ (Classical.propDecidable _) h
  refine ⟨?_, fun x hx e => h ⟨x, hx, e⟩⟩
  unfold rdA
  rw [dif_neg h]
/-- The pieces in which a text is read. -/
def pcs (op : Int) (r : ByteArray) : List ByteArray :=
  if (ndP op).length = 0 then [] else if (btw op).size = 0 then (if r.size = 0 then [] else [r]) else Lib.splitB (btw op) 0 (min (ndP op).length (r.size + 1) - 1) r
theorem mtc_pre {s : ByteArray} {n : Nat} (h : mtc s n = true) : s.data.toList = (ahd n).data.toList ++ s.data.toList.drop (ahd n).size ∧ (ahd n).size ≤ s.size := by
  unfold mtc at h
  simp only [Bool.and_eq_true] at h
  have h1 := h.1
  unfold Lib.hasPrefix at h1
  rw [List.isPrefixOf_iff_prefix] at h1
  obtain ⟨t, ht⟩ := h1
  rw [Lib.size_eq, Lib.size_eq, ← ht, List.drop_left]
  exact ⟨rfl, by simp⟩
theorem map_tl {L : List ByteArray} (h : L.all rdB = true) : (L.map rdA).map tl = L.map (·.data.toList) := by
  rw [List.map_map]
  apply List.map_congr_left
  intro s hs
  exact (rd_tl (List.all_eq_true.1 h s hs)).2
/-- What is read is written as it was. -/
theorem read_sound {s r : ByteArray} (hr : r.data.toList = s.data.toList.drop (ahd (opOf s)).size) (ha : (pcs (opOf s) r).all rdB = true) (hk : rtk (opOf s) ((pcs (opOf s) r).map rdA) = true) :
    etl (opOf s) ((pcs (opOf s) r).map rdA) = s.data.toList := by
  obtain ⟨ho, hl⟩ := rtk_form hk
  have hz : mtc s (opOf s) = true := by
    rcases opF_zero s 37 with h | h
    · exfalso
      have : opOf s = 0 := h
      omega
    · exact h
  have hp := (mtc_pre hz).1
  rw [← hr] at hp
  have hs := row_sort _ ho
  rw [etl_mid, hp]
  congr 1
  unfold mid
  rw [map_tl ha]
  unfold pcs at hl ⊢
  rw [if_neg (by omega)] at hl ⊢
  rcases hs.2.1 with ⟨h1, h2⟩ | ⟨h1, c, g, h2, _⟩
  · have hb : (btw (opOf s)).size = 0 := by rw [Lib.size_eq, h2]; rfl
    rw [if_pos hb] at hl ⊢
    by_cases hr0 : r.size = 0
    · rw [if_pos hr0] at hl; simp at hl; omega
    · rw [if_neg hr0]; simp [Lib.join_one]
  · have hb : (btw (opOf s)).size ≠ 0 := by rw [Lib.size_eq, h2]; simp
    rw [if_neg hb]
    exact (join_split _ _ _).2
/-- An element's text is read as it. -/
theorem read_full {s r : ByteArray} {op : Int} {xs : List Arg} (h : rtk op xs = true) (hs : s.data.toList = etl op xs) (hr : r.data.toList = s.data.toList.drop (ahd (opOf s)).size) :
    (opOf s : Int) = op ∧ (pcs op r).all rdB = true ∧ (pcs op r).map rdA = xs := by
  obtain ⟨ho, hl⟩ := rtk_form h
  have hok := rtk_oks h
  have he : s = ⟨(etl op xs).toArray⟩ := by
    apply ByteArray.ext
    rw [← hs]
  have hop : (opOf s : Int) = op := by rw [he]; exact opOf_etl h
  refine ⟨hop, ?_⟩
  rw [hop, hs, etl_mid, Lib.size_eq, List.drop_left] at hr
  have hrs := row_sort op ho
  have key : (pcs op r).map (·.data.toList) = xs.map tl := by
    unfold pcs
    rw [if_neg (by omega)]
    rcases hrs.2.1 with ⟨h1, h2⟩ | ⟨h1, c, g, h2, h3⟩
    · have hb : (btw op).size = 0 := by rw [Lib.size_eq, h2]; rfl
      rw [if_pos hb]
      match xs, hl, hok with
      | [x], _, hok =>
        rw [mid_one] at hr
        have hne := tl_ne (hok x (by simp))
        have : r.size ≠ 0 := by
          rw [Lib.size_eq, hr]
          intro e
          exact hne (List.eq_nil_of_length_eq_zero e)
        rw [if_neg this]
        simp [hr]
      | [], hl, _ => simp at hl; omega
      | _ :: _ :: _, hl, _ => simp at hl; omega
    · have hb : (btw op).size ≠ 0 := by rw [Lib.size_eq, h2]; simp
      rw [if_neg hb]
      have hn : min (ndP op).length (r.size + 1) = xs.length := by
        have hge : ∀ xs : List Arg, (∀ x ∈ xs, okA x.1 x.2.1 x.2.2 = true) → xs.length ≤ (mid op xs).length := by
          intro xs
          induction xs with
          | nil => intro _; simp
          | cons x xs ih =>
            intro hk
            have h0 : 1 ≤ (tl x).length := by
              have := tl_ne (hk x (by simp))
              cases hq : tl x with
              | nil => exact absurd hq this
              | cons a b => simp
            cases xs with
            | nil => rw [mid_one]; simpa using h0
            | cons y r =>
              have := ih fun z hz => hk z (by simp at hz ⊢; exact .inr hz)
              rw [mid_more]
              simp only [List.length_append, List.length_cons] at this ⊢
              omega
        have := hge xs hok
        rw [Lib.size_eq, hr]
        omega
      rw [hn]
      exact split_mid op c g h2 (h3 c (by rw [h2]; simp)).1 xs (by intro e; rw [e] at hl; simp at hl; omega) r hr
  have key2 : ∀ (L : List ByteArray) (xs : List Arg), (∀ x ∈ xs, okA x.1 x.2.1 x.2.2 = true) → L.map (·.data.toList) = xs.map tl → L.all rdB = true ∧ L.map rdA = xs := by
    intro L
    induction L with
    | nil =>
      intro xs _ h
      cases xs with
      | nil => exact ⟨rfl, rfl⟩
      | cons a b => simp at h
    | cons a L ih =>
      intro xs hk h
      cases xs with
      | nil => simp at h
      | cons x xs =>
        simp only [List.map_cons, List.cons.injEq] at h
        have h1 := rd_yes (hk x (by simp)) h.1.symm
        have h2 := ih xs (fun z hz => hk z (by simp [hz])) h.2
        exact ⟨by simp [h1.2, h2.1], by simp [h1.1, h2.2]⟩
  exact key2 _ _ hok key
/-- No two elements have one text. -/
theorem etl_inj {a b : Int} {xs ys : List Arg} (ha : rtk a xs = true) (hb : rtk b ys = true) (h : etl a xs = etl b ys) : a = b ∧ xs = ys := by
  have h1 := read_full (s := ⟨(etl a xs).toArray⟩) (r := ⟨((etl a xs).drop (ahd (opOf ⟨(etl a xs).toArray⟩)).size).toArray⟩) ha rfl rfl
  have h2 := read_full (s := ⟨(etl a xs).toArray⟩) (r := ⟨((etl a xs).drop (ahd (opOf ⟨(etl a xs).toArray⟩)).size).toArray⟩) hb h rfl
  have e := h1.1.symm.trans h2.1
  refine ⟨e, ?_⟩
  rw [← h1.2.2, ← h2.2.2, e]
theorem etl_le {op : Int} {xs : List Arg} (h : rtk op xs = true) : (etl op xs).length ≤ 80 ∧ etl op xs ≠ [] := by
  obtain ⟨ho, hl⟩ := rtk_form h
  have hok := rtk_oks h
  have hrs := row_sort op ho
  have h6 : (ahd op).data.toList.length ≤ 6 ∧ (btw op).data.toList.length ≤ 2 := by
    obtain ⟨n, rfl⟩ := Int.eq_ofNat_of_zero_le (by omega : 0 ≤ op)
    rcases c38 n (by omega) with rfl | rfl | rfl | rfl | rfl | rfl | rfl | rfl | rfl | rfl | rfl | rfl | rfl | rfl | rfl | rfl | rfl | rfl | rfl | rfl | rfl | rfl | rfl | rfl | rfl | rfl | rfl | rfl | rfl | rfl | rfl | rfl | rfl | rfl | rfl | rfl | rfl | rfl
    all_goals decide
  rw [etl_mid, List.length_append]
  match xs, hl, hok with
  | [], hl, _ => simp at hl; omega
  | [x], _, hok =>
    have := tl_le x
    have h0 := tl_ne (hok x (by simp))
    rw [mid_one]
    exact ⟨by omega, by simp [h0]⟩
  | [x, y], _, hok =>
    have := tl_le x
    have := tl_le y
    have h0 := tl_ne (hok x (by simp))
    rw [mid_more, mid_one]
    simp only [List.length_append]
    exact ⟨by omega, by simp [h0]⟩
  | [x, y, z], _, hok =>
    have := tl_le x
    have := tl_le y
    have := tl_le z
    have h0 := tl_ne (hok x (by simp))
    rw [mid_more, mid_more, mid_one]
    simp only [List.length_append]
    exact ⟨by omega, by simp [h0]⟩
  | _ :: _ :: _ :: _ :: _, hl, _ => simp at hl; omega
end Go.Proofs.YtndfmgbdfcggmaaGreatDoor
/- The specification's guess at an element's text, as mathematics. -/
namespace Go.Proofs.YtndfmgbdfcggmaaGreatDoor
open Go.RowKit
set_option linter.unusedVariables false

/-! The specification's guess. -/
def isC (b : UInt8) : Bool := b == 60 || b == 61 || b == 62
def cmpN : List UInt8 → Nat
  | _ :: b :: _ => if b == 61 || b == 62 then 2 else 1
  | _ => 1
/-- The sign of a test, looked for from the Op 11 - k on. -/
def cmpO (t : List UInt8) : Nat → Option Int
  | 0 => none
  | k + 1 => if t = (btw (10 - (k : Int))).data.toList then some (10 - (k : Int)) else cmpO t k
/-- The coil's word, looked for from the Op 38 - k on. -/
def coilF (l : List UInt8) : Nat → Option Int
  | 0 => none
  | k + 1 => if Lib.hasPrefix l (ahd (37 - (k : Int))).data.toList = true then some (37 - (k : Int)) else coilF l k
noncomputable def argsL (c : UInt8) (l : List UInt8) : List Arg := ((pieces c l).take 4).map fun p => rdA ⟨p.toArray⟩
noncomputable def guessC (l : List UInt8) : Int × List Arg :=
  match coilF l 17 with
  | some op => (op, argsL 44 (l.drop (ahd op).size))
  | none => if l.head? = some 47 then (2, argsL 32 l.tail) else if l.head? = some 43 then (3, argsL 58 l.tail) else if l.head? = some 45 then (4, argsL 58 l.tail) else (1, argsL 32 l)
noncomputable def guessT (l : List UInt8) (i : Nat) : Int × List Arg :=
  match cmpO ((l.drop i).take (cmpN (l.drop i))) 6 with
  | some op => (op, argsL 32 (l.take i) ++ argsL 32 (l.drop (i + cmpN (l.drop i))))
  | none => (0, [])
noncomputable def guess (l : List UInt8) : Int × List Arg :=
  match l.findIdx? isC with
  | some i => guessT l i
  | none => guessC l
end Go.Proofs.YtndfmgbdfcggmaaGreatDoor
