/- ListLine, both sides. -/
import Derived.Test.YtndfmgbdfcggmaaGreatDoorGeM
import Derived.Test.YtndfmgbdfcggmaaGreatDoorEpM
import Derived.Shelf.Strings.Builder1
namespace Go.Proofs.YtndfmgbdfcggmaaGreatDoor
open Go.RowKit Go.Shelf
open Go.Lib (decDigits itoa)
set_option linter.unusedVariables false

theorem decd_some (u : Nat) : decDigits u ≠ [] := fun h => by
  have h1 := Lib.decDigits_length u
  have h2 := Lib.nDigits_pos u
  rw [h] at h1; simp at h1; omega
theorem itoa_some (n : Int) : itoa n ≠ [] := by
  unfold itoa
  split
  · simp
  · exact decd_some _
theorem decl_some (n : Int) (p : Nat) : decL n p ≠ [] := by
  unfold decL
  split
  · simp
  · unfold cutp; simp
theorem wd_some (n : Int) : (wd n).data.toList ≠ [] := by
  unfold wd
  split
  · simp
  · split
    · simp
    · split <;> simp
theorem txt_some' {k n p : Int} (h : okA k n p = true) : (txt k n p).data.toList ≠ [] := by
  unfold txt
  rw [if_pos h]
  split
  · unfold tx; simpa using decl_some _ _
  · split
    · exact wd_some _
    · intro he
      have := congrArg List.length he
      simp only [ByteArray.data_append, Array.toList_append, List.length_append, List.length_nil] at this
      have h2 : (tx (itoa n)).data.toList = itoa n := by unfold tx; simp
      rw [h2] at this
      have := List.length_pos_iff.2 (itoa_some n)
      omega
theorem ppx_okA {c : Nat} {x : Int × Int × Int} (h : pp c x = true) : okA x.1 x.2.1 x.2.2 = true := by
  cases ho : okA x.1 x.2.1 x.2.2 with
  | true => rfl
  | false => simp [pp, ho] at h
theorem tkx_okA {l : List Nat} {xs : List Arg} (h : tk l xs = true) : ∀ (j : Nat) (x : Arg), xs[j]? = some x → okA x.1 x.2.1 x.2.2 = true := by
  intro j x hx
  unfold tk at h
  simp only [Bool.and_eq_true, List.all_eq_true] at h
  have hj : j < xs.length := (List.getElem?_eq_some_iff.1 hx).1
  have := h.2 j (List.mem_range.2 hj)
  have e : xs.getD j (0, 0, 0) = x := by rw [List.getD_eq_getElem?_getD, hx]; rfl
  rw [e] at this
  exact ppx_okA this
theorem rtkx_okA {op : Int} {xs : List Arg} (h : rtk op xs = true) : ∀ (j : Nat) (x : Arg), xs[j]? = some x → okA x.1 x.2.1 x.2.2 = true := by
  unfold rtk at h
  rcases Bool.or_eq_true _ _ ▸ h with h | h
  · exact tkx_okA h
  · exact tkx_okA h
theorem join_some {x : List UInt8} {r : List (List UInt8)} {s : List UInt8} (h : x ≠ []) : Lib.join (x :: r) s ≠ [] := by
  cases r with
  | nil => simpa [Lib.join] using h
  | cons y r => simp [Lib.join, h]
theorem etx_some {op : Int} {xs : List Arg} (h : rtk op xs = true) : (etx op xs).toList ≠ [] := by
  unfold etx
  rw [if_pos h, Lib.toList_data]
  unfold etl
  have h3 := rtk_3 h
  match xs, h, h3 with
  | [], _, h3 => simp at h3
  | x :: r, h, _ =>
    have hx := txt_some' (rtkx_okA h 0 x rfl)
    have := join_some (r := r.map tl) (s := (btw op).data.toList) (show tl x ≠ [] from hx)
    simp only [List.map_cons]
    intro he
    simp only [List.append_eq_nil_iff] at he
    exact this he.2
theorem etx_none (xs : List Arg) (h : xs.isEmpty = true) (op : Int) : etx op xs = ⟨#[]⟩ := by
  cases hr : rtk op xs with
  | true =>
    have := (rtk_3 hr).1
    cases xs with
    | nil => simp at this
    | cons => simp at h
  | false => unfold etx; rw [hr]; rfl
theorem etx_max (op : Int) (xs : List Arg) : (etx op xs).size ≤ 300 := by
  unfold etx
  split
  · next h =>
    show (etl op xs).toArray.size ≤ 300
    rw [List.size_toArray]
    unfold etl
    rw [List.length_append]
    have h3 := rtk_3 h
    have h1 := join_le (xs.map tl) (btw op).data.toList (by rw [List.length_map]; exact h3.2) (fun x hx => by
      obtain ⟨y, _, rfl⟩ := List.mem_map.1 hx
      have := txt_le y.1 y.2.1 y.2.2
      rw [Lib.size_eq] at this
      exact this) (by have := btw_le op; rw [Lib.size_eq] at this; exact this)
    have h2 := ahd_size op
    rw [Lib.size_eq] at h2
    omega
  · exact Nat.zero_le _
theorem lwd_max (c : Int) : (lwd c).size ≤ 4 := by
  unfold lwd
  repeat' split
  all_goals decide

/-- The line of an instruction. -/
def lineT (c op : Int) (xs : List Arg) : ByteArray := if okI c op xs then (if c ≤ 3 ∨ c = 10 then lwd c ++ ⟨#[32]⟩ ++ etx op xs else lwd c) else ⟨#[]⟩
theorem okI_el {c op : Int} {xs : List Arg} (h : okI c op xs = true) (hc : c ≤ 3 ∨ c = 10) : rtk op xs = true := by
  unfold okI at h
  split at h
  · cases h
  · split at h
    · simp at h; exact h.2
    · split at h
      · simp at h; exact h.2
      · omega
theorem okI_no {c op : Int} {xs : List Arg} (h : okI c op xs = true) (hc : ¬ (c ≤ 3 ∨ c = 10)) : xs.isEmpty = true := by
  unfold okI at h
  rw [if_neg (fun h' => by rw [if_pos h'] at h; cases h), if_neg (by omega), if_neg (by omega)] at h
  simp at h
  simp [h.2]

set_option maxRecDepth 10000 in
set_option maxHeartbeats 4000000 in
theorem line_s (c op : Int) (a : Option Addr) (xs : List Arg) (len cap : Nat) (hlen : len = xs.length) (w : World) (hx : Sl w a xs) :
    Calls Tryz.prog 18 #[.agg #[.int .i64 c, .int .i64 op, .slice a len cap]] w fun e w' => e = .returned (.string (lineT c op xs)) ∧ Below w.heap.size w w' := by
  have b0 : Below w.heap.size w (w.alloc (.cells #[.int .i64 c, .int .i64 op, .slice a len cap] 31)) := (Below.refl _ _).alloc (Nat.le_refl _) _
  have HO : Hid (∀ W, Below w.heap.size w W → Calls Tryz.prog 9 #[.agg #[.int .i64 c, .int .i64 op, .slice a len cap]] W fun e w' => e = .returned (.bool (okI c op xs)) ∧ Below W.heap.size W w') := fun W g => ok_s c op a xs len cap hlen W (hx.later g)
  have HT : Hid (∀ W, Below w.heap.size w W → Calls Tryz.prog 45 #[.agg #[.int .i64 op, .slice a len cap]] W fun e w' => e = .returned (.string (etx op xs)) ∧ Below W.heap.size W w') := fun W g => spec_etext op a xs len cap hlen W (hx.later g)
  have HW : Hid (∀ W, Calls Tryz.prog 44 #[.int .i64 c] W fun e w' => e = .returned (.string (lwd c)) ∧ Below W.heap.size W w') := fun W => word_s c W
  have hE := etx_max op xs
  have hL := lwd_max c
  clear hlen hx
  cases hok : okI c op xs with
  | false =>
    rw [show lineT c op xs = ⟨#[]⟩ from by unfold lineT; rw [hok]; rfl]
    rw [hok] at HO
    clear hok
    go_enter Tryz.func18, Tryz.ntmps18
    go_wp2_with fail
    refine (HO.out _ b0).mono ?_
    rintro e w1 ⟨rfl, g1⟩
    have b1 := b0.trans (g1.mono b0.size)
    clear g1 b0
    go_wp2
    go_ret
    exact ⟨rfl, b1⟩
  | true =>
    rw [hok] at HO
    have x0 : (w.alloc (.cells #[.int .i64 c, .int .i64 op, .slice a len cap] 31)).cell? ⟨w.heap.size, 0, none⟩ = some (.int .i64 c) := by simp
    have x1 : (w.alloc (.cells #[.int .i64 c, .int .i64 op, .slice a len cap] 31)).cell? ⟨w.heap.size, 1, none⟩ = some (.int .i64 op) := by simp
    have x2 : (w.alloc (.cells #[.int .i64 c, .int .i64 op, .slice a len cap] 31)).cell? ⟨w.heap.size, 2, none⟩ = some (.slice a len cap) := by simp
    by_cases hc : c ≤ 3 ∨ c = 10
    · have e0 : lineT c op xs = lwd c ++ ⟨#[32]⟩ ++ etx op xs := by unfold lineT; rw [hok, if_pos rfl, if_pos hc]
      rw [e0]
      generalize etx op xs = E at HT hE ⊢
      generalize lwd c = L at HW hL ⊢
      clear hok e0
      have hLs : (L ++ (⟨#[32]⟩ : ByteArray)).size ≤ 5 := by rw [ByteArray.size_append]; have : (⟨#[32]⟩ : ByteArray).size = 1 := rfl; omega
      by_cases h3 : c ≤ 3
      case neg =>
        obtain rfl : c = 10 := by omega
        go_enter Tryz.func18, Tryz.ntmps18
        go_wp2_with fail
        refine (HO.out _ b0).mono ?_
        rintro e w1 ⟨rfl, g1⟩
        have b1 := b0.trans (g1.mono b0.size)
        have y0 := cell_later g1 x0
        have y1 := cell_later g1 x1
        have y2 := cell_later g1 x2
        have k0 := cell_regrown y0
        have k1 := cell_regrown y1
        have k2 := cell_regrown y2
        have cW : ∀ d os, Calls Tryz.prog 44 #[.int .i64 10] (Sort.grow (redrawn w1 d) os) fun e w'' => e = .returned (.string L) ∧ ∃ p : Regrown, w'' = Sort.grow (redrawn w1 p.d) p.os := fun d os => Calls.regrown_of (HW.out _)
        have cT : ∀ d os, Calls Tryz.prog 45 #[.agg #[.int .i64 op, .slice a len cap]] (Sort.grow (redrawn w1 d) os) fun e w'' => e = .returned (.string E) ∧ ∃ p : Regrown, w'' = Sort.grow (redrawn w1 p.d) p.os := fun d os => Calls.regrown_of (HT.out _ (b1.trans ((below_regrown w1 d os).mono b1.size)))
        clear g1 b0 x0 x1 x2
        go_upto_region 4 with fail
        refine wp_region_quiet_below (by kernel_rfl) (by kernel_rfl) ?_
        repeat (go_big_quiet_step (first | with_reducible exact cW _ _ | with_reducible exact cT _ _))
        refine wpQuiet_nil ?_
        intro w7 hw'
        have b7 : Below w.heap.size w w7 := by
          obtain ⟨⟨dq, osq⟩, rfl⟩ := hw'
          exact b1.trans ((below_regrown w1 dq osq).mono b1.size)
        clear hw'
        go_wp2
        go_ret
        exact ⟨rfl, b7⟩
      case pos =>
        go_enter Tryz.func18, Tryz.ntmps18
        go_wp2_with fail
        refine (HO.out _ b0).mono ?_
        rintro e w1 ⟨rfl, g1⟩
        have b1 := b0.trans (g1.mono b0.size)
        have y0 := cell_later g1 x0
        have y1 := cell_later g1 x1
        have y2 := cell_later g1 x2
        have k0 := cell_regrown y0
        have k1 := cell_regrown y1
        have k2 := cell_regrown y2
        have cW : ∀ d os, Calls Tryz.prog 44 #[.int .i64 c] (Sort.grow (redrawn w1 d) os) fun e w'' => e = .returned (.string L) ∧ ∃ p : Regrown, w'' = Sort.grow (redrawn w1 p.d) p.os := fun d os => Calls.regrown_of (HW.out _)
        have cT : ∀ d os, Calls Tryz.prog 45 #[.agg #[.int .i64 op, .slice a len cap]] (Sort.grow (redrawn w1 d) os) fun e w'' => e = .returned (.string E) ∧ ∃ p : Regrown, w'' = Sort.grow (redrawn w1 p.d) p.os := fun d os => Calls.regrown_of (HT.out _ (b1.trans ((below_regrown w1 d os).mono b1.size)))
        clear g1 b0 x0 x1 x2 hc
        go_upto_region 4 with fail
        refine wp_region_quiet_below (by kernel_rfl) (by kernel_rfl) ?_
        repeat (go_big_quiet_step (first | with_reducible exact cW _ _ | with_reducible exact cT _ _))
        refine wpQuiet_nil ?_
        intro w7 hw'
        have b7 : Below w.heap.size w w7 := by
          obtain ⟨⟨dq, osq⟩, rfl⟩ := hw'
          exact b1.trans ((below_regrown w1 dq osq).mono b1.size)
        clear hw'
        go_wp2
        go_ret
        exact ⟨rfl, b7⟩
    · have e0 : lineT c op xs = lwd c := by unfold lineT; rw [hok, if_pos rfl, if_neg hc]
      rw [e0]
      generalize lwd c = L at HW hL ⊢
      have n3 : ¬ (c ≤ 3) := by omega
      have n10 : (c == 10) = false := by simp; omega
      clear hok e0 hc HT
      go_enter Tryz.func18, Tryz.ntmps18
      go_wp2_with fail
      refine (HO.out _ b0).mono ?_
      rintro e w1 ⟨rfl, g1⟩
      have b1 := b0.trans (g1.mono b0.size)
      have y0 := cell_later g1 x0
      clear g1 b0 x0 x1 x2
      go_wp2_with fail
      refine (HW.out _).mono ?_
      rintro e w2 ⟨rfl, g2⟩
      have b2 := b1.trans (g2.mono b1.size)
      clear g2 b1 y0
      go_wp2
      go_ret
      exact ⟨rfl, b2⟩

set_option maxRecDepth 10000 in
set_option maxHeartbeats 4000000 in
theorem line_i (c op : Int) (a : Option Addr) (xs : List Arg) (len cap : Nat) (hlen : len = xs.length) (w : World) (hT : Tabs w) (hL : LT w) (hx : Sl w a xs) :
    Calls Tryz.prog 16 #[.agg #[.int .i64 c, .int .i64 op, .slice a len cap]] w fun e w' => e = .returned (.string (lineT c op xs)) ∧ Below w.heap.size w w' := by
  have b0 : Below w.heap.size w (w.alloc (.cells #[.int .i64 c, .int .i64 op, .slice a len cap] 31)) := (Below.refl _ _).alloc (Nat.le_refl _) _
  have HO : Hid (∀ W, Below w.heap.size w W → Calls Tryz.prog 15 #[.agg #[.int .i64 c, .int .i64 op, .slice a len cap]] W fun e w' => e = .returned (.bool (okI c op xs)) ∧ Below W.heap.size W w') := fun W g => ok_i c op a xs len cap hlen W (hT.k.later g) (hL.later g) (hx.later g)
  have HT : Hid (∀ W, Below w.heap.size w W → Calls Tryz.prog 41 #[.agg #[.int .i64 op, .slice a len cap]] W fun e w' => e = .returned (.string (etx op xs)) ∧ Below W.heap.size W w') := fun W g => impl_etext op a xs len cap hlen W (hT.later g) (hx.later g)
  have HW : Hid (∀ W, Below w.heap.size w W → Calls Tryz.prog 39 #[.int .i64 c] W fun e w' => e = .returned (.string (lwd c)) ∧ Below W.heap.size W w') := fun W g => word_i c W (hL.later g)
  have hE := etx_max op xs
  have hLm := lwd_max c
  clear hlen hx hT hL
  cases hok : okI c op xs with
  | false =>
    rw [show lineT c op xs = ⟨#[]⟩ from by unfold lineT; rw [hok]; rfl]
    rw [hok] at HO
    clear hok
    go_enter Tryz.func16, Tryz.ntmps16
    go_wp2_with fail
    refine (HO.out _ b0).mono ?_
    rintro e w1 ⟨rfl, g1⟩
    have b1 := b0.trans (g1.mono b0.size)
    clear g1 b0
    go_wp2
    go_ret
    exact ⟨rfl, b1⟩
  | true =>
    rw [hok] at HO
    have x0 : (w.alloc (.cells #[.int .i64 c, .int .i64 op, .slice a len cap] 31)).cell? ⟨w.heap.size, 0, none⟩ = some (.int .i64 c) := by simp
    have x1 : (w.alloc (.cells #[.int .i64 c, .int .i64 op, .slice a len cap] 31)).cell? ⟨w.heap.size, 1, none⟩ = some (.int .i64 op) := by simp
    have x2 : (w.alloc (.cells #[.int .i64 c, .int .i64 op, .slice a len cap] 31)).cell? ⟨w.heap.size, 2, none⟩ = some (.slice a len cap) := by simp
    obtain ⟨R, HR⟩ : ∃ R, Hid (R = lineT c op xs) := ⟨_, rfl⟩
    rw [← HR.out]
    have HF : Hid ((∃ _ : (etx op xs).toList ≠ [], R = lwd c ++ ⟨#[32]⟩ ++ etx op xs) ∨ ((etx op xs) = ⟨#[]⟩ ∧ R = lwd c)) := by
      by_cases hc : c ≤ 3 ∨ c = 10
      · exact .inl ⟨etx_some (okI_el hok hc), by rw [HR.out]; unfold lineT; rw [hok, if_pos rfl, if_pos hc]⟩
      · exact .inr ⟨etx_none xs (okI_no hok hc) op, by rw [HR.out]; unfold lineT; rw [hok, if_pos rfl, if_neg hc]⟩
    clear HR hok
    generalize etx op xs = E at HT hE HF
    generalize lwd c = L at HW hLm HF
    go_enter Tryz.func16, Tryz.ntmps16
    go_wp2_with fail
    refine (HO.out _ b0).mono ?_
    rintro e w1 ⟨rfl, g1⟩
    have b1 := b0.trans (g1.mono b0.size)
    have k0 := cell_regrown (cell_later g1 x0)
    have k1 := cell_regrown (cell_later g1 x1)
    have k2 := cell_regrown (cell_later g1 x2)
    have cW : ∀ d os, Calls Tryz.prog 39 #[.int .i64 c] (Sort.grow (redrawn w1 d) os) fun e w'' => e = .returned (.string L) ∧ ∃ p : Regrown, w'' = Sort.grow (redrawn w1 p.d) p.os := fun d os => Calls.regrown_of (HW.out _ (b1.trans ((below_regrown w1 d os).mono b1.size)))
    have cT : ∀ d os, Calls Tryz.prog 41 #[.agg #[.int .i64 op, .slice a len cap]] (Sort.grow (redrawn w1 d) os) fun e w'' => e = .returned (.string E) ∧ ∃ p : Regrown, w'' = Sort.grow (redrawn w1 p.d) p.os := fun d os => Calls.regrown_of (HT.out _ (b1.trans ((below_regrown w1 d os).mono b1.size)))
    clear g1 b0 x0 x1 x2
    go_upto_region 3 with fail
    refine wp_region_quiet_below (by kernel_rfl) (by kernel_rfl) ?_
    repeat (go_big_quiet_step (first | with_reducible exact cW _ _ | with_reducible exact cT _ _))
    refine wpQuiet_nil ?_
    intro w7 hw'
    have b7 : Below w.heap.size w w7 := by
      obtain ⟨⟨dq, osq⟩, rfl⟩ := hw'
      exact b1.trans ((below_regrown w1 dq osq).mono b1.size)
    clear hw' cW cT k0 k1 k2 b1
    rcases HF.out with ⟨hne, rfl⟩ | ⟨rfl, rfl⟩
    · have hs : (E.toList == []) = false := by
        cases h : E.toList with
        | nil => exact absurd h hne
        | cons _ _ => rfl
      have hLs : (L ++ (⟨#[32]⟩ : ByteArray)).size ≤ 5 := by rw [ByteArray.size_append]; have : (⟨#[32]⟩ : ByteArray).size = 1 := rfl; omega
      clear HF hne
      go_wp2
      go_ret
      exact ⟨rfl, b7⟩
    · clear HF
      go_wp2
      go_ret
      exact ⟨rfl, b7⟩
end Go.Proofs.YtndfmgbdfcggmaaGreatDoor
/- ListText, both sides; the law FnExactListText. -/
namespace Go.Proofs.YtndfmgbdfcggmaaGreatDoor
open Go.RowKit Go.Shelf
set_option linter.unusedVariables false

def okT (x : InstT) : Bool := okI x.code x.one.op x.one.args
def lineB (x : InstT) : ByteArray := lineT x.code x.one.op x.one.args
def textLs (xs : List InstT) : List UInt8 := xs.flatMap (fun x => (lineB x).data.toList ++ [10])
/-- The text of a list. -/
def listT (xs : List InstT) : ByteArray := if xs.length ≤ 1000 ∧ ∀ x ∈ xs, okT x = true then ⟨(textLs xs).toArray⟩ else ⟨#[]⟩
theorem lineT_max (c op : Int) (xs : List Arg) : (lineT c op xs).size ≤ 305 := by
  unfold lineT
  have h1 := lwd_max c
  have h2 := etx_max op xs
  have h3 : (⟨#[32]⟩ : ByteArray).size = 1 := rfl
  split
  · split
    · rw [ByteArray.size_append, ByteArray.size_append]; omega
    · omega
  · exact Nat.zero_le _
theorem lineT_none {c op : Int} {xs : List Arg} (h : okI c op xs = false) : lineT c op xs = ⟨#[]⟩ := by unfold lineT; rw [h]; rfl
theorem ba_cat_some {a b : ByteArray} (h : a.toList ≠ []) : (a ++ b).toList ≠ [] := by
  intro he
  rw [Lib.toList_data] at h he
  simp only [ByteArray.data_append, Array.toList_append, List.append_eq_nil_iff] at he
  exact h he.1
theorem okI_in {c op : Int} {xs : List Arg} (h : okI c op xs = true) : 1 ≤ c ∧ c ≤ 11 := by
  unfold okI at h
  split at h
  · cases h
  · omega
theorem lineT_some {c op : Int} {xs : List Arg} (h : okI c op xs = true) : (lineT c op xs).toList ≠ [] := by
  have hc := okI_in h
  unfold lineT
  rw [if_pos h]
  split
  · exact ba_cat_some (ba_cat_some (lwd_some hc.1 hc.2))
  · exact lwd_some hc.1 hc.2
theorem textLs_take (xs : List InstT) (n : Nat) (x : InstT) (h : xs[n]? = some x) : textLs (xs.take (n + 1)) = textLs (xs.take n) ++ ((lineB x).data.toList ++ [10]) := by
  unfold textLs
  rw [List.take_add_one, h]; simp
theorem textLs_len (xs : List InstT) : (textLs xs).length ≤ 306 * xs.length := by
  induction xs with
  | nil => exact Nat.zero_le _
  | cons x xs ih =>
    have h1 := lineT_max x.code x.one.op x.one.args
    rw [Lib.size_eq] at h1
    have h2 : (lineB x).data.toList.length ≤ 305 := h1
    unfold textLs at ih ⊢
    rw [List.flatMap_cons, List.length_append, List.length_append, List.length_cons]
    simp only [List.length_cons, List.length_nil]
    omega

set_option maxRecDepth 10000 in
set_option maxHeartbeats 4000000 in
theorem ltext_s (v : Value) (xs : List InstT) (w : World) (lo : Nat) (hv : InstsIs w lo v xs) :
    Calls Tryz.prog 8 #[v] w fun r w' => r = .returned (.string (listT xs)) ∧ Below w.heap.size w w' := by
  obtain ⟨a, cap, rfl, hl, hx⟩ := hv
  have HX : Hid (∀ j x, xs[j]? = some x → ∃ b o cs, a = some ⟨b, o, none⟩ ∧ lo ≤ b ∧ cs.length = 3 ∧ w.rangeAt b (o + j * 3) cs ∧ (InstIs w lo) x cs) := hx
  clear hx
  obtain ⟨len, HL⟩ : ∃ len, Hid (len = xs.length) := ⟨_, rfl⟩
  obtain ⟨RES, HR⟩ : ∃ r, Hid (r = listT xs) := ⟨_, rfl⟩
  rw [← HL.out] at hl ⊢
  rw [← HR.out]
  by_cases hbig : 1000 < len
  · have i1 : (1000 : Int) < (len : Int) := by omega
    rw [show RES = ⟨#[]⟩ from by rw [HR.out]; unfold listT; rw [if_neg (by have := HL.out; omega)]]
    go_enter Tryz.func8, Tryz.ntmps8
    go_wp2
    go_ret
    exact ⟨rfl, Below.refl _ _⟩
  · have i0 : ¬ ((1000 : Int) < (len : Int)) := by omega
    go_enter Tryz.func8, Tryz.ntmps8
    go_wp2
    go_loopg [3, 4] len (fun g s i wr => ∃ (n : Nat) (O : ByteArray), n + g = len ∧ i = .int .i64 n ∧ s = .string O ∧ Hid (O = ⟨(textLs (xs.take n)).toArray⟩) ∧ O.size ≤ 400000 ∧ Below w.heap.size w wr ∧ Hid (∀ j x, j < n → xs[j]? = some x → okT x = true))
    case atStart => exact ⟨0, ⟨#[]⟩, by omega, rfl, rfl, rfl, by show 0 ≤ 400000; omega, Below.refl _ _, fun j x hj => by omega⟩
    case round =>
      obtain ⟨n, O, hn, rfl, rfl, HO, hO, hb, HS⟩ := hrel
      by_cases hlt : n < len
      · have i1 : (n : Int) < (len : Int) := by omega
        have i3 : (0 : Int) ≤ (n : Int) := by omega
        obtain ⟨⟨c, op, al⟩, hxn⟩ : ∃ x, xs[n]? = some x := ⟨_, List.getElem?_eq_getElem (by have := HL.out; omega)⟩
        obtain ⟨b, o, cs, rfl, _, hcs, hrg, hR⟩ := HX.out n _ hxn
        obtain ⟨v1, rfl, hA⟩ := hR
        obtain ⟨a1, k1, rfl, hl1, _⟩ := id hA
        simp only [] at hrg hl1 hA
        have HLd : Hid (∀ W, Below w.heap.size w W → (loadVar 31 ⟨b, o + n * 3, none⟩).run Tryz.prog W = .ok (.agg #[.int .i64 c, .int .i64 op, .slice a1 al.length k1]) W) := fun W g => run_loadVar_mid W b (o + n * 3) 31 [.int .i64 c, .int .i64 op, .slice a1 al.length k1] _ (fun i z hi => (Keeps.of_below g 0) _ _ _ (Nat.zero_le _) (hrg i z hi)) Tryz.underlying31 rfl (by kernel_rfl)
        have HOk : Hid (∀ W, Below w.heap.size w W → Calls Tryz.prog 9 #[.agg #[.int .i64 c, .int .i64 op, .slice a1 al.length k1]] W fun e w' => e = .returned (.bool (okI c op al)) ∧ Below W.heap.size W w') := fun W g => ok_s c op a1 al _ k1 rfl W (sl_of (argsIs_move (Keeps.of_below g lo) (Nat.le_refl _) hA)).2
        have HLi : Hid (∀ W, Below w.heap.size w W → Calls Tryz.prog 18 #[.agg #[.int .i64 c, .int .i64 op, .slice a1 al.length k1]] W fun e w' => e = .returned (.string (lineT c op al)) ∧ Below W.heap.size W w') := fun W g => line_s c op a1 al _ k1 rfl W (sl_of (argsIs_move (Keeps.of_below g lo) (Nat.le_refl _) hA)).2
        have HB : Hid (Below w.heap.size w wr) := hb
        have HXn : Hid (xs[n]? = some ⟨c, op, al⟩) := hxn
        have HL1 : Hid ((loadVar 31 ⟨b, o + n * 3, none⟩).run Tryz.prog wr = .ok (.agg #[.int .i64 c, .int .i64 op, .slice a1 al.length k1]) wr) := HLd.out wr hb
        have hLs := lineT_max c op al
        have HTE : Hid (textLs (xs.take (n + 1)) = textLs (xs.take n) ++ ((lineT c op al).data.toList ++ [10])) := textLs_take xs n _ hxn
        have hlenB := textLs_len (xs.take (n + 1))
        rw [List.length_take] at hlenB
        have hbnd : (textLs (xs.take (n + 1))).length ≤ 400000 := by have := HL.out; omega
        have HBd : Hid ((textLs (xs.take (n + 1))).length ≤ 400000) := hbnd
        clear hb hrg hcs hA hxn hlenB hbnd
        obtain ⟨q, Hq⟩ : ∃ q, Hid (q = okI c op al) := ⟨_, rfl⟩
        rw [← Hq.out] at HOk
        obtain ⟨L, HLL⟩ : ∃ L, Hid (L = lineT c op al) := ⟨_, rfl⟩
        rw [← HLL.out] at HLi hLs HTE
        generalize al.length = m1 at HLd HOk HLi HL1 hl1
        cases q with
        | false =>
          have HNo : Hid (RES = ⟨#[]⟩) := by
            show RES = ⟨#[]⟩
            rw [HR.out]; unfold listT
            rw [if_neg (fun h => by have := h.2 _ (List.mem_of_getElem? HXn.out); exact absurd (Hq.out.trans this) (by decide))]
          go_wp2_with (first | (refine wpL_load rfl 31 _ rfl _ _ rfl _ HL1.out ?_) | fail)
          refine (HOk.out _ HB.out).mono ?_
          rintro e w1 ⟨rfl, g1⟩
          have b1 := HB.out.trans (g1.mono HB.out.size)
          clear g1
          go_wp2
          go_ret
          exact ⟨by rw [HNo.out]; rfl, b1⟩
        | true =>
          go_wp2_with (first | (refine wpL_load rfl 31 _ rfl _ _ rfl _ HL1.out ?_) | fail)
          refine (HOk.out _ HB.out).mono ?_
          rintro e w1 ⟨rfl, g1⟩
          have HB1 : Hid (Below w.heap.size w w1) := HB.out.trans (g1.mono HB.out.size)
          have HL2 : Hid ((loadVar 31 ⟨b, o + n * 3, none⟩).run Tryz.prog w1 = .ok (.agg #[.int .i64 c, .int .i64 op, .slice a1 m1 k1]) w1) := HLd.out w1 HB1.out
          clear g1 HL1
          have hz1 : (O ++ L).size ≤ 400305 := by rw [ByteArray.size_append]; omega
          go_wp2_with (first | (refine wpL_load rfl 31 _ rfl _ _ rfl _ HL2.out ?_) | fail)
          refine (HLi.out _ HB1.out).mono ?_
          rintro e w2 ⟨rfl, g2⟩
          have b2 := HB1.out.trans (g2.mono HB1.out.size)
          have HE : Hid (O ++ L ++ ⟨#[10]⟩ = ⟨(textLs (xs.take (n + 1))).toArray⟩) := by
            rw [HTE.out, HO.out]
            apply ByteArray.ext
            simp
          have HF : Hid (∀ j x, j < n + 1 → xs[j]? = some x → okT x = true) := fun j x hj hx => by
            by_cases hjn : j = n
            · subst hjn
              have e := Option.some.inj (hx.symm.trans HXn.out)
              rw [e]; exact Hq.out.symm
            · exact HS.out j x (by omega) hx
          have HZ : Hid ((O ++ L ++ (⟨#[10]⟩ : ByteArray)).size ≤ 400000) := by
            rw [HE.out]
            show (textLs (xs.take (n + 1))).toArray.size ≤ 400000
            rw [List.size_toArray]; exact HBd.out
          clear g2 HL2
          go_wp2
          go_roundg (gk - 1)
          case measure => omega
          case rel => exact ⟨n + 1, _, by omega, by simp, rfl, HE, HZ.out, b2, HF⟩
      · have i1 : ¬ ((n : Int) < (len : Int)) := by omega
        have HE : Hid (RES = O) := by
          show RES = O
          rw [HR.out, HO.out]
          unfold listT
          rw [if_pos ⟨by have := HL.out; omega, fun x hx => by
            obtain ⟨j, hj⟩ := List.getElem?_of_mem hx
            exact HS.out j x (by have := (List.getElem?_eq_some_iff.1 hj).1; have := HL.out; omega) hj⟩, List.take_of_length_le (by have := HL.out; omega)]
        go_wp2
        go_ret
        exact ⟨by rw [HE.out]; rfl, hb⟩

theorem lbat_later {T e : TypeId} {B b : Nat} {p : Value} {bs : List Value} {W W' : World} (h : Lib.BuilderAt T e B b p bs W) (g : ∀ k, k < W.heap.size → W'.heap[k]? = W.heap[k]?) : Lib.BuilderAt T e B b p bs W' := by
  obtain ⟨h1, v, h2, h3, h4⟩ := h
  refine ⟨h1, v, (g _ (Array.getElem?_eq_some_iff.1 h2).1).trans h2, ?_, h4⟩
  obtain ⟨q1, q2 | ⟨g', cap, cur, hv, hb, hh, q3⟩⟩ := h3
  · exact ⟨q1, .inl q2⟩
  · exact ⟨q1, .inr ⟨g', cap, cur, hv, hb, (g _ (Array.getElem?_eq_some_iff.1 hh).1).trans hh, q3⟩⟩
theorem lisb_later {T e : TypeId} {B b : Nat} {bs : List Value} {W W' : World} (h : Lib.IsBuilder T e B b bs W) (g : ∀ k, k < W.heap.size → W'.heap[k]? = W.heap[k]?) : Lib.IsBuilder T e B b bs W' :=
  h.elim (fun h => .inl (lbat_later h g)) (fun h => .inr (lbat_later h g))
theorem lwrite_i (B b : Nat) (l : List UInt8) (s : ByteArray) (w : World) (h : Lib.IsBuilder 48 5 B b (Lib.byteCells l) w) (hlen : l.length + s.size ≤ 140737488355328) (hB : B ≤ w.heap.size) :
    Calls Tryz.prog 22 #[.pointer (some ⟨b, 0, none⟩), .string s] w fun e w' => e = .returned (.tuple #[.int .i64 s.size, .nilIface]) ∧ Lib.IsBuilder 48 5 B b (Lib.byteCells (l ++ s.data.toList)) w' ∧ Below B w w' := by
  have := Any.Builder_WriteString { Tryz.layJ with } Tryz.layJ_extra B b (Lib.byteCells l) s w h (by rw [Lib.byteCells_length]; exact hlen) hB
  refine this.mono fun e w' hh => ⟨hh.1, .inr ?_, hh.2.2⟩
  have e1 : Lib.byteCells (l ++ s.data.toList) = Lib.byteCells l ++ Lib.strCells s := by simp [Lib.byteCells, Lib.strCells]
  rw [e1]; exact hh.2.1
theorem lstring_i (B b : Nat) (l : List UInt8) (w : World) (h : Lib.IsBuilder 48 5 B b (Lib.byteCells l) w) (hB : B ≤ w.heap.size) :
    Calls Tryz.prog 23 #[.pointer (some ⟨b, 0, none⟩)] w fun e w' => e = .returned (.string ⟨l.toArray⟩) ∧ Below B w w' :=
  Any.Builder_String_any { Tryz.layJ with } Tryz.layJ_extra B b l w h hB
theorem mem3x {a b c : Value} (ha : a.oneCell' = true) (hb : b.oneCell' = true) (hc : c.oneCell' = true) : ∀ x ∈ [a, b, c], x.oneCell' = true := by
  intro x hx
  simp at hx
  rcases hx with rfl | rfl | rfl <;> assumption

set_option maxRecDepth 10000 in
set_option maxHeartbeats 4000000 in
theorem ltext_i (v : Value) (xs : List InstT) (w : World) (lo : Nat) (hT : Tabs w) (hLT : LT w) (hv : InstsIs w lo v xs) :
    Calls Tryz.prog 7 #[v] w fun r w' => r = .returned (.string (listT xs)) ∧ Below w.heap.size w w' := by
  obtain ⟨a, cap, rfl, hl, hx⟩ := hv
  have HX : Hid (∀ j x, xs[j]? = some x → ∃ b o cs, a = some ⟨b, o, none⟩ ∧ lo ≤ b ∧ cs.length = 3 ∧ w.rangeAt b (o + j * 3) cs ∧ (InstIs w lo) x cs) := hx
  have HT : Hid (Tabs w ∧ LT w) := ⟨hT, hLT⟩
  clear hx hT hLT
  obtain ⟨len, HL⟩ : ∃ len, Hid (len = xs.length) := ⟨_, rfl⟩
  obtain ⟨RES, HR⟩ : ∃ r, Hid (r = listT xs) := ⟨_, rfl⟩
  rw [← HL.out] at hl ⊢
  rw [← HR.out]
  by_cases hbig : 1000 < len
  · have i1 : (1000 : Int) < (len : Int) := by omega
    rw [show RES = ⟨#[]⟩ from by rw [HR.out]; unfold listT; rw [if_neg (by have := HL.out; omega)]]
    go_enter Tryz.func7, Tryz.ntmps7
    go_wp2
    go_ret
    exact ⟨rfl, Below.refl _ _⟩
  · have i0 : ¬ ((1000 : Int) < (len : Int)) := by omega
    obtain ⟨B, hB⟩ : ∃ B, B = w.heap.size := ⟨_, rfl⟩
    have HS0 : Hid (Lib.IsBuilder 48 5 B B (Lib.byteCells (textLs (xs.take 0))) (w.alloc (.cells #[.pointer none, .slice none 0 0] 48)) ∧ Below w.heap.size w (w.alloc (.cells #[.pointer none, .slice none 0 0] 48)) ∧ B ≤ (w.alloc (.cells #[.pointer none, .slice none 0 0] 48)).heap.size) :=
      ⟨.inl ⟨Nat.le_refl _, .slice none 0 0, by rw [hB]; exact heap_alloc_last w _, ⟨rfl, .inl ⟨rfl, rfl⟩⟩, by simp [Value.ownBlock]⟩, (Below.refl _ _).alloc (Nat.le_refl _) _, by rw [hB]; simp⟩
    go_enter Tryz.func7, Tryz.ntmps7
    go_wp2
    rw [← hB]
    have HBB : Hid (B = w.heap.size) := hB
    rw [← hB] at HS0
    clear hB
    go_loopg [12] len (fun g i wr => ∃ n : Nat, n + g = len ∧ i = .int .i64 n ∧ Hid (Lib.IsBuilder 48 5 B B (Lib.byteCells (textLs (xs.take n))) wr ∧ Below B w wr ∧ B ≤ wr.heap.size) ∧ Hid (∀ j x, j < n → xs[j]? = some x → okT x = true))
    case atStart => exact ⟨0, by omega, rfl, HS0, fun j x hj => by omega⟩
    case round =>
      clear HS0
      obtain ⟨n, hn, rfl, HRn, HS⟩ := hrel
      by_cases hlt : n < len
      · have i1 : (n : Int) < (len : Int) := by omega
        have i3 : (0 : Int) ≤ (n : Int) := by omega
        obtain ⟨⟨c, op, al⟩, hxn⟩ : ∃ x, xs[n]? = some x := ⟨_, List.getElem?_eq_getElem (by have := HL.out; omega)⟩
        obtain ⟨b, o, cs, rfl, _, hcs, hrg, hR⟩ := HX.out n _ hxn
        obtain ⟨v1, rfl, hA⟩ := hR
        obtain ⟨a1, k1, rfl, hl1, _⟩ := id hA
        simp only [] at hrg hl1 hA
        have hb : Below w.heap.size w wr := by rw [← HBB.out]; exact HRn.out.2.1
        have HL1 : Hid ((loadVar 31 ⟨b, o + n * 3, none⟩).run Tryz.prog wr = .ok (.agg #[.int .i64 c, .int .i64 op, .slice a1 al.length k1]) wr) := run_loadVar_mid wr b (o + n * 3) 31 [.int .i64 c, .int .i64 op, .slice a1 al.length k1] _ (fun i z hi => (Keeps.of_below hb 0) _ _ _ (Nat.zero_le _) (hrg i z hi)) Tryz.underlying31 rfl (by kernel_rfl)
        have HS1 : Hid ((storeVar 31 ⟨wr.heap.size, 0, none⟩ (.agg #[.int .i64 c, .int .i64 op, .slice a1 al.length k1])).run Tryz.prog (wr.alloc (.cells #[.int .i64 0, .int .i64 0, .slice none 0 0] 31)) = .ok () (wr.alloc (.cells #[.int .i64 c, .int .i64 op, .slice a1 al.length k1] 31))) := run_storeVar_new wr 31 _ _ (by kernel_rfl) rfl (all_one [.int .i64 c, .int .i64 op, .slice a1 al.length k1] (mem3x rfl rfl rfl))
        have gA : Below wr.heap.size wr (wr.alloc (.cells #[.int .i64 c, .int .i64 op, .slice a1 al.length k1] 31)) := (Below.refl _ _).alloc (Nat.le_refl _) _
        have bA := hb.trans (gA.mono hb.size)
        have HLi : Hid (Calls Tryz.prog 16 #[.agg #[.int .i64 c, .int .i64 op, .slice a1 al.length k1]] (wr.alloc (.cells #[.int .i64 c, .int .i64 op, .slice a1 al.length k1] 31)) fun e w' => e = .returned (.string (lineT c op al)) ∧ Below (wr.alloc (.cells #[.int .i64 c, .int .i64 op, .slice a1 al.length k1] 31)).heap.size (wr.alloc (.cells #[.int .i64 c, .int .i64 op, .slice a1 al.length k1] 31)) w') := line_i c op a1 al _ k1 rfl _ (HT.out.1.later bA) (HT.out.2.later bA) (sl_of (argsIs_move (Keeps.of_below bA lo) (Nat.le_refl _) hA)).2
        have HXn : Hid (xs[n]? = some ⟨c, op, al⟩) := hxn
        have hLs := lineT_max c op al
        have HTE : Hid (textLs (xs.take (n + 1)) = textLs (xs.take n) ++ ((lineT c op al).data.toList ++ [10])) := textLs_take xs n _ hxn
        have hlenB := textLs_len (xs.take n)
        rw [List.length_take] at hlenB
        have HBd : Hid ((textLs (xs.take n)).length ≤ 400000) := (by have := HL.out; omega : (textLs (xs.take n)).length ≤ 400000)
        have HGA : Hid (Below wr.heap.size wr (wr.alloc (.cells #[.int .i64 c, .int .i64 op, .slice a1 al.length k1] 31))) := gA
        have HFs : Hid ((okI c op al = true ∧ (lineT c op al).toList ≠ []) ∨ (okI c op al = false ∧ lineT c op al = ⟨#[]⟩)) := by
          cases h : okI c op al with
          | true => exact .inl ⟨rfl, lineT_some h⟩
          | false => exact .inr ⟨rfl, lineT_none h⟩
        obtain ⟨L, HLL⟩ : ∃ L, Hid (L = lineT c op al) := ⟨_, rfl⟩
        rw [← HLL.out] at HLi hLs HTE HFs
        obtain ⟨q, Hq⟩ : ∃ q, Hid (q = okI c op al) := ⟨_, rfl⟩
        rw [← Hq.out] at HFs
        generalize al.length = m1 at HLi HL1 HS1 HGA hl1
        clear hb hrg hcs hA hxn hlenB gA bA
        go_wp2_with (first | (refine wpL_load rfl 31 _ rfl _ _ rfl _ HL1.out ?_) | (refine wpL_store rfl 31 _ _ rfl _ _ rfl _ rfl _ HS1.out ?_) | fail)
        refine HLi.out.mono ?_
        rintro e w1 ⟨rfl, g1⟩
        have HK1 : Hid (∀ k, k < wr.heap.size → w1.heap[k]? = wr.heap[k]?) := fun k hk => (g1.block k (by have := HGA.out.size; omega)).trans (HGA.out.block k hk)
        have HZ1 : Hid (wr.heap.size ≤ w1.heap.size) := Nat.le_trans HGA.out.size g1.size
        have HB1 : Hid (Below w.heap.size w w1) := by
          have hb := HRn.out.2.1
          rw [HBB.out] at hb
          exact hb.trans ((HGA.out.trans (g1.mono HGA.out.size)).mono hb.size)
        clear g1 HL1 HS1 HLi HGA
        rcases HFs.out with ⟨hq, hne⟩ | ⟨hq, hne⟩
        · have hs : (L.toList == []) = false := by
            cases h : L.toList with
            | nil => exact absurd h hne
            | cons _ _ => rfl
          have HWt : Hid (Calls Tryz.prog 22 #[.pointer (some ⟨B, 0, none⟩), .string (L ++ ⟨#[10]⟩)] w1 fun e w' => e = .returned (.tuple #[.int .i64 (L ++ ⟨#[10]⟩).size, .nilIface]) ∧ (Lib.IsBuilder 48 5 B B (Lib.byteCells (textLs (xs.take (n + 1)))) w' ∧ Below B w w' ∧ B ≤ w'.heap.size)) := by
            have hsz : (L ++ ⟨#[10]⟩ : ByteArray).size = L.size + 1 := by rw [ByteArray.size_append]; rfl
            have hBz := HRn.out.2.2
            have hb1 : Below B w w1 := by have := HB1.out; rwa [← HBB.out] at this
            have h1 := lwrite_i B B _ (L ++ ⟨#[10]⟩) w1 (lisb_later HRn.out.1 HK1.out) (by have := HBd.out; omega) (by have := HZ1.out; omega)
            refine h1.mono fun e w' hh => ⟨hh.1, ?_, hb1.trans hh.2.2, by have := hh.2.2.size; have := HZ1.out; omega⟩
            have e1 : (L ++ ⟨#[10]⟩ : ByteArray).data.toList = L.data.toList ++ [10] := by simp
            have h2 := hh.2.1
            rw [e1, ← HTE.out] at h2
            exact h2
          have HF : Hid (∀ j x, j < n + 1 → xs[j]? = some x → okT x = true) := fun j x hj hx => by
            by_cases hjn : j = n
            · subst hjn
              have e := Option.some.inj (hx.symm.trans HXn.out)
              rw [e]; exact Hq.out.symm.trans hq
            · exact HS.out j x (by omega) hx
          clear hne hq
          go_wp2_with fail
          refine HWt.out.mono ?_
          rintro e w6 ⟨rfl, q6⟩
          have HQ := (show Hid _ from q6)
          clear q6 HWt
          go_wp2
          go_roundg (gk - 1)
          case measure => omega
          case rel => exact ⟨n + 1, by omega, by simp, HQ, HF⟩
        · subst hne
          have HNo : Hid (RES = ⟨#[]⟩) := by
            show RES = ⟨#[]⟩
            rw [HR.out]; unfold listT
            rw [if_neg (fun h => by have := h.2 _ (List.mem_of_getElem? HXn.out); exact absurd ((Hq.out.symm.trans hq).symm.trans this) (by decide))]
          have b1 := HB1.out
          clear hq
          go_wp2
          go_ret
          exact ⟨by rw [HNo.out]; rfl, b1⟩
      · have i1 : ¬ ((n : Int) < (len : Int)) := by omega
        have h0 := HRn.out
        rw [List.take_of_length_le (by have := HL.out; omega)] at h0
        have HE : Hid (RES = ⟨(textLs xs).toArray⟩) := by
          show RES = ⟨(textLs xs).toArray⟩
          rw [HR.out]
          unfold listT
          rw [if_pos ⟨by have := HL.out; omega, fun x hx => by
            obtain ⟨j, hj⟩ := List.getElem?_of_mem hx
            exact HS.out j x (by have := (List.getElem?_eq_some_iff.1 hj).1; have := HL.out; omega) hj⟩]
        have HSt : Hid (Calls Tryz.prog 23 #[.pointer (some ⟨B, 0, none⟩)] wr fun e w' => e = .returned (.string RES) ∧ Below w.heap.size w w') := (lstring_i B B _ wr h0.1 h0.2.2).mono fun e w' hh => ⟨by rw [HE.out]; exact hh.1, by rw [← HBB.out]; exact h0.2.1.trans hh.2⟩
        clear h0
        go_wp2_with fail
        refine HSt.out.mono ?_
        rintro e w6 ⟨rfl, b6⟩
        go_wp2
        go_ret
        exact ⟨rfl, b6⟩

end Go.Proofs.YtndfmgbdfcggmaaGreatDoor
