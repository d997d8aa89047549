/- ListLine, both sides. -/
import Derived.Test.YtndfmgbdfcggmaaGreatDoorGeM
import Derived.Test.YtndfmgbdfcggmaaGreatDoorEpM
import Derived.Shelf.Strings.Builder1
namespace Go.Proofs.YtndfmgbdfcggmaaGreatDoor
open Go.RowKit Go.Shelf
open Go.Lib (decDigits itoa)
set_option linter.unusedVariables false

theorem decd_some (u : Nat) : decDigits u ≠ [] := fun h => by
  have h1 := Lib.decDigits_length u
  have h2 := Lib.nDigits_pos u
  rw [h] at h1; simp at h1; omega
theorem itoa_some (n : Int) : itoa n ≠ [] := by
  unfold itoa
  split
  · simp
  · exact decd_some _
theorem decl_some (n : Int) (p : Nat) : decL n p ≠ [] := by
  unfold decL
  split
  · simp
  · unfold cutp; simp
theorem wd_some (n : Int) : (wd n).data.toList ≠ [] := by
  unfold wd
  split
  · simp
  · split
    · simp
    · split <;> simp
theorem txt_some' {k n p : Int} (h : okA k n p = true) : (txt k n p).data.toList ≠ [] := by
  unfold txt
  rw [if_pos h]
  split
  · unfold tx; simpa using decl_some _ _
  · split
    · exact wd_some _
    · intro he
      have := congrArg List.length he
      simp only [ByteArray.data_append, Array.toList_append, List.length_append, List.length_nil] at this
      have h2 : (tx (itoa n)).data.toList = itoa n := by unfold tx; simp
      rw [h2] at this
      have := List.length_pos_iff.2 (itoa_some n)
      omega
theorem ppx_okA {c : Nat} {x : Int × Int × Int} (h : pp c x = true) : okA x.1 x.2.1 x.2.2 = true := by
  cases ho : okA x.1 x.2.1 x.2.2 with
  | true => rfl
  | false => simp [pp, ho] at h
theorem tkx_okA {l : List Nat} {xs : List Arg} (h : tk l xs = true) : ∀ (j : Nat) (x : Arg), xs[j]? = some x → okA x.1 x.2.1 x.2.2 = true := by
  intro j x hx
  unfold tk at h
  simp only [Bool.and_eq_true, List.all_eq_true] at h
  have hj : j < xs.length := (List.getElem?_eq_some_iff.1 hx).1
  have := h.2 j (List.mem_range.2 hj)
  have e : xs.getD j (0, 0, 0) = x := by rw [List.getD_eq_getElem?_getD, hx]; rfl
  rw [e] at this
  exact ppx_okA this
theorem rtkx_okA {op : Int} {xs : List Arg} (h : rtk op xs = true) : ∀ (j : Nat) (x : Arg), xs[j]? = some x → okA x.1 x.2.1 x.2.2 = true := by
  unfold rtk at h
  rcases Bool.or_eq_true _ _ ▸ h with h | h
  · exact tkx_okA h
  · exact tkx_okA h
theorem join_some {x : List UInt8} {r : List (List UInt8)} {s : List UInt8} (h : x ≠ []) : Lib.join (x :: r) s ≠ [] := by
  cases r with
  | nil => simpa [Lib.join] using h
  | cons y r => simp [Lib.join, h]
theorem etx_some {op : Int} {xs : List Arg} (h : rtk op xs = true) : (etx op xs).toList ≠ [] := by
  unfold etx
  rw [if_pos h, Lib.toList_data]
  unfold etl
  have h3 := rtk_3 h
  match xs, h, h3 with
  | [], _, h3 => simp at h3
  | x :: r, h, _ =>
    have hx := txt_some' (rtkx_okA h 0 x rfl)
    have := join_some (r := r.map tl) (s := (btw op).data.toList) (show tl x ≠ [] from hx)
    simp only [List.map_cons]
    intro he
    simp only [List.append_eq_nil_iff] at he
    exact this he.2
theorem etx_none (xs : List Arg) (h : xs.isEmpty = true) (op : Int) : etx op xs = ⟨#[]⟩ := by
  cases hr : rtk op xs with
  | true =>
    have := (rtk_3 hr).1
    cases xs with
    | nil => simp at this
    | cons => simp at h
  | false => unfold etx; rw [hr]; rfl
theorem etx_max (op : Int) (xs : List Arg) : (etx op xs).size ≤ 300 := by
  unfold etx
  split
  · next h =>
    show (etl op xs).toArray.size ≤ 300
    rw [List.size_toArray]
    unfold etl
    rw [List.length_append]
    have h3 := rtk_3 h
    have h1 := join_le (xs.map tl) (btw op).data.toList (by rw [List.length_map]; exact h3.2) (fun x hx => by
      obtain ⟨y, _, rfl⟩ := List.mem_map.1 hx
      have := txt_le y.1 y.2.1 y.2.2
      rw [Lib.size_eq] at this
      exact this) (by have := btw_le op; rw [Lib.size_eq] at this; exact this)
    have h2 := ahd_size op
    rw [Lib.size_eq] at h2
    omega
  · exact Nat.zero_le _
theorem lwd_max (c : Int) : (lwd c).size ≤ 4 := by
  unfold lwd
  repeat' split
  all_goals decide

/-- The line of an instruction. -/
def lineT (c op : Int) (xs : List Arg) : ByteArray := if okI c op xs then (if c ≤ 3 ∨ c = 10 then lwd c ++ ⟨#[32]⟩ ++ etx op xs else lwd c) else ⟨#[]⟩
theorem okI_el {c op : Int} {xs : List Arg} (h : okI c op xs = true) (hc : c ≤ 3 ∨ c = 10) : rtk op xs = true := by
  unfold okI at h
  split at h
  · cases h
  · split at h
    · simp at h; exact h.2
    · split at h
      · simp at h; exact h.2
      · omega
theorem okI_no {c op : Int} {xs : List Arg} (h : okI c op xs = true) (hc : ¬ (c ≤ 3 ∨ c = 10)) : xs.isEmpty = true := by
  unfold okI at h
  rw [if_neg (fun h' => by rw [if_pos h'] at h; cases h), if_neg (by omega), if_neg (by omega)] at h
  simp at h
  simp [h.2]

set_option maxRecDepth 10000 in
set_option maxHeartbeats 4000000 in
theorem line_s (c op : Int) (a : Option Addr) (xs : List Arg) (len cap : Nat) (hlen : len = xs.length) (w : World) (hx : Sl w a xs) :
    Calls Tryz.prog 18 #[.agg #[.int .i64 c, .int .i64 op, .slice a len cap]] w fun e w' => e = .returned (.string (lineT c op xs)) ∧ Below w.heap.size w w' := by
  have b0 : Below w.heap.size w (w.alloc (.cells #[.int .i64 c, .int .i64 op, .slice a len cap] 31)) := (Below.refl _ _).alloc (Nat.le_refl _) _
  have HO : Hid (∀ W, Below w.heap.size w W → Calls Tryz.prog 9 #[.agg #[.int .i64 c, .int .i64 op, .slice a len cap]] W fun e w' => e = .returned (.bool (okI c op xs)) ∧ Below W.heap.size W w') := fun W g => ok_s c op a xs len cap hlen W (hx.later g)
  have HT : Hid (∀ W, Below w.heap.size w W → Calls Tryz.prog 45 #[.agg #[.int .i64 op, .slice a len cap]] W fun e w' => e = .returned (.string (etx op xs)) ∧ Below W.heap.size W w') := fun W g => spec_etext op a xs len cap hlen W (hx.later g)
  have HW : Hid (∀ W, Calls Tryz.prog 44 #[.int .i64 c] W fun e w' => e = .returned (.string (lwd c)) ∧ Below W.heap.size W w') := fun W => word_s c W
  have hE := etx_max op xs
  have hL := lwd_max c
  clear hlen hx
  cases hok : okI c op xs with
  | false =>
    rw [show lineT c op xs = ⟨#[]⟩ from by unfold lineT; rw [hok]; rfl]
    rw [hok] at HO
    clear hok
    go_enter Tryz.func18, Tryz.ntmps18
    go_wp2_with fail
    refine (HO.out _ b0).mono ?_
    rintro e w1 ⟨rfl, g1⟩
    have b1 := b0.trans (g1.mono b0.size)
    clear g1 b0
    go_wp2
    go_ret
    exact ⟨rfl, b1⟩
  | true =>
    rw [hok] at HO
    have x0 : (w.alloc (.cells #[.int .i64 c, .int .i64 op, .slice a len cap] 31)).cell? ⟨w.heap.size, 0, none⟩ = some (.int .i64 c) := by simp
    have x1 : (w.alloc (.cells #[.int .i64 c, .int .i64 op, .slice a len cap] 31)).cell? ⟨w.heap.size, 1, none⟩ = some (.int .i64 op) := by simp
    have x2 : (w.alloc (.cells #[.int .i64 c, .int .i64 op, .slice a len cap] 31)).cell? ⟨w.heap.size, 2, none⟩ = some (.slice a len cap) := by simp
    by_cases hc : c ≤ 3 ∨ c = 10
    · have e0 : lineT c op xs = lwd c ++ ⟨#[32]⟩ ++ etx op xs := by unfold lineT; rw [hok, if_pos rfl, if_pos hc]
      rw [e0]
      generalize etx op xs = E at HT hE ⊢
      generalize lwd c = L at HW hL ⊢
      clear hok e0
      have hLs : (L ++ (⟨#[32]⟩ : ByteArray)).size ≤ 5 := by rw [ByteArray.size_append]; have : (⟨#[32]⟩ : ByteArray).size = 1 := rfl; omega
      by_cases h3 : c ≤ 3
      case neg =>
        obtain rfl : c = 10 := by omega
        go_enter Tryz.func18, Tryz.ntmps18
        go_wp2_with fail
        refine (HO.out _ b0).mono ?_
        rintro e w1 ⟨rfl, g1⟩
        have b1 := b0.trans (g1.mono b0.size)
        have y0 := cell_later g1 x0
        have y1 := cell_later g1 x1
        have y2 := cell_later g1 x2
        have k0 := cell_regrown y0
        have k1 := cell_regrown y1
        have k2 := cell_regrown y2
        have cW : ∀ d os, Calls Tryz.prog 44 #[.int .i64 10] (Sort.grow (redrawn w1 d) os) fun e w'' => e = .returned (.string L) ∧ ∃ p : Regrown, w'' = Sort.grow (redrawn w1 p.d) p.os := fun d os => Calls.regrown_of (HW.out _)
        have cT : ∀ d os, Calls Tryz.prog 45 #[.agg #[.int .i64 op, .slice a len cap]] (Sort.grow (redrawn w1 d) os) fun e w'' => e = .returned (.string E) ∧ ∃ p : Regrown, w'' = Sort.grow (redrawn w1 p.d) p.os := fun d os => Calls.regrown_of (HT.out _ (b1.trans ((below_regrown w1 d os).mono b1.size)))
        clear g1 b0 x0 x1 x2
        go_upto_region 4 with fail
        refine wp_region_quiet_below (by kernel_rfl) (by kernel_rfl) ?_
        repeat (go_big_quiet_step (first | with_reducible exact cW _ _ | with_reducible exact cT _ _))
        refine wpQuiet_nil ?_
        intro w7 hw'
        have b7 : Below w.heap.size w w7 := by
          obtain ⟨⟨dq, osq⟩, rfl⟩ := hw'
          exact b1.trans ((below_regrown w1 dq osq).mono b1.size)
        clear hw'
        go_wp2
        go_ret
        exact ⟨rfl, b7⟩
      case pos =>
        go_enter Tryz.func18, Tryz.ntmps18
        go_wp2_with fail
        refine (HO.out _ b0).mono ?_
        rintro e w1 ⟨rfl, g1⟩
        have b1 := b0.trans (g1.mono b0.size)
        have y0 := cell_later g1 x0
        have y1 := cell_later g1 x1
        have y2 := cell_later g1 x2
        have k0 := cell_regrown y0
        have k1 := cell_regrown y1
        have k2 := cell_regrown y2
        have cW : ∀ d os, Calls Tryz.prog 44 #[.int .i64 c] (Sort.grow (redrawn w1 d) os) fun e w'' => e = .returned (.string L) ∧ ∃ p : Regrown, w'' = Sort.grow (redrawn w1 p.d) p.os := fun d os => Calls.regrown_of (HW.out _)
        have cT : ∀ d os, Calls Tryz.prog 45 #[.agg #[.int .i64 op, .slice a len cap]] (Sort.grow (redrawn w1 d) os) fun e w'' => e = .returned (.string E) ∧ ∃ p : Regrown, w'' = Sort.grow (redrawn w1 p.d) p.os := fun d os => Calls.regrown_of (HT.out _ (b1.trans ((below_regrown w1 d os).mono b1.size)))
        clear g1 b0 x0 x1 x2 hc
        go_upto_region 4 with fail
        refine wp_region_quiet_below (by kernel_rfl) (by kernel_rfl) ?_
        repeat (go_big_quiet_step (first | with_reducible exact cW _ _ | with_reducible exact cT _ _))
        refine wpQuiet_nil ?_
        intro w7 hw'
        have b7 : Below w.heap.size w w7 := by
          obtain ⟨⟨dq, osq⟩, rfl⟩ := hw'
          exact b1.trans ((below_regrown w1 dq osq).mono b1.size)
        clear hw'
        go_wp2
        go_ret
        exact ⟨rfl, b7⟩
    · have e0 : lineT c op xs = lwd c := by unfold lineT; rw [hok, if_pos rfl, if_neg hc]
      rw [e0]
      generalize lwd c = L at HW hL ⊢
      have n3 : ¬ (c ≤ 3) := by omega
      have n10 : (c == 10) = false := by simp; omega
      clear hok e0 hc HT
      go_enter Tryz.func18, Tryz.ntmps18
      go_wp2_with fail
      refine (HO.out _ b0).mono ?_
      rintro e w1 ⟨rfl, g1⟩
      have b1 := b0.trans (g1.mono b0.size)
      have y0 := cell_later g1 x0
      clear g1 b0 x0 x1 x2
      go_wp2_with fail
      refine (HW.out _).mono ?_
      rintro e w2 ⟨rfl, g2⟩
      have b2 := b1.trans (g2.mono b1.size)
      clear g2 b1 y0
      go_wp2
      go_ret
      exact ⟨rfl, b2⟩

set_option maxRecDepth 10000 in
set_option maxHeartbeats 4000000 in
theorem line_i (c op : Int) (a : Option Addr) (xs : List Arg) (len cap : Nat) (hlen : len = xs.length) (w : World) (hT : Tabs w) (hL : LT w) (hx : Sl w a xs) :
    Calls Tryz.prog 16 #[.agg #[.int .i64 c, .int .i64 op, .slice a len cap]] w fun e w' => e = .returned (.string (lineT c op xs)) ∧ Below w.heap.size w w' := by
  have b0 : Below w.heap.size w (w.alloc (.cells #[.int .i64 c, .int .i64 op, .slice a len cap] 31)) := (Below.refl _ _).alloc (Nat.le_refl _) _
  have HO : Hid (∀ W, Below w.heap.size w W → Calls Tryz.prog 15 #[.agg #[.int .i64 c, .int .i64 op, .slice a len cap]] W fun e w' => e = .returned (.bool (okI c op xs)) ∧ Below W.heap.size W w') := fun W g => ok_i c op a xs len cap hlen W (hT.k.later g) (hL.later g) (hx.later g)
  have HT : Hid (∀ W, Below w.heap.size w W → Calls Tryz.prog 41 #[.agg #[.int .i64 op, .slice a len cap]] W fun e w' => e = .returned (.string (etx op xs)) ∧ Below W.heap.size W w') := fun W g => impl_etext op a xs len cap hlen W (hT.later g) (hx.later g)
  have HW : Hid (∀ W, Below w.heap.size w W → Calls Tryz.prog 39 #[.int .i64 c] W fun e w' => e = .returned (.string (lwd c)) ∧ Below W.heap.size W w') := fun W g => word_i c W (hL.later g)
  have hE := etx_max op xs
  have hLm := lwd_max c
  clear hlen hx hT hL
  cases hok : okI c op xs with
  | false =>
    rw [show lineT c op xs = ⟨#[]⟩ from by unfold lineT; rw [hok]; rfl]
    rw [hok] at HO
    clear hok
    go_enter Tryz.func16, Tryz.ntmps16
    go_wp2_with fail
    refine (HO.out _ b0).mono ?_
    rintro e w1 ⟨rfl, g1⟩
    have b1 := b0.trans (g1.mono b0.size)
    clear g1 b0
    go_wp2
    go_ret
    exact ⟨rfl, b1⟩
  | true =>
    rw [hok] at HO
    have x0 : (w.alloc (.cells #[.int .i64 c, .int .i64 op, .slice a len cap] 31)).cell? ⟨w.heap.size, 0, none⟩ = some (.int .i64 c) := by simp
    have x1 : (w.alloc (.cells #[.int .i64 c, .int .i64 op, .slice a len cap] 31)).cell? ⟨w.heap.size, 1, none⟩ = some (.int .i64 op) := by simp
    have x2 : (w.alloc (.cells #[.int .i64 c, .int .i64 op, .slice a len cap] 31)).cell? ⟨w.heap.size, 2, none⟩ = some (.slice a len cap) := by simp
    obtain ⟨R, HR⟩ : ∃ R, Hid (R = lineT c op xs) := ⟨_, rfl⟩
    rw [← HR.out]
    have HF : Hid ((∃ _ : (etx op xs).toList ≠ [], R = lwd c ++ ⟨#[32]⟩ ++ etx op xs) ∨ ((etx op xs) = ⟨#[]⟩ ∧ R = lwd c)) := by
      by_cases hc : c ≤ 3 ∨ c = 10
      · exact .inl ⟨etx_some (okI_el hok hc), by rw [HR.out]; unfold lineT; rw [hok, if_pos rfl, if_pos hc]⟩
      · exact .inr ⟨etx_none xs (okI_no hok hc) op, by rw [HR.out]; unfold lineT; rw [hok, if_pos rfl, if_neg hc]⟩
    clear HR hok
    generalize etx op xs = E at HT hE HF
    generalize lwd c = L at HW hLm HF
    go_enter Tryz.func16, Tryz.ntmps16
    go_wp2_with fail
    refine (HO.out _ b0).mono ?_
    rintro e w1 ⟨rfl, g1⟩
    have b1 := b0.trans (g1.mono b0.size)
    have k0 := cell_regrown (cell_later g1 x0)
    have k1 := cell_regrown (cell_later g1 x1)
    have k2 := cell_regrown (cell_later g1 x2)
    have cW : ∀ d os, Calls Tryz.prog 39 #[.int .i64 c] (Sort.grow (redrawn w1 d) os) fun e w'' => e = .returned (.string L) ∧ ∃ p : Regrown, w'' = Sort.grow (redrawn w1 p.d) p.os := fun d os => Calls.regrown_of (HW.out _ (b1.trans ((below_regrown w1 d os).mono b1.size)))
    have cT : ∀ d os, Calls Tryz.prog 41 #[.agg #[.int .i64 op, .slice a len cap]] (Sort.grow (redrawn w1 d) os) fun e w'' => e = .returned (.string E) ∧ ∃ p : Regrown, w'' = Sort.grow (redrawn w1 p.d) p.os := fun d os => Calls.regrown_of (HT.out _ (b1.trans ((below_regrown w1 d os).mono b1.size)))
    clear g1 b0 x0 x1 x2
    go_upto_region 3 with fail
    refine wp_region_quiet_below (by kernel_rfl) (by kernel_rfl) ?_
    repeat (go_big_quiet_step (first | with_reducible exact cW _ _ | with_reducible exact cT _ _))
    refine wpQuiet_nil ?_
    intro w7 hw'
    have b7 : Below w.heap.size w w7 := by
      obtain ⟨⟨dq, osq⟩, rfl⟩ := hw'
      exact b1.trans ((below_regrown w1 dq osq).mono b1.size)
    clear hw' cW cT k0 k1 k2 b1
    rcases HF.out with ⟨hne, rfl⟩ | ⟨rfl, rfl⟩
    · have hs : (E.toList == []) = false := by
        cases h : E.toList with
        | nil => exact absurd h hne
        | cons _ _ => rfl
      have hLs : (L ++ (⟨#[32]⟩ : ByteArray)).size ≤ 5 := by rw [ByteArray.size_append]; have : (⟨#[32]⟩ : ByteArray).size = 1 := rfl; omega
      clear HF hne
      go_wp2
      go_ret
      exact ⟨rfl, b7⟩
    · clear HF
      go_wp2
      go_ret
      exact ⟨rfl, b7⟩
end Go.Proofs.YtndfmgbdfcggmaaGreatDoor
/- ListText, both sides; the law FnExactListText. -/
namespace Go.Proofs.YtndfmgbdfcggmaaGreatDoor
open Go.RowKit Go.Shelf
set_option linter.unusedVariables false

def okT (x : InstT) : Bool := okI x.code x.one.op x.one.args
def lineB (x : InstT) : ByteArray := lineT x.code x.one.op x.one.args
theorem lineT_max (c op : Int) (xs : List Arg) : (lineT c op xs).size ≤ 305 := by
  unfold lineT
  have h1 := lwd_max c
  have h2 := etx_max op xs
  have h3 : (⟨#[32]⟩ : ByteArray).size = 1 := rfl
  split
  · split
    · rw [ByteArray.size_append, ByteArray.size_append]; omega
    · omega
  · exact Nat.zero_le _
theorem lineT_none {c op : Int} {xs : List Arg} (h : okI c op xs = false) : lineT c op xs = ⟨#[]⟩ := by unfold lineT; rw [h]; rfl
theorem ba_cat_some {a b : ByteArray} (h : a.toList ≠ []) : (a ++ b).toList ≠ [] := by
  intro he
  rw [Lib.toList_data] at h he
  simp only [ByteArray.data_append, Array.toList_append, List.append_eq_nil_iff] at he
  exact h he.1
theorem okI_in {c op : Int} {xs : List Arg} (h : okI c op xs = true) : 1 ≤ c ∧ c ≤ 11 := by
  unfold okI at h
  split at h
  · cases h
  · omega
theorem lineT_some {c op : Int} {xs : List Arg} (h : okI c op xs = true) : (lineT c op xs).toList ≠ [] := by
  have hc := okI_in h
  unfold lineT
  rw [if_pos h]
  split
  · exact ba_cat_some (ba_cat_some (lwd_some hc.1 hc.2))
  · exact lwd_some hc.1 hc.2
theorem mem3x {a b c : Value} (ha : a.oneCell' = true) (hb : b.oneCell' = true) (hc : c.oneCell' = true) : ∀ x ∈ [a, b, c], x.oneCell' = true := by
  intro x hx
  simp at hx
  rcases hx with rfl | rfl | rfl <;> assumption

end Go.Proofs.YtndfmgbdfcggmaaGreatDoor
