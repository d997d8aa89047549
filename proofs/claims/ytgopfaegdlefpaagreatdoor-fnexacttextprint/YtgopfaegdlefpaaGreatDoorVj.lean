/- The program writes a ladder. -/
import Derived.Test.YtgopfaegdlefpaaGreatDoorVaM
import Derived.Test.YtgopfaegdlefpaaGreatDoorVh
import Derived.Test.YtgopfaegdlefpaaGreatDoorLy
import Derived.Shelf.Strings.Builder1
namespace Go.Proofs.YtgopfaegdlefpaaGreatDoor
open Go.RowKit Go.Shelf
set_option linter.unusedVariables false

def joinL (ws : List ByteArray) : List UInt8 := Lib.join (ws.map (·.data.toList)) [32]
def lineL (ws : List ByteArray) : List UInt8 := joinL ws ++ [10]
theorem joinL_cat : ∀ (w : ByteArray) (ws : List ByteArray), (w :: ws).flatMap (fun s => s.data.toList ++ [32]) = joinL (w :: ws) ++ [32]
  | w, [] => by simp [joinL, Lib.join_one]
  | w, x :: xs => by
    have h := joinL_cat x xs
    have e : Lib.joinTail [32] ((x :: xs).map (·.data.toList)) = 32 :: Lib.join ((x :: xs).map (·.data.toList)) [32] := by
      rw [List.map_cons, Lib.join_cons]; simp [Lib.joinTail]
    have e2 : joinL (w :: x :: xs) = w.data.toList ++ (32 :: joinL (x :: xs)) := by
      unfold joinL
      rw [show (w :: x :: xs).map (·.data.toList) = w.data.toList :: (x :: xs).map (·.data.toList) from rfl, Lib.join_cons, e]
    rw [List.flatMap_cons, h, e2]
    simp
theorem joinL_len (w : ByteArray) (ws : List ByteArray) (h : bdW (w :: ws)) : (joinL (w :: ws)).length ≤ 301 * (w :: ws).length := by
  have h1 := catB_size (w :: ws) h
  rw [Lib.size_eq, show (catB (w :: ws)).data.toList = (w :: ws).flatMap (fun s => s.data.toList ++ [32]) from rfl, joinL_cat, List.length_append] at h1
  omega
theorem wArm_cons (tx : Int → List ArgT → ByteArray) (m : Nat) (t : ArmT) : ∃ x xs, wArm tx (m + 1) t = x :: xs := by
  cases t with
  | mk net coils kids =>
    rw [show wArm tx (m + 1) (.mk net coils kids) = (if noneT net then [] else wNet tx m net) ++ sgK 5 :: (coils.map (fun e => tx e.op e.args) ++ kidsW (kids.map (wArm tx m))) from rfl]
    cases (if noneT net then [] else wNet tx m net) with
    | nil => exact ⟨_, _, rfl⟩
    | cons y ys => exact ⟨y, _, rfl⟩
theorem bat_later {T e : TypeId} {B b : Nat} {p : Value} {bs : List Value} {W W' : World} (h : Lib.BuilderAt T e B b p bs W) (g : ∀ k, k < W.heap.size → W'.heap[k]? = W.heap[k]?) : Lib.BuilderAt T e B b p bs W' := by
  obtain ⟨h1, v, h2, h3, h4⟩ := h
  refine ⟨h1, v, (g _ (Array.getElem?_eq_some_iff.1 h2).1).trans h2, ?_, h4⟩
  obtain ⟨q1, q2 | ⟨g', cap, cur, hv, hb, hh, q3⟩⟩ := h3
  · exact ⟨q1, .inl q2⟩
  · exact ⟨q1, .inr ⟨g', cap, cur, hv, hb, (g _ (Array.getElem?_eq_some_iff.1 hh).1).trans hh, q3⟩⟩
theorem isb_later {T e : TypeId} {B b : Nat} {bs : List Value} {W W' : World} (h : Lib.IsBuilder T e B b bs W) (g : ∀ k, k < W.heap.size → W'.heap[k]? = W.heap[k]?) : Lib.IsBuilder T e B b bs W' :=
  h.elim (fun h => .inl (bat_later h g)) (fun h => .inr (bat_later h g))
theorem sg_lit : (sgA.map Value.string).toArray = #[.string ⟨#[]⟩, .string ⟨#[]⟩, .string ⟨#[97, 110, 100, 40]⟩, .string ⟨#[111, 114, 40]⟩, .string ⟨#[110, 111, 116, 40]⟩, .string ⟨#[45, 62]⟩, .string ⟨#[91]⟩, .string ⟨#[124]⟩, .string ⟨#[93]⟩, .string ⟨#[41]⟩] := rfl
theorem write_i (B b : Nat) (l : List UInt8) (s : ByteArray) (w : World) (h : Lib.IsBuilder 51 5 B b (Lib.byteCells l) w) (hlen : l.length + s.size ≤ 140737488355328) (hB : B ≤ w.heap.size) :
    Calls Tryz.prog 29 #[.pointer (some ⟨b, 0, none⟩), .string s] w fun e w' => e = .returned (.tuple #[.int .i64 s.size, .nilIface]) ∧ Lib.IsBuilder 51 5 B b (Lib.byteCells (l ++ s.data.toList)) w' ∧ Below B w w' := by
  have := Any.Builder_WriteString { Tryz.layJ with } Tryz.layJ_extra B b (Lib.byteCells l) s w h (by rw [Lib.byteCells_length]; exact hlen) hB
  refine this.mono fun e w' hh => ⟨hh.1, .inr ?_, hh.2.2⟩
  have e1 : Lib.byteCells (l ++ s.data.toList) = Lib.byteCells l ++ Lib.strCells s := by simp [Lib.byteCells, Lib.strCells]
  rw [e1]; exact hh.2.1
theorem string_i (B b : Nat) (l : List UInt8) (w : World) (h : Lib.IsBuilder 51 5 B b (Lib.byteCells l) w) (hB : B ≤ w.heap.size) :
    Calls Tryz.prog 31 #[.pointer (some ⟨b, 0, none⟩)] w fun e w' => e = .returned (.string ⟨l.toArray⟩) ∧ Below B w w' :=
  Any.Builder_String_any { Tryz.layJ with } Tryz.layJ_extra B b l w h hB

/-- The text of a ladder that is accepted. -/
def textL (tx : Int → List ArgT → ByteArray) (m : Nat) (xs : List ArmT) : List UInt8 := xs.flatMap (fun x => lineL (wArm tx m x))

theorem textL_le (tx : Int → List ArgT → ByteArray) (ht : ∀ op xs, (tx op xs).size ≤ 300) (m : Nat) (xs : List ArmT) (n : Nat) (h40 : xs.length ≤ 40) (hw : ∀ x ∈ xs, (wArm tx m x).length ≤ 2000) : (textL tx m (xs.take n)).length ≤ 40 * (301 * 2000 + 1) := by
  have key : ∀ ys : List ArmT, (∀ x ∈ ys, (wArm tx m x).length ≤ 2000) → (textL tx m ys).length ≤ ys.length * (301 * 2000 + 1) := by
    intro ys
    induction ys with
    | nil => intro _; exact Nat.zero_le _
    | cons y ys ih =>
      intro h
      have h1 := ih (fun x hx => h x (by simp [hx]))
      have h2 := h y (by simp)
      have h3 : (lineL (wArm tx m y)).length ≤ 301 * 2000 + 1 := by
        unfold lineL
        rw [List.length_append, List.length_singleton]
        cases hy : wArm tx m y with
        | nil => simp [joinL, Lib.join]
        | cons a l =>
          have h4 := joinL_len a l (by rw [← hy]; exact bd_arm tx ht m y)
          rw [hy] at h2
          omega
      have e : textL tx m (y :: ys) = lineL (wArm tx m y) ++ textL tx m ys := by simp [textL]
      rw [e, List.length_append, List.length_cons, Nat.succ_mul]
      omega
  have h1 := key (xs.take n) (fun x hx => hw x (List.mem_of_mem_take hx))
  have h2 : (xs.take n).length ≤ 40 := by simp; omega
  exact Nat.le_trans h1 (Nat.mul_le_mul_right _ h2)
theorem join_i {W : World} {B : Nat} {v : Value} {y : ByteArray} {ys : List ByteArray} (h : WrS sgA W B v (y :: ys)) (hl : (y :: ys).length ≤ 2000) (hj : (joinL (y :: ys)).length ≤ 301 * 2000) :
    ∃ g cap, v = .slice (some ⟨g, 0, none⟩) (y :: ys).length cap ∧ Calls Tryz.prog 30 #[v, .string ⟨#[32]⟩] W fun e w' => e = .returned (.string ⟨(joinL (y :: ys)).toArray⟩) ∧ Below W.heap.size W w' := by
  obtain ⟨_, ⟨_, h0⟩ | ⟨g, cap, cur, rfl, hbase, hgb, q1, q2, q3, q4⟩⟩ := id h.2.2
  · simp at h0
  refine ⟨g, cap, rfl, ?_⟩
  have hcells := h.2.2.cells rfl
  refine Any.strings_Join Tryz.layJ Tryz.layJ_extra g 0 cap (y :: ys) ⟨#[32]⟩ W (fun j x hj => ?_) (Array.getElem?_eq_some_iff.1 hgb).1 (by omega) q1 (by show (joinL (y :: ys)).length ≤ _; omega)
  have ad : (⟨g, 0, none⟩ : Addr).add j = ⟨g, j, none⟩ := by unfold Addr.add; split <;> simp_all
  have := hcells j (.string x) (by unfold strs; rw [List.getElem?_map, hj]; rfl)
  rw [show (⟨(⟨g, 0, none⟩ : Addr).block, 0, none⟩ : Addr) = ⟨g, 0, none⟩ from rfl, ad] at this
  rw [Nat.zero_add]; exact this

set_option maxRecDepth 10000 in
set_option maxHeartbeats 16000000 in
theorem print_run (ct cl : Int → List ArgT → Bool) (tx : Int → List ArgT → ByteArray) (ht : ∀ op xs, (tx op xs).size ≤ 300) (m : Nat) (v : Value) (xs : List ArmT) (w : World) (hv : ArmsIs w 0 m v xs) (c i : Int)
    (hgood : c = 0 → (∀ x ∈ xs, firstC ct cl (pArm m true x) = 0) ∧ xs.length ≤ 40 ∧ ∀ x ∈ xs, (wArm tx m x).length ≤ 2000)
    (HCk : Hid (∀ W, Below w.heap.size w W → Calls Tryz.prog 17 #[v] W fun e w' => e = .returned (.agg #[.int .i64 c, .int .i64 i]) ∧ Below W.heap.size W w'))
    (HT : Hid (∀ W', Below w.heap.size w W' → ∀ op v xs, ArgsIs W' 0 v xs → Calls Tryz.prog 114 #[.agg #[.int .i64 op, v]] W' fun e w' => e = .returned (.string (tx op xs)) ∧ Below W'.heap.size W' w')) :
    Calls Tryz.prog 9 #[v] w fun e w' => e = .returned (.string (if c = 0 then ⟨(textL tx m xs).toArray⟩ else ⟨#[]⟩)) ∧ Below w.heap.size w w' := by
  have hfd : ∀ (c i : Int) (W : World), (Instr.field 27 (.agg #[.int .i64 c, .int .i64 i]) 0).run Tryz.prog W = .ok (.int .i64 c) W := fun c i W => by kernel_rfl
  obtain ⟨a, cap, rfl, hl, hx⟩ := hv
  have HX : Hid (∀ j x, xs[j]? = some x → ∃ b o cs, a = some ⟨b, o, none⟩ ∧ cs.length = 6 ∧ w.rangeAt b (o + j * 6) cs ∧ (ArmIs w 0 m) x cs) := fun j x hj => by
    obtain ⟨b, o, cs, h1, _, h2, h3, h4⟩ := hx j x hj
    exact ⟨b, o, cs, h1, h2, h3, h4⟩
  obtain ⟨len, HLn⟩ : ∃ len, Hid (len = xs.length) := ⟨_, rfl⟩
  rw [← HLn.out] at hl HCk ⊢
  clear hx
  by_cases hc : c = 0
  rotate_left
  · have hc' : (c != 0) = true := by simpa using hc
    rw [if_neg hc]
    go_enter Tryz.func9, Tryz.ntmps9
    go_wp2_with fail
    refine (HCk.out _ (Below.refl _ _)).mono ?_
    rintro e w1 ⟨rfl, g1⟩
    go_wp2
    go_ret
    exact ⟨rfl, g1⟩
  subst hc
  have HG : Hid ((∀ x ∈ xs, firstC ct cl (pArm m true x) = 0) ∧ xs.length ≤ 40 ∧ ∀ x ∈ xs, (wArm tx m x).length ≤ 2000) := hgood rfl
  rw [if_pos rfl]
  obtain ⟨RES, HRES⟩ : ∃ R : ByteArray, Hid (R = ⟨(textL tx m xs).toArray⟩) := ⟨_, rfl⟩
  rw [← HRES.out]
  clear hgood
  go_enter Tryz.func9, Tryz.ntmps9
  go_wp2_with fail
  refine (HCk.out _ (Below.refl _ _)).mono ?_
  rintro e w1 ⟨rfl, g1⟩
  have HB1 : Hid (Below w.heap.size w w1) := g1
  clear g1 HCk
  go_wp2_with fail
  refine (signs_i _).mono ?_
  rintro e w2 ⟨rfl, g2⟩
  rw [sg_lit]
  have HB2 : Hid (Below w.heap.size w w2) := HB1.out.trans (g2.mono HB1.out.size)
  clear g2 HB1
  go_wp2
  obtain ⟨B, hBB⟩ : ∃ B, B = w2.heap.size + 1 := ⟨_, rfl⟩
  have k3 := rows2 w2 (.cells #[.string ⟨#[]⟩, .string ⟨#[]⟩, .string ⟨#[97, 110, 100, 40]⟩, .string ⟨#[111, 114, 40]⟩, .string ⟨#[110, 111, 116, 40]⟩, .string ⟨#[45, 62]⟩, .string ⟨#[91]⟩, .string ⟨#[124]⟩, .string ⟨#[93]⟩, .string ⟨#[41]⟩] 47) (.cells #[.pointer none, .slice none 0 0] 51)
  have g3 : Below w2.heap.size w2 ((w2.alloc (.cells #[.string ⟨#[]⟩, .string ⟨#[]⟩, .string ⟨#[97, 110, 100, 40]⟩, .string ⟨#[111, 114, 40]⟩, .string ⟨#[110, 111, 116, 40]⟩, .string ⟨#[45, 62]⟩, .string ⟨#[91]⟩, .string ⟨#[124]⟩, .string ⟨#[93]⟩, .string ⟨#[41]⟩] 47)).alloc (.cells #[.pointer none, .slice none 0 0] 51)) := ((Below.refl _ _).alloc (Nat.le_refl _) _).alloc (by simp) _
  have HS : Hid (Lib.IsBuilder 51 5 B B (Lib.byteCells (textL tx m (xs.take 0))) ((w2.alloc (.cells #[.string ⟨#[]⟩, .string ⟨#[]⟩, .string ⟨#[97, 110, 100, 40]⟩, .string ⟨#[111, 114, 40]⟩, .string ⟨#[110, 111, 116, 40]⟩, .string ⟨#[45, 62]⟩, .string ⟨#[91]⟩, .string ⟨#[124]⟩, .string ⟨#[93]⟩, .string ⟨#[41]⟩] 47)).alloc (.cells #[.pointer none, .slice none 0 0] 51)) ∧ ((w2.alloc (.cells #[.string ⟨#[]⟩, .string ⟨#[]⟩, .string ⟨#[97, 110, 100, 40]⟩, .string ⟨#[111, 114, 40]⟩, .string ⟨#[110, 111, 116, 40]⟩, .string ⟨#[45, 62]⟩, .string ⟨#[91]⟩, .string ⟨#[124]⟩, .string ⟨#[93]⟩, .string ⟨#[41]⟩] 47)).alloc (.cells #[.pointer none, .slice none 0 0] 51)).heap[w2.heap.size]? = some (.cells #[.string ⟨#[]⟩, .string ⟨#[]⟩, .string ⟨#[97, 110, 100, 40]⟩, .string ⟨#[111, 114, 40]⟩, .string ⟨#[110, 111, 116, 40]⟩, .string ⟨#[45, 62]⟩, .string ⟨#[91]⟩, .string ⟨#[124]⟩, .string ⟨#[93]⟩, .string ⟨#[41]⟩] 47 (0, 0)) ∧ Below w.heap.size w ((w2.alloc (.cells #[.string ⟨#[]⟩, .string ⟨#[]⟩, .string ⟨#[97, 110, 100, 40]⟩, .string ⟨#[111, 114, 40]⟩, .string ⟨#[110, 111, 116, 40]⟩, .string ⟨#[45, 62]⟩, .string ⟨#[91]⟩, .string ⟨#[124]⟩, .string ⟨#[93]⟩, .string ⟨#[41]⟩] 47)).alloc (.cells #[.pointer none, .slice none 0 0] 51)) ∧ B ≤ ((w2.alloc (.cells #[.string ⟨#[]⟩, .string ⟨#[]⟩, .string ⟨#[97, 110, 100, 40]⟩, .string ⟨#[111, 114, 40]⟩, .string ⟨#[110, 111, 116, 40]⟩, .string ⟨#[45, 62]⟩, .string ⟨#[91]⟩, .string ⟨#[124]⟩, .string ⟨#[93]⟩, .string ⟨#[41]⟩] 47)).alloc (.cells #[.pointer none, .slice none 0 0] 51)).heap.size) :=
    ⟨.inl ⟨Nat.le_refl _, .slice none 0 0, by rw [hBB]; exact k3.2, ⟨rfl, .inl ⟨rfl, rfl⟩⟩, by simp [Value.ownBlock]⟩, k3.1, HB2.out.trans (g3.mono HB2.out.size), by rw [hBB]; simp⟩
  rw [← hBB]
  have HBl : Hid (w.heap.size ≤ w2.heap.size ∧ B = w2.heap.size + 1) := ⟨HB2.out.size, hBB⟩
  have HTX : Hid (∀ op xs, (tx op xs).size ≤ 300) := ht
  have hi10 : (Tryz.prog.info? 47).map (·.size) = some 10 := by kernel_rfl
  clear k3 g3 HB2 hBB ht
  obtain ⟨G, HGG⟩ : ∃ G, Hid (G = w2.heap.size) := ⟨_, rfl⟩
  rw [← HGG.out]
  go_loopg [16] len (fun g i wr => ∃ n : Nat, n + g = len ∧ i = .int .i64 n ∧ Hid (Lib.IsBuilder 51 5 B B (Lib.byteCells (textL tx m (xs.take n))) wr ∧ wr.heap[G]? = some (.cells #[.string ⟨#[]⟩, .string ⟨#[]⟩, .string ⟨#[97, 110, 100, 40]⟩, .string ⟨#[111, 114, 40]⟩, .string ⟨#[110, 111, 116, 40]⟩, .string ⟨#[45, 62]⟩, .string ⟨#[91]⟩, .string ⟨#[124]⟩, .string ⟨#[93]⟩, .string ⟨#[41]⟩] 47 (0, 0)) ∧ Below w.heap.size w wr ∧ B ≤ wr.heap.size))
  case atStart => exact ⟨0, by omega, rfl, by have := HS.out; rw [← HGG.out] at this; exact this⟩
  case round =>
    clear HS
    obtain ⟨n, hn, rfl, HR⟩ := hrel
    have htl : (textL tx m (xs.take n)).length ≤ 40 * (301 * 2000 + 1) := textL_le tx HTX.out m xs n HG.out.2.1 HG.out.2.2
    by_cases hlt : n < len
    · have i2 : (n : Int) < (len : Int) := by omega
      have i3 : (0 : Int) ≤ (n : Int) := by omega
      obtain ⟨x, hxn⟩ : ∃ x, xs[n]? = some x := ⟨_, List.getElem?_eq_getElem (by have := HLn.out; omega)⟩
      obtain ⟨b, o, cs, rfl, hcs, hrg, hR⟩ := HX.out n x hxn
      have hxm := List.mem_of_getElem? hxn
      have hm : ∃ m', m = m' + 1 := by
        cases m with
        | zero => exact hR.elim
        | succ m' => exact ⟨m', rfl⟩
      obtain ⟨y, ys, hw⟩ : ∃ y ys, wArm tx m x = y :: ys := by
        obtain ⟨m', rfl⟩ := hm
        exact wArm_cons tx m' x
      have hbw := HR.out.2.2.1
      obtain ⟨y0, y1, y2, y3, y4, y5, y6, y7, y8, y9, z0, z1, z2, z3, rfl⟩ := hR.form
      have d0 : wr.cell? ⟨b, o + n * 6, none⟩ = some (.int .i64 y0) := (Keeps.of_below hbw 0) _ _ _ (Nat.zero_le _) (hrg 0 _ rfl)
      have d1 : wr.cell? ⟨b, o + n * 6 + 1, none⟩ = some (.int .i64 y1) := (Keeps.of_below hbw 0) _ _ _ (Nat.zero_le _) (hrg 1 _ rfl)
      have d2 : wr.cell? ⟨b, o + n * 6 + 2, none⟩ = some (.slice y2 y3 y4) := (Keeps.of_below hbw 0) _ _ _ (Nat.zero_le _) (hrg 2 _ rfl)
      have d3 : wr.cell? ⟨b, o + n * 6 + 3, none⟩ = some (.slice y5 y6 y7) := (Keeps.of_below hbw 0) _ _ _ (Nat.zero_le _) (hrg 3 _ rfl)
      have d4 : wr.cell? ⟨b, o + n * 6 + 4, none⟩ = some (.slice y8 y9 z0) := (Keeps.of_below hbw 0) _ _ _ (Nat.zero_le _) (hrg 4 _ rfl)
      have d5 : wr.cell? ⟨b, o + n * 6 + 5, none⟩ = some (.slice z1 z2 z3) := (Keeps.of_below hbw 0) _ _ _ (Nat.zero_le _) (hrg 5 _ rfl)
      have gX : Below wr.heap.size wr ((wr.alloc (.cells #[.int .i64 y0, .int .i64 y1, .slice y2 y3 y4, .slice y5 y6 y7, .slice y8 y9 z0, .slice z1 z2 z3] 60)).alloc (.cells #[.string ⟨#[]⟩, .string ⟨#[]⟩, .string ⟨#[97, 110, 100, 40]⟩, .string ⟨#[111, 114, 40]⟩, .string ⟨#[110, 111, 116, 40]⟩, .string ⟨#[45, 62]⟩, .string ⟨#[91]⟩, .string ⟨#[124]⟩, .string ⟨#[93]⟩, .string ⟨#[41]⟩, .slice none 0 0] 64)) := ((Below.refl _ _).alloc (Nat.le_refl _) _).alloc (by simp) _
      have kX := rows2 wr (.cells #[.int .i64 y0, .int .i64 y1, .slice y2 y3 y4, .slice y5 y6 y7, .slice y8 y9 z0, .slice z1 z2 z3] 60) (.cells #[.string ⟨#[]⟩, .string ⟨#[]⟩, .string ⟨#[97, 110, 100, 40]⟩, .string ⟨#[111, 114, 40]⟩, .string ⟨#[110, 111, 116, 40]⟩, .string ⟨#[45, 62]⟩, .string ⟨#[91]⟩, .string ⟨#[124]⟩, .string ⟨#[93]⟩, .string ⟨#[41]⟩, .slice none 0 0] 64)
      have g1X : Below wr.heap.size wr (wr.alloc (.cells #[.int .i64 y0, .int .i64 y1, .slice y2 y3 y4, .slice y5 y6 y7, .slice y8 y9 z0, .slice z1 z2 z3] 60)) := (Below.refl _ _).alloc (Nat.le_refl _) _
      have rG1 : (wr.alloc (.cells #[.int .i64 y0, .int .i64 y1, .slice y2 y3 y4, .slice y5 y6 y7, .slice y8 y9 z0, .slice z1 z2 z3] 60)).heap[G]? = some (.cells #[.string ⟨#[]⟩, .string ⟨#[]⟩, .string ⟨#[97, 110, 100, 40]⟩, .string ⟨#[111, 114, 40]⟩, .string ⟨#[110, 111, 116, 40]⟩, .string ⟨#[45, 62]⟩, .string ⟨#[91]⟩, .string ⟨#[124]⟩, .string ⟨#[93]⟩, .string ⟨#[41]⟩] 47 (0, 0)) := (g1X.block _ (Array.getElem?_eq_some_iff.1 HR.out.2.1).1).trans HR.out.2.1
      have HLd : Hid ((loadVar 47 ⟨G, 0, none⟩).run Tryz.prog (wr.alloc (.cells #[.int .i64 y0, .int .i64 y1, .slice y2 y3 y4, .slice y5 y6 y7, .slice y8 y9 z0, .slice z1 z2 z3] 60)) = .ok (.agg #[.string ⟨#[]⟩, .string ⟨#[]⟩, .string ⟨#[97, 110, 100, 40]⟩, .string ⟨#[111, 114, 40]⟩, .string ⟨#[110, 111, 116, 40]⟩, .string ⟨#[45, 62]⟩, .string ⟨#[91]⟩, .string ⟨#[124]⟩, .string ⟨#[93]⟩, .string ⟨#[41]⟩]) (wr.alloc (.cells #[.int .i64 y0, .int .i64 y1, .slice y2 y3 y4, .slice y5 y6 y7, .slice y8 y9 z0, .slice z1 z2 z3] 60))) := load_all rG1 _ _ Tryz.underlying47 rfl hi10
      have hWr : WrS sgA ((wr.alloc (.cells #[.int .i64 y0, .int .i64 y1, .slice y2 y3 y4, .slice y5 y6 y7, .slice y8 y9 z0, .slice z1 z2 z3] 60)).alloc (.cells #[.string ⟨#[]⟩, .string ⟨#[]⟩, .string ⟨#[97, 110, 100, 40]⟩, .string ⟨#[111, 114, 40]⟩, .string ⟨#[110, 111, 116, 40]⟩, .string ⟨#[45, 62]⟩, .string ⟨#[91]⟩, .string ⟨#[124]⟩, .string ⟨#[93]⟩, .string ⟨#[41]⟩, .slice none 0 0] 64)) (wr.heap.size + 1) (.slice none 0 0) [] := ⟨rfl, kX.2, ⟨rfl, .inl ⟨rfl, rfl⟩⟩⟩
      have hArm := arm_w ct cl tx (wr.heap.size + 1) w (by have := hbw.size; omega) HT.out m true x _ hR (HG.out.1 x hxm) ((wr.alloc (.cells #[.int .i64 y0, .int .i64 y1, .slice y2 y3 y4, .slice y5 y6 y7, .slice y8 y9 z0, .slice z1 z2 z3] 60)).alloc (.cells #[.string ⟨#[]⟩, .string ⟨#[]⟩, .string ⟨#[97, 110, 100, 40]⟩, .string ⟨#[111, 114, 40]⟩, .string ⟨#[110, 111, 116, 40]⟩, .string ⟨#[45, 62]⟩, .string ⟨#[91]⟩, .string ⟨#[124]⟩, .string ⟨#[93]⟩, .string ⟨#[41]⟩, .slice none 0 0] 64)) (.slice none 0 0) [] (hbw.trans (gX.mono hbw.size)) hWr (by have := HG.out.2.2 x hxm; simp; omega)
      have HArm : Hid (Calls Tryz.prog 28 #[.pointer (some ⟨wr.heap.size + 1, 0, none⟩), .agg #[.int .i64 y0, .int .i64 y1, .slice y2 y3 y4, .slice y5 y6 y7, .slice y8 y9 z0, .slice z1 z2 z3]] ((wr.alloc (.cells #[.int .i64 y0, .int .i64 y1, .slice y2 y3 y4, .slice y5 y6 y7, .slice y8 y9 z0, .slice z1 z2 z3] 60)).alloc (.cells #[.string ⟨#[]⟩, .string ⟨#[]⟩, .string ⟨#[97, 110, 100, 40]⟩, .string ⟨#[111, 114, 40]⟩, .string ⟨#[110, 111, 116, 40]⟩, .string ⟨#[45, 62]⟩, .string ⟨#[91]⟩, .string ⟨#[124]⟩, .string ⟨#[93]⟩, .string ⟨#[41]⟩, .slice none 0 0] 64)) fun e W' => e = .returned (.tuple #[]) ∧ ∃ v', WrS sgA W' (wr.heap.size + 1) v' (y :: ys) ∧ WK (wr.heap.size + 1) (.slice none 0 0) v' ((wr.alloc (.cells #[.int .i64 y0, .int .i64 y1, .slice y2 y3 y4, .slice y5 y6 y7, .slice y8 y9 z0, .slice z1 z2 z3] 60)).alloc (.cells #[.string ⟨#[]⟩, .string ⟨#[]⟩, .string ⟨#[97, 110, 100, 40]⟩, .string ⟨#[111, 114, 40]⟩, .string ⟨#[110, 111, 116, 40]⟩, .string ⟨#[45, 62]⟩, .string ⟨#[91]⟩, .string ⟨#[124]⟩, .string ⟨#[93]⟩, .string ⟨#[41]⟩, .slice none 0 0] 64)) W') := by
        rw [hw] at hArm; exact hArm
      have HXk : Hid (Below wr.heap.size wr ((wr.alloc (.cells #[.int .i64 y0, .int .i64 y1, .slice y2 y3 y4, .slice y5 y6 y7, .slice y8 y9 z0, .slice z1 z2 z3] 60)).alloc (.cells #[.string ⟨#[]⟩, .string ⟨#[]⟩, .string ⟨#[97, 110, 100, 40]⟩, .string ⟨#[111, 114, 40]⟩, .string ⟨#[110, 111, 116, 40]⟩, .string ⟨#[45, 62]⟩, .string ⟨#[91]⟩, .string ⟨#[124]⟩, .string ⟨#[93]⟩, .string ⟨#[41]⟩, .slice none 0 0] 64)) ∧ ((wr.alloc (.cells #[.int .i64 y0, .int .i64 y1, .slice y2 y3 y4, .slice y5 y6 y7, .slice y8 y9 z0, .slice z1 z2 z3] 60)).alloc (.cells #[.string ⟨#[]⟩, .string ⟨#[]⟩, .string ⟨#[97, 110, 100, 40]⟩, .string ⟨#[111, 114, 40]⟩, .string ⟨#[110, 111, 116, 40]⟩, .string ⟨#[45, 62]⟩, .string ⟨#[91]⟩, .string ⟨#[124]⟩, .string ⟨#[93]⟩, .string ⟨#[41]⟩, .slice none 0 0] 64)).heap[wr.heap.size]? = some (.cells #[.int .i64 y0, .int .i64 y1, .slice y2 y3 y4, .slice y5 y6 y7, .slice y8 y9 z0, .slice z1 z2 z3] 60 (0, 0))) := ⟨gX, kX.1⟩
      have hyb : bdW (y :: ys) := by rw [← hw]; exact bd_arm tx HTX.out m x
      have hyl : (y :: ys).length ≤ 2000 := by rw [← hw]; exact HG.out.2.2 x hxm
      have hjl := joinL_len y ys hyb
      have HTE : Hid (textL tx m (xs.take (n + 1)) = textL tx m (xs.take n) ++ lineL (y :: ys)) := (by
        unfold textL
        rw [List.take_add_one, hxn, ← hw]; simp : textL tx m (xs.take (n + 1)) = textL tx m (xs.take n) ++ lineL (y :: ys))
      obtain ⟨J, HJ⟩ : ∃ J : ByteArray, Hid (J = ⟨(joinL (y :: ys)).toArray⟩) := ⟨_, rfl⟩
      have hJs : J.size ≤ 301 * 2000 := by rw [HJ.out]; show (joinL (y :: ys)).toArray.size ≤ _; rw [List.size_toArray]; omega
      have hz : ¬ 9223372036854775807 < J.size + 1 := by omega
      have HLens : Hid ((textL tx m (xs.take n)).length ≤ 40 * (301 * 2000 + 1) ∧ J.size ≤ 301 * 2000 ∧ (y :: ys).length ≤ 2000 ∧ (joinL (y :: ys)).length ≤ 301 * 2000) := ⟨htl, hJs, hyl, by omega⟩
      clear hrg hcs hR hxn hbw gX kX g1X rG1 hWr hArm hyb hyl hjl hJs hw hm hxm htl
      go_wp2_with (first | (refine wpL_load rfl 47 _ rfl _ _ rfl _ HLd.out ?_) | fail)
      refine HArm.out.mono ?_
      rintro e w4 ⟨rfl, v', hS4, hK4⟩
      obtain ⟨gj, cj, hv', HJn⟩ := join_i hS4 HLens.out.2.2.1 HLens.out.2.2.2
      have c10 : w4.cell? ⟨wr.heap.size + 1, 10, none⟩ = some v' := (cell_of_row _ _ _ _ _ _ hS4.2.1).trans (wrA_last sgA v' rfl)
      rw [← HJ.out] at HJn
      have HJN : Hid (Calls Tryz.prog 30 #[v', .string ⟨#[32]⟩] w4 fun e w' => e = .returned (.string J) ∧ Below w4.heap.size w4 w') := HJn
      have HK4 : Hid (∀ k, k < wr.heap.size → w4.heap[k]? = wr.heap[k]?) := fun k hk => by
        have h1 := hK4.below.block k (by omega)
        exact h1.trans (HXk.out.1.block k hk)
      have HZ4 : Hid (wr.heap.size ≤ w4.heap.size) := Nat.le_trans HXk.out.1.size hK4.below.size
      have HB4 : Hid (Below w.heap.size w w4) := HR.out.2.2.1.trans ((HXk.out.1.mono HR.out.2.2.1.size).trans (hK4.below.mono (by have := HR.out.2.2.1.size; omega)))
      clear hS4 hK4 HJn HArm HLd HXk d0 d1 d2 d3 d4 d5
      subst hv'
      go_wp2_with fail
      refine HJN.out.mono ?_
      rintro e w5 ⟨rfl, g5⟩
      have HI5 : Hid (Lib.IsBuilder 51 5 B B (Lib.byteCells (textL tx m (xs.take n))) w5 ∧ w5.heap[G]? = some (.cells #[.string ⟨#[]⟩, .string ⟨#[]⟩, .string ⟨#[97, 110, 100, 40]⟩, .string ⟨#[111, 114, 40]⟩, .string ⟨#[110, 111, 116, 40]⟩, .string ⟨#[45, 62]⟩, .string ⟨#[91]⟩, .string ⟨#[124]⟩, .string ⟨#[93]⟩, .string ⟨#[41]⟩] 47 (0, 0)) ∧ Below w.heap.size w w5 ∧ B ≤ w5.heap.size) := by
        have hk : ∀ k, k < wr.heap.size → w5.heap[k]? = wr.heap[k]? := fun k hk => (g5.block k (by have := HZ4.out; omega)).trans (HK4.out k hk)
        exact ⟨isb_later HR.out.1 hk, (hk _ (Array.getElem?_eq_some_iff.1 HR.out.2.1).1).trans HR.out.2.1, HB4.out.trans (g5.mono HB4.out.size), by have := HR.out.2.2.2; have := HZ4.out; have := g5.size; omega⟩
      have HWt : Hid (Calls Tryz.prog 29 #[.pointer (some ⟨B, 0, none⟩), .string (J ++ ⟨#[10]⟩)] w5 fun e w' => e = .returned (.tuple #[.int .i64 (J ++ ⟨#[10]⟩).size, .nilIface]) ∧ (Lib.IsBuilder 51 5 B B (Lib.byteCells (textL tx m (xs.take (n + 1)))) w' ∧ w'.heap[G]? = some (.cells #[.string ⟨#[]⟩, .string ⟨#[]⟩, .string ⟨#[97, 110, 100, 40]⟩, .string ⟨#[111, 114, 40]⟩, .string ⟨#[110, 111, 116, 40]⟩, .string ⟨#[45, 62]⟩, .string ⟨#[91]⟩, .string ⟨#[124]⟩, .string ⟨#[93]⟩, .string ⟨#[41]⟩] 47 (0, 0)) ∧ Below w.heap.size w w' ∧ B ≤ w'.heap.size)) := by
        have hsz : (J ++ ⟨#[10]⟩ : ByteArray).size = J.size + 1 := by rw [ByteArray.size_append]; rfl
        have h1 := write_i B B _ (J ++ ⟨#[10]⟩) w5 HI5.out.1 (by have := HLens.out.1; have := HLens.out.2.1; omega) HI5.out.2.2.2
        refine h1.mono fun e w' hh => ⟨hh.1, ?_, (hh.2.2.block _ (by have := HBl.out.2; have := HGG.out; omega)).trans HI5.out.2.1, HI5.out.2.2.1.trans (hh.2.2.mono (by have := HBl.out; omega)), Nat.le_trans HI5.out.2.2.2 hh.2.2.size⟩
        have e1 : (J ++ ⟨#[10]⟩ : ByteArray).data.toList = lineL (y :: ys) := by
          rw [HJ.out]; unfold lineL; simp
        have h2 := hh.2.1
        rw [e1, ← HTE.out] at h2
        exact h2
      clear g5 HJN HI5 c10
      go_wp2_with fail
      refine HWt.out.mono ?_
      rintro e w6 ⟨rfl, q⟩
      have HQ := (show Hid _ from q)
      clear q HWt
      go_wp2
      go_roundg (gk - 1)
      case measure => omega
      case rel => exact ⟨n + 1, by omega, by simp, HQ⟩
    · have i2 : ¬ ((n : Int) < (len : Int)) := by omega
      have htk : xs.take n = xs := List.take_of_length_le (by have := HLn.out; omega)
      have h0 := HR.out
      rw [htk] at h0
      have HSt : Hid (Calls Tryz.prog 31 #[.pointer (some ⟨B, 0, none⟩)] wr fun e w' => e = .returned (.string RES) ∧ Below w.heap.size w w') := (string_i B B _ wr h0.1 h0.2.2.2).mono fun e w' hh => ⟨by rw [HRES.out]; exact hh.1, h0.2.2.1.trans (hh.2.mono (by have := HBl.out; omega))⟩
      clear htk h0 htl
      go_wp2_with fail
      refine HSt.out.mono ?_
      rintro e w6 ⟨rfl, b6⟩
      go_wp2
      go_ret
      exact ⟨rfl, b6⟩
end Go.Proofs.YtgopfaegdlefpaaGreatDoor
