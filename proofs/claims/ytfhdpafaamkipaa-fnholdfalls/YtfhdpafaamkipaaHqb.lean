/- The law FnHoldFalls, walked. Made by tools/gen19_hqb.py. -/
import Derived.Test.YtfhdpafaamkipaaHqa
import Derived.Test.YtfhdpafaamkipaaHpj
import Derived.Test.YtfhdpafaamkipaaHpq
import Derived.Deep.RegionLaw
import Derived.Deep.RegionHeld3
namespace Go.Proofs.Ytfhdpafaamkipaa
open Go.RowKit
set_option linter.unusedVariables false
set_option linter.unusedSimpArgs false

theorem into_len18 (s : SlotT) (x : WrT) : (intoT s x).data.length ≤ max s.data.length 20100 := by
  unfold intoT
  split
  · exact Nat.le_max_left _ _
  · split
    · exact Nat.le_max_left _ _
    · split
      · exact Nat.zero_le _
      · split
        · next h => simp only [List.length_append, List.length_singleton]; omega
        · exact Nat.le_max_left _ _
theorem do_len18 (r : RomT) (x : WrT) (N : Nat) (hN : 20100 ≤ N) (h : r.a.data.length ≤ N ∧ r.b.data.length ≤ N) : (doT r x).a.data.length ≤ N ∧ (doT r x).b.data.length ≤ N := by
  have h1 := into_len18 r.a x
  have h2 := into_len18 r.b x
  unfold doT
  split
  · exact ⟨by show (intoT r.a x).data.length ≤ N; omega, h.2⟩
  · split
    · exact ⟨h.1, by show (intoT r.b x).data.length ≤ N; omega⟩
    · exact h
theorem play_len18 (N : Nat) (hN : 20100 ≤ N) : ∀ (ws : List WrT) (r : RomT), r.a.data.length ≤ N ∧ r.b.data.length ≤ N → (playT r ws).a.data.length ≤ N ∧ (playT r ws).b.data.length ≤ N
  | [], r, h => h
  | x :: ws, r, h => by
    rw [play_cons]
    exact play_len18 N hN ws _ (do_len18 r x N hN h)
/-- The store stands in its box; its bytes. -/
def ST (w : World) (R : RomT) (xa : Option Addr) (na ca : Nat) (xb : Option Addr) (nb cb : Nat) (W : World) : Prop :=
  W.heap[w.heap.size]? = some (.cells #[.int .u8 R.a.mark, .int .u8 R.a.turn, .slice xa na ca, .int .u8 R.b.mark, .int .u8 R.b.turn, .slice xb nb cb] 26 (0, 0)) ∧ Ob W (w.heap.size + 1) xa na (fL R.a.data) ∧ Ob W (w.heap.size + 1) xb nb (fL R.b.data) ∧ (na = R.a.data.length ∧ nb = R.b.data.length) ∧ Below w.heap.size w W
theorem ST.outs {S : Nat → Prop} {w : World} {R : RomT} {xa xb : Option Addr} {na ca nb cb : Nat} {W W' : World} (h : ST w R xa na ca xb nb cb W) (b : Outs S W W') (hs : ∀ k, S k → W.heap.size ≤ k) : ST w R xa na ca xb nb cb W' := by
  obtain ⟨h1, h2, h3, h4, h5⟩ := h
  have hlt := (Array.getElem?_eq_some_iff.1 h1).1
  exact ⟨b.row h1 (fun e => by have := hs _ e; omega), h2.outs b (fun g e e' => by have := hs _ e'; have := (h2.lt g e).2; omega), h3.outs b (fun g e e' => by have := hs _ e'; have := (h3.lt g e).2; omega), h4, b.below h5 (Nat.le_of_lt hlt) (fun k e => by have := hs k e; omega)⟩
theorem ST.later {w : World} {R : RomT} {xa xb : Option Addr} {na ca nb cb : Nat} {W W' : World} (h : ST w R xa na ca xb nb cb W) (b : Below W.heap.size W W') : ST w R xa na ca xb nb cb W' :=
  h.outs (S := fun k => W.heap.size ≤ k) (.of_below b) (fun k e => e)
/-- What the law keeps. -/
def KP (w : World) (ka : Option Addr) (kn : Nat) (kd : List Nat) (W : World) : Prop := Ob W (w.heap.size + 1) ka kn (fL kd) ∧ kn = kd.length
theorem KP.outs {S : Nat → Prop} {w : World} {ka : Option Addr} {kn : Nat} {kd : List Nat} {W W' : World} (h : KP w ka kn kd W) (b : Outs S W W') (hs : ∀ k, S k → W.heap.size ≤ k) : KP w ka kn kd W' :=
  ⟨h.1.outs b (fun g e e' => by have := hs _ e'; have := (h.1.lt g e).2; omega), h.2⟩
theorem KP.later {w : World} {ka : Option Addr} {kn : Nat} {kd : List Nat} {W W' : World} (h : KP w ka kn kd W) (b : Below W.heap.size W W') : KP w ka kn kd W' := h.outs (S := fun k => W.heap.size ≤ k) (.of_below b) (fun k e => e)
theorem KP.set {w : World} {ka : Option Addr} {kn : Nat} {kd : List Nat} {W : World} (h : KP w ka kn kd W) (o : Nat) (v : Value) : KP w ka kn kd (W.setCell ⟨w.heap.size, o, none⟩ v) :=
  ⟨h.1.outs (outs_set (S := fun k => k = w.heap.size) W w.heap.size o v rfl) (fun g e e' => by have := (h.1.lt g e).1; omega), h.2⟩
theorem ob_base {W : World} {b b' n : Nat} {a : Option Addr} {f : Nat → Nat} (h : Ob W b a n f) (hb : b' ≤ b) : Ob W b' a n f := h.base hb
/-- A store of numbers that are bytes, no longer than a slot has room. -/
def Ok18 (R : RomT) : Prop := Byt R ∧ R.a.data.length ≤ 20100 ∧ R.b.data.length ≤ 20100
theorem Ok18.rom {R : RomT} (h : Ok18 R) : RomOk R R.a.data.length R.b.data.length := ⟨⟨h.1.1.1, h.1.1.2.1, rfl⟩, h.1.2.1, h.1.2.2.1, rfl⟩
theorem ok18_play {R : RomT} (h : Ok18 R) (d : List Nat) (hd : ∀ x ∈ d, x < 256) (n : Nat) : Ok18 (playT R ((planL R d).take n)) := by
  refine ⟨play_byt _ _ (fun x hx => plan_byt R d hd x (List.mem_of_mem_take hx)) h.1, ?_⟩
  have := play_len18 20100 (Nat.le_refl _) ((planL R d).take n) R h.2
  exact this
theorem falls {R : RomT} {kd d : List Nat} {hb : Bool} (h : nowT R = (kd, hb)) (hd : d.length ≤ 20100) (n : Nat) : nowT (playT R ((planL R d).take n)) = if d.length + 4 ≤ n then (d, true) else (kd, hb) := by
  split
  · next h4 => exact (new_kept R d n hd h4).1
  · next h4 => rw [old_kept R d n (by omega), h]
theorem oww_cap {w : World} {base : Nat} {a : Option Addr} {n c : Nat} {l : List WrT} (h : OwW w base (.slice a n c) l) : n ≤ c := by
  rcases h.2 with ⟨hv, _⟩ | ⟨g, cp, cur, hv, hb, hg, hn, _⟩
  · simp only [Value.slice.injEq] at hv; omega
  · simp only [Value.slice.injEq] at hv
    obtain ⟨_, rfl, rfl⟩ := hv
    exact hn
set_option maxRecDepth 10000 in
set_option maxHeartbeats 16000000 in
theorem law_falls (a : Option Addr) (n c : Nat) (f : Nat → Nat) (w : World) (hf : ∀ j, f j < 256) (hn : n ≤ 1048576) (hc : Bt w a n f) :
    Calls Try.prog 4 #[.slice a n c] w fun e w' => e = .returned (.bool true) ∧ Below w.heap.size w w' := by
  have HC : Hid (Bt w a n f ∧ ∀ j, f j < 256) := ⟨hc, hf⟩
  obtain ⟨ti, hi, hz0, hz1, hz2⟩ := info_parts infoU8
  have HI : Hid (Try.prog.info? 5 = some ti ∧ ti.zero = some (.int .u8 0) ∧ ti.size = 1 ∧ ti.bytes = 1) := ⟨hi, hz0, hz1, hz2⟩
  have HPl : Hid (∀ W R xa na ca xb nb cb a n c d, RomOk R na nb → d.length = n → n ≤ 1048576 → Bt W a n (fL d) → Calls Try.prog 14 #[romV R xa xb na ca nb cb, .slice a n c] W fun e w' => PlanR R d W e w') := fun W R xa na ca xb nb cb a n c d h1 h2 h3 h4 => plan_i R xa xb na ca nb cb a n c d W h1 h2 h3 h4
  have HPy : Hid (∀ W R xa na ca xb nb cb a n c ws k, RomOk R na nb → na ≤ 1048576 → nb ≤ 1048576 → Bt W xa na (fL R.a.data) → Bt W xb nb (fL R.b.data) → n = ws.length → n ≤ 2000000 → n ≤ c → WsA W a n (fW ws) → Calls Try.prog 17 #[romV R xa xb na ca nb cb, .slice a n c, .int .i64 k] W fun e w' => RomR (playT R (ws.take k.toNat)) W e w') := fun W R xa na ca xb nb cb a n c ws k h1 h2 h3 h4 h5 h6 h7 h8 h9 => play_i R xa xb na ca nb cb a n c ws k W h1 h2 h3 h4 h5 h6 h7 h8 h9
  have HNo : Hid (∀ W R xa na ca xb nb cb, RomOk R na nb → na ≤ 1048576 → nb ≤ 1048576 → Bt W xa na (fL R.a.data) → Bt W xb nb (fL R.b.data) → Calls Try.prog 16 #[romV R xa xb na ca nb cb] W fun e w' => NowR R W e w') := fun W R xa na ca xb nb cb h1 h2 h3 h4 h5 => hnow_i R xa xb na ca nb cb W h1 h2 h3 h4 h5
  have HWh : Hid (∀ W a1 a2 n c1 c2 b (l : List Nat), (∀ x ∈ l, x < 256) → Bt W a1 n (fL l) → Bt W a2 n (fL l) → Calls Try.prog 18 #[.slice a1 n c1, .bool b, .slice a2 n c2, .bool b] W fun e w' => e = .returned (.bool true) ∧ Below W.heap.size W w') := fun W a1 a2 n c1 c2 b l h1 h2 h3 => wh_same a1 a2 n c1 c2 b _ W (fL_byt h1) h2 h3
  have i1 : ¬ (1048576 : Int) < (n : Int) := by omega
  obtain ⟨k0, k1, hz, b0⟩ := two_alloc w (.cells #[.int .u8 0, .int .u8 0, .slice none 0 0, .int .u8 0, .int .u8 0, .slice none 0 0] 26) (.cells #[] 5)
  have HS0 : Hid (ST w ⟨⟨0, 0, []⟩, ⟨0, 0, []⟩⟩ none 0 0 none 0 0 ((w.alloc (.cells #[.int .u8 0, .int .u8 0, .slice none 0 0, .int .u8 0, .int .u8 0, .slice none 0 0] 26)).alloc (.cells #[] 5))) := ⟨k0, .inl ⟨rfl, rfl⟩, .inl ⟨rfl, rfl⟩, ⟨rfl, rfl⟩, b0⟩
  have HK0 : Hid (KP w (some ⟨w.heap.size + 1, 0, none⟩) 0 [] ((w.alloc (.cells #[.int .u8 0, .int .u8 0, .slice none 0 0, .int .u8 0, .int .u8 0, .slice none 0 0] 26)).alloc (.cells #[] 5))) := by
    have h := owb_ob (owb_made (w.alloc (.cells #[.int .u8 0, .int .u8 0, .slice none 0 0, .int .u8 0, .int .u8 0, .slice none 0 0] 26)) (w.heap.size + 1) (by rw [World.size_alloc]; exact Nat.le_refl _))
    rw [World.size_alloc] at h
    exact ⟨h, rfl⟩
  have HO0 : Hid (Ok18 ⟨⟨0, 0, []⟩, ⟨0, 0, []⟩⟩ ∧ nowT ⟨⟨0, 0, []⟩, ⟨0, 0, []⟩⟩ = ([], false)) := ⟨⟨⟨⟨by decide, by decide, by simp⟩, by decide, by decide, by simp⟩, by simp, by simp⟩, rfl⟩
  clear hf hc hi hz0 hz1 hz2 k0 k1 hz b0 hn
  unfold romV at HPl HPy HNo
  go_enter Try.func4, Try.ntmps4
  go_wp2
  generalize ((w.alloc (.cells #[.int .u8 0, .int .u8 0, .slice none 0 0, .int .u8 0, .int .u8 0, .slice none 0 0] 26)).alloc (.cells #[] 5)) = W0 at HS0 HK0 ⊢
  go_loopw [4, 5, 6] (fun kp hv i wr => ∃ (i' : Nat) (R : RomT) (xa : Option Addr) (na ca : Nat) (xb : Option Addr) (nb cb : Nat) (ka : Option Addr) (kn kc : Nat) (kd : List Nat) (hb : Bool), i = .int .i64 i' ∧ i' ≤ 121 ∧ kp = .slice ka kn kc ∧ hv = .bool hb ∧ Hid (ST w R xa na ca xb nb cb wr) ∧ Hid (KP w ka kn kd wr) ∧ Hid (Ok18 R ∧ nowT R = (kd, hb))) (fun _ _ i _ => 130 - (intOf i).toNat)
  case atStart => exact ⟨0, _, none, 0, 0, none, 0, 0, _, 0, _, [], false, rfl, by omega, rfl, rfl, HS0, HK0, HO0⟩
  case round =>
    clear HS0 HK0 HO0
    obtain ⟨i, R, xa, na, ca, xb, nb, cb, ka, kn, kc, kd, hb, rfl, hi, rfl, rfl, HS, HK, HO⟩ := hrel
    rename World => wo
    have i0 : (0 : Int) ≤ (i : Int) := by omega
    by_cases hlt : i + 1 < n ∧ i < 120
    · obtain ⟨h1, h2⟩ := hlt
      have j1 : (i : Int) + 1 < (n : Int) := by omega
      have j2 : (i : Int) < 120 := by omega
      obtain ⟨bg, bo, rfl, hbg, hcs⟩ : ∃ g o, a = some ⟨g, o, none⟩ ∧ g < w.heap.size ∧ ∀ j, j < n → w.cell? ⟨g, o + j, none⟩ = some (.int .u8 (f j : Nat)) := by
        rcases HC.out.1 with h | h
        · omega
        · exact h
      have y0 := hcs i (by omega)
      have y1 := hcs (i + 1) h1
      obtain ⟨x0, hx0⟩ : ∃ x, f i = x := ⟨_, rfl⟩
      obtain ⟨x1, hx1⟩ : ∃ x, f (i + 1) = x := ⟨_, rfl⟩
      rw [hx0] at y0
      rw [hx1] at y1
      have hb0 : x0 < 256 := by rw [← hx0]; exact HC.out.2 i
      have hb1 : x1 < 256 := by rw [← hx1]; exact HC.out.2 (i + 1)
      have HY : Hid (∀ V, Below w.heap.size w V → V.cell? ⟨bg, bo + i, none⟩ = some (.int .u8 (x0 : Nat)) ∧ V.cell? ⟨bg, bo + (i + 1), none⟩ = some (.int .u8 (x1 : Nat))) := fun V b => ⟨(b.cell (p := ⟨bg, bo + i, none⟩) hbg).trans y0, (b.cell (p := ⟨bg, bo + (i + 1), none⟩) hbg).trans y1⟩
      obtain ⟨m, hm, hm8⟩ : ∃ m : Nat, ((x0 : Nat) : Int).tmod 9 = (m : Int) ∧ m ≤ 8 := ⟨x0 % 9, by rw [Int.tmod_eq_emod_of_nonneg (by omega)]; omega, by omega⟩
      obtain ⟨nn, hnn, hn18⟩ : ∃ m : Nat, ((x1 : Nat) : Int).tmod 18 = (m : Int) ∧ m ≤ 17 := ⟨x1 % 18, by rw [Int.tmod_eq_emod_of_nonneg (by omega)]; omega, by omega⟩
      clear hcs y0 y1 hx0 hx1 h1 hi
      have own0 : OwB (wo.alloc (.cells #[] 5)) wo.heap.size (.slice (some ⟨wo.heap.size, 0, none⟩) 0 0) [] := owb_made wo wo.heap.size (Nat.le_refl _)
      have hO0 : Outs (fun x => wo.heap.size ≤ x) wo (wo.alloc (.cells #[] 5)) := .of_below ((Below.refl _ _).alloc (Nat.le_refl _) _)
      replace own0 : Hid _ := own0
      replace hO0 : Hid _ := hO0
      go_wp2
      go_loopw [7, 8] (fun dv k wk => ∃ (k' g cap : Nat) (d : List Nat), k' ≤ m ∧ k = .int .i64 k' ∧ dv = .slice (some ⟨g, 0, none⟩) k' cap ∧ Hid (OwB wk wo.heap.size (.slice (some ⟨g, 0, none⟩) k' cap) d) ∧ Hid (∀ x ∈ d, x < 256) ∧ Hid (Outs (fun x => wo.heap.size ≤ x) wo wk)) (fun _ k _ => m - (intOf k).toNat)
      case atStart => exact ⟨0, _, 0, [], Nat.zero_le _, rfl, rfl, own0, ((by intro x hx; cases hx) : ∀ x ∈ ([] : List Nat), x < 256), hO0⟩
      case round =>
        clear own0 hO0
        obtain ⟨k, g, cap, d, hk, rfl, rfl, HOw, Hd, HOu⟩ := hrel
        have HST := HS.out.outs HOu.out (fun k e => e)
        obtain ⟨z0, z1⟩ := HY.out wr HST.2.2.2.2
        by_cases hk2 : k < m
        · have j3 : (k : Int) < (m : Int) := by omega
          have hkb : (k : Int) * (x1 : Int) ≤ 2048 := by
            have h1 : k * x1 ≤ 8 * 255 := Nat.mul_le_mul (by omega) (by omega)
            have : ((k * x1 : Nat) : Int) ≤ 2048 := by omega
            rwa [Int.natCast_mul] at this
          have hkb0 : 0 ≤ (k : Int) * (x1 : Int) := Int.mul_nonneg (by omega) (by omega)
          obtain ⟨bb, hbb, hbl⟩ : ∃ b : Nat, IntKind.u8.wrap ((x0 : Int) + (k : Int) * (x1 : Int)) = (b : Int) ∧ b < 256 := ⟨(((x0 : Int) + (k : Int) * (x1 : Int)) % 256).toNat, by rw [IntKind.wrap_u8']; omega, by omega⟩
          have hdl : Hid (k = d.length) := owb_len HOw.out
          have wq : ∀ z : Int, 0 ≤ z → z ≤ 5000 → IntKind.i64.wrap z = z := fun z h1 h2 => by
            rw [IntKind.wrap_i64]
            omega
          have wx0 : IntKind.i64.wrap (x0 : Int) = (x0 : Int) := wq _ (by omega) (by omega)
          have wx1 : IntKind.i64.wrap (x1 : Int) = (x1 : Int) := wq _ (by omega) (by omega)
          have HOw1 : Hid (∀ o, (wr.alloc o).drew.ownsRow wo.heap.size 5 1 (.slice (some ⟨g, 0, none⟩) k cap) k (clB d)) := fun o => by
            have h := owb_later HOw.out ((Below.refl _ _).alloc (Nat.le_refl _) o)
            unfold OwB at h
            rw [← hdl.out] at h
            exact h.drew
          have wq1 : IntKind.i64.wrap ((i : Int) + 1) = (i : Int) + 1 := wq _ (by omega) (by omega)
          have wq2 : IntKind.i64.wrap ((k : Int) * (x1 : Int)) = (k : Int) * (x1 : Int) := wq _ hkb0 (by omega)
          have wq3 : IntKind.i64.wrap ((x0 : Int) + (k : Int) * (x1 : Int)) = (x0 : Int) + (k : Int) * (x1 : Int) := wq _ (by omega) (by omega)
          have j4 : (i : Int) < (n : Int) := by omega
          have j5 : (0 : Int) ≤ (i : Int) + 1 := by omega
          have z1' : wr.cell? ⟨bg, bo + ((i : Int) + 1).toNat, none⟩ = some (.int .u8 (x1 : Nat)) := z1
          clear HST wq
          go_upto_region 13 with fail
          go_region_law
            (first
              | (refine step_append_lies _ (by rfl) (.tmp 41) (.tmp 57) 22 (by rfl) wo.heap.size 5 ti (.int .u8 0) 1 1 Try.underlying22 HI.out.1 HI.out.2.1 HI.out.2.2.1 HI.out.2.2.2 (by rfl) (by decide) (.slice (some ⟨g, 0, none⟩) k cap) k (clB d) (by rfl) (by exact HOw1.out _) _ 1 1 [.int .u8 (bb : Nat)] (by rfl) (by rfl) (by first | exact one_news (cell_one _ _ _) | exact one_news (w := (wr.alloc _).drew) (cell_one wr _ _)) (by intro v hu; simp at hu; subst hu; rfl) (by omega) (by unfold maxLen; omega) (by omega) (by have := HOu.out.size; simp; omega) _ rfl ?_; intro g6 c6 w6 own6 gg6 hat6 hlt6)
              | fail)
          all_goals
            have hg5 : wo.heap.size ≤ g := (owb_lt HOw.out g rfl).1
            have HOw6 : Hid (OwB w6 wo.heap.size (.slice (some ⟨g6, 0, none⟩) (k + 1) c6) (d ++ [bb])) := by
              show OwB _ _ _ _
              unfold OwB
              rw [clB_app, List.length_append, ← hdl.out]
              exact own6
            have HOu6 : Hid (Outs (fun x => wo.heap.size ≤ x) wo w6) := (HOu.out.trans (.of_below ((Below.refl _ _).alloc (Nat.le_refl _) _).drew)).trans (.of_grown gg6 (fun j e => by simp [Value.ownBlock] at e; omega))
            have Hd6 : Hid (∀ x ∈ d ++ [bb], x < 256) := (fun x hx => by
              rcases List.mem_append.1 hx with hx | hx
              · exact Hd.out x hx
              · simp at hx; omega : ∀ x ∈ d ++ [bb], x < 256)
            clear own6 gg6 hat6 hlt6 hg5 HOw HOw1 HOu Hd z0 z1 z1'
            go_wp2
            go_roundw
            case rel => exact ⟨k + 1, g6, c6, d ++ [bb], by omega, by go_num, rfl, HOw6, Hd6, HOu6⟩
            case measure => simp [intOf]; omega
        · have hkm : k = m := by omega
          subst hkm
          have hdl : Hid (k = d.length) := owb_len HOw.out
          have HD1 : Hid (KP w (some ⟨g, 0, none⟩) k d wr) := ⟨(owb_ob HOw.out).base (by have := HS.out.2.2.2.2.size; have := (Array.getElem?_eq_some_iff.1 HS.out.1).1; omega), hdl.out⟩
          have HK1 : Hid (KP w ka kn kd wr) := HK.out.outs HOu.out (fun k e => e)
          have HST1 : Hid (ST w R xa na ca xb nb cb wr) := HST
          have hrom : Hid (RomOk R na nb) := (by rw [HST.2.2.2.1.1, HST.2.2.2.1.2]; exact HO.out.1.rom : RomOk R na nb)
          have hRl : Hid (na ≤ 20100 ∧ nb ≤ 20100) := (by rw [HST.2.2.2.1.1, HST.2.2.2.1.2]; exact HO.out.1.2 : na ≤ 20100 ∧ nb ≤ 20100)
          have hpl : planT R d = (planL R d, true) := by unfold planT; rw [if_pos (by have := hdl.out; omega)]
          obtain ⟨p0, p1, p2, p3, p4, p5, pf⟩ := row_cells6 HST.1
          have k3 : ¬ (k : Int) < (k : Int) := by omega
          clear HS HK HOw HOu HST hk2 hk
          go_wp2_with fail
          refine (HPl.out wr R xa na ca xb nb cb _ k cap d hrom.out hdl.out.symm (by omega) HD1.out.1.bt).mono ?_
          rintro e w2 ⟨pa, pn, pc, rfl, hpn, hOw, g2⟩
          rw [hpl] at hpn hOw ⊢
          have hcap : Hid (pn ≤ pc) := oww_cap hOw
          replace hpn : Hid (pn = (planL R d).length) := hpn
          have hWs : Hid (WsA w2 pa pn (fW (planL R d))) := (oww_ow hOw).wsa
          have HST2 : Hid (ST w R xa na ca xb nb cb w2) := HST1.out.later g2
          have HK2 : Hid (KP w ka kn kd w2) := HK1.out.later g2
          have HD2 : Hid (KP w (some ⟨g, 0, none⟩) k d w2) := HD1.out.later g2
          obtain ⟨z0, z1⟩ := HY.out w2 HST2.out.2.2.2.2
          clear hOw g2 p0 p1 p2 p3 p4 p5 pf HST1 HK1 HD1 hpl
          obtain ⟨p0, p1, p2, p3, p4, p5, pf⟩ := row_cells6 HST2.out.1
          have hpL : Hid ((planL R d).length ≤ 20105) := (by rw [plan_len]; have := hdl.out; split <;> omega : (planL R d).length ≤ 20105)
          go_wp2_with fail
          refine (HPy.out w2 R xa na ca xb nb cb pa pn pc (planL R d) (nn : Int) hrom.out (by have := hRl.out; omega) (by have := hRl.out; omega) HST2.out.2.1.bt HST2.out.2.2.1.bt hpn.out (by have := hpn.out; have := hpL.out; omega) hcap.out hWs.out).mono ?_
          rintro e w3 ⟨xa2, na2, ca2, xb2, nb2, cb2, rfl, hO3, g3⟩
          rw [Int.toNat_natCast] at hO3 ⊢
          have HOk : Hid (Ok18 (playT R ((planL R d).take nn))) := ok18_play HO.out.1 d Hd.out nn
          have HPn : Hid (nowT (playT R ((planL R d).take nn)) = if k + 4 ≤ nn then (d, true) else (kd, hb)) := (by have h := falls HO.out.2 (by have := hdl.out; omega) nn (d := d); rw [← hdl.out] at h; exact h : nowT (playT R ((planL R d).take nn)) = if k + 4 ≤ nn then (d, true) else (kd, hb))
          obtain ⟨P, hP⟩ : ∃ P, playT R ((planL R d).take nn) = P := ⟨_, rfl⟩
          rw [hP] at hO3 HOk HPn ⊢
          have i0' := row_later19 HST2.out.1 g3
          obtain ⟨s0, s1, s2, s3, s4, s5, sf⟩ := row_cells6 i0'
          have hw2 : w.heap.size + 1 ≤ w2.heap.size := (Array.getElem?_eq_some_iff.1 HST2.out.1).1
          have q0 : ∀ j, w.heap.size ≠ j → ((((((w3.setCell ⟨w.heap.size, 0, none⟩ (.int .u8 P.a.mark)).setCell ⟨w.heap.size, 1, none⟩ (.int .u8 P.a.turn)).setCell ⟨w.heap.size, 2, none⟩ (.slice xa2 na2 ca2)).setCell ⟨w.heap.size, 3, none⟩ (.int .u8 P.b.mark)).setCell ⟨w.heap.size, 4, none⟩ (.int .u8 P.b.turn)).setCell ⟨w.heap.size, 5, none⟩ (.slice xb2 nb2 cb2)).heap[j]? = w3.heap[j]? := fun j hne => (heap_set19 _ _ _ _ _ hne).trans ((heap_set19 _ _ _ _ _ hne).trans ((heap_set19 _ _ _ _ _ hne).trans ((heap_set19 _ _ _ _ _ hne).trans ((heap_set19 _ _ _ _ _ hne).trans (heap_set19 _ _ _ _ _ hne)))))
          have hkA := owb_keep (w' := ((((((w3.setCell ⟨w.heap.size, 0, none⟩ (.int .u8 P.a.mark)).setCell ⟨w.heap.size, 1, none⟩ (.int .u8 P.a.turn)).setCell ⟨w.heap.size, 2, none⟩ (.slice xa2 na2 ca2)).setCell ⟨w.heap.size, 3, none⟩ (.int .u8 P.b.mark)).setCell ⟨w.heap.size, 4, none⟩ (.int .u8 P.b.turn)).setCell ⟨w.heap.size, 5, none⟩ (.slice xb2 nb2 cb2))) hO3.a fun j e => q0 j (by have := (owb_lt hO3.a j e).1; omega)
          have hkB := owb_keep (w' := ((((((w3.setCell ⟨w.heap.size, 0, none⟩ (.int .u8 P.a.mark)).setCell ⟨w.heap.size, 1, none⟩ (.int .u8 P.a.turn)).setCell ⟨w.heap.size, 2, none⟩ (.slice xa2 na2 ca2)).setCell ⟨w.heap.size, 3, none⟩ (.int .u8 P.b.mark)).setCell ⟨w.heap.size, 4, none⟩ (.int .u8 P.b.turn)).setCell ⟨w.heap.size, 5, none⟩ (.slice xb2 nb2 cb2))) hO3.b fun j e => q0 j (by have := (owb_lt hO3.b j e).1; omega)
          have HST4 : ST w P xa2 na2 ca2 xb2 nb2 cb2 ((((((w3.setCell ⟨w.heap.size, 0, none⟩ (.int .u8 P.a.mark)).setCell ⟨w.heap.size, 1, none⟩ (.int .u8 P.a.turn)).setCell ⟨w.heap.size, 2, none⟩ (.slice xa2 na2 ca2)).setCell ⟨w.heap.size, 3, none⟩ (.int .u8 P.b.mark)).setCell ⟨w.heap.size, 4, none⟩ (.int .u8 P.b.turn)).setCell ⟨w.heap.size, 5, none⟩ (.slice xb2 nb2 cb2)) := by
            refine ⟨row_put19 (row_put19 (row_put19 (row_put19 (row_put19 (row_put19 i0' 0 (.int .u8 P.a.mark)) 1 (.int .u8 P.a.turn)) 2 (.slice xa2 na2 ca2)) 3 (.int .u8 P.b.mark)) 4 (.int .u8 P.b.turn)) 5 (.slice xb2 nb2 cb2), (owb_ob hkA).base hw2, (owb_ob hkB).base hw2, ⟨owb_len hkA, owb_len hkB⟩, ?_⟩
            iterate 6 refine bel_set ?_ (Nat.le_refl _) _ _
            exact HST2.out.2.2.2.2.trans (g3.mono HST2.out.2.2.2.2.size)
          have HK4 : KP w ka kn kd ((((((w3.setCell ⟨w.heap.size, 0, none⟩ (.int .u8 P.a.mark)).setCell ⟨w.heap.size, 1, none⟩ (.int .u8 P.a.turn)).setCell ⟨w.heap.size, 2, none⟩ (.slice xa2 na2 ca2)).setCell ⟨w.heap.size, 3, none⟩ (.int .u8 P.b.mark)).setCell ⟨w.heap.size, 4, none⟩ (.int .u8 P.b.turn)).setCell ⟨w.heap.size, 5, none⟩ (.slice xb2 nb2 cb2)) := ((((((HK2.out.later g3).set _ _).set _ _).set _ _).set _ _).set _ _).set _ _
          have HD4 : KP w (some ⟨g, 0, none⟩) k d ((((((w3.setCell ⟨w.heap.size, 0, none⟩ (.int .u8 P.a.mark)).setCell ⟨w.heap.size, 1, none⟩ (.int .u8 P.a.turn)).setCell ⟨w.heap.size, 2, none⟩ (.slice xa2 na2 ca2)).setCell ⟨w.heap.size, 3, none⟩ (.int .u8 P.b.mark)).setCell ⟨w.heap.size, 4, none⟩ (.int .u8 P.b.turn)).setCell ⟨w.heap.size, 5, none⟩ (.slice xb2 nb2 cb2)) := ((((((HD2.out.later g3).set _ _).set _ _).set _ _).set _ _).set _ _).set _ _
          clear hkA hkB q0 hw2 i0' hO3 g3 hP HST2 HK2 HD2 hWs p0 p1 p2 p3 p4 p5 pf z0 z1 hrom hRl hpn hcap hpL HO Hd
          unfold romV
          go_upto_region 19 with fail
          generalize ((((((w3.setCell ⟨w.heap.size, 0, none⟩ (.int .u8 P.a.mark)).setCell ⟨w.heap.size, 1, none⟩ (.int .u8 P.a.turn)).setCell ⟨w.heap.size, 2, none⟩ (.slice xa2 na2 ca2)).setCell ⟨w.heap.size, 3, none⟩ (.int .u8 P.b.mark)).setCell ⟨w.heap.size, 4, none⟩ (.int .u8 P.b.turn)).setCell ⟨w.heap.size, 5, none⟩ (.slice xb2 nb2 cb2)) = V at HST4 HK4 HD4 ⊢
          clear s0 s1 s2 s3 s4 s5 sf
          have HRm : Hid (RomOk P na2 nb2) := (by rw [HST4.2.2.2.1.1, HST4.2.2.2.1.2]; exact HOk.out.rom : RomOk P na2 nb2)
          have HRl : Hid (na2 ≤ 20100 ∧ nb2 ≤ 20100) := (by rw [HST4.2.2.2.1.1, HST4.2.2.2.1.2]; exact HOk.out.2 : na2 ≤ 20100 ∧ nb2 ≤ 20100)
          obtain ⟨p0, p1, p2, p3, p4, p5, pf⟩ := row_cells6 HST4.1
          replace HST4 : Hid (ST w P xa2 na2 ca2 xb2 nb2 cb2 V) := HST4
          replace HK4 : Hid (KP w ka kn kd V) := HK4
          replace HD4 : Hid (KP w (some ⟨g, 0, none⟩) k d V) := HD4
          by_cases h4 : k + 4 ≤ nn
          · have HNw : Hid (nowT P = (d, true)) := (by rw [HPn.out, if_pos h4] : nowT P = (d, true))
            have HKf : Hid (KP w (some ⟨g, 0, none⟩) k d V) := HD4
            have HBy : Hid (∀ x ∈ d, x < 256) := (by have h := now_byt HOk.out.1; rw [HNw.out] at h; exact h : ∀ x ∈ d, x < 256)
            have i4 : ((k : Int) + 4 ≤ (nn : Int)) := by omega
            clear h4
            go_wp2_with fail
            refine (HNo.out V P xa2 na2 ca2 xb2 nb2 cb2 HRm.out (by have := HRl.out; omega) (by have := HRl.out; omega) HST4.out.2.1.bt HST4.out.2.2.1.bt).mono ?_
            rintro e w5 ⟨ea, en, ec, rfl, hen, hOe, g5⟩
            rw [HNw.out] at hen hOe ⊢
            replace hen : Hid (en = d.length) := hen
            have hkn : Hid (k = d.length) := HKf.out.2
            have HST5 : Hid (ST w P xa2 na2 ca2 xb2 nb2 cb2 w5) := HST4.out.later g5
            have HK5 : Hid (KP w (some ⟨g, 0, none⟩) k d w5) := HKf.out.later g5
            have hbt : Hid (Bt w5 ea en (fL d)) := (owb_ob hOe).bt
            have hee : en = k := hen.out.trans hkn.out.symm
            subst hee
            clear hOe g5 HST4 HKf HK4 HD4
            go_wp2_with fail
            refine (HWh.out w5 ea _ _ _ _ _ d HBy.out hbt.out HK5.out.1.bt).mono ?_
            rintro e w6 ⟨rfl, g6⟩
            have HST6 : Hid (ST w P xa2 na2 ca2 xb2 nb2 cb2 w6) := HST5.out.later g6
            have HK6 : Hid (KP w (some ⟨g, 0, none⟩) en d w6) := HK5.out.later g6
            clear g6 HST5 HK5 hbt p0 p1 p2 p3 p4 p5 pf
            go_wp2
            go_roundw
            case rel => exact ⟨i + 2, P, xa2, na2, ca2, xb2, nb2, cb2, (some ⟨g, 0, none⟩), en, cap, d, true, by go_num, by omega, rfl, rfl, HST6, HK6, ⟨HOk.out, HNw.out⟩⟩
            case measure => simp [intOf]; omega
          · have HNw : Hid (nowT P = (kd, hb)) := (by rw [HPn.out, if_neg h4] : nowT P = (kd, hb))
            have HKf : Hid (KP w ka kn kd V) := HK4
            have HBy : Hid (∀ x ∈ kd, x < 256) := (by have h := now_byt HOk.out.1; rw [HNw.out] at h; exact h : ∀ x ∈ kd, x < 256)
            have i4 : ¬ ((k : Int) + 4 ≤ (nn : Int)) := by omega
            clear h4
            go_wp2_with fail
            refine (HNo.out V P xa2 na2 ca2 xb2 nb2 cb2 HRm.out (by have := HRl.out; omega) (by have := HRl.out; omega) HST4.out.2.1.bt HST4.out.2.2.1.bt).mono ?_
            rintro e w5 ⟨ea, en, ec, rfl, hen, hOe, g5⟩
            rw [HNw.out] at hen hOe ⊢
            replace hen : Hid (en = kd.length) := hen
            have hkn : Hid (kn = kd.length) := HKf.out.2
            have HST5 : Hid (ST w P xa2 na2 ca2 xb2 nb2 cb2 w5) := HST4.out.later g5
            have HK5 : Hid (KP w ka kn kd w5) := HKf.out.later g5
            have hbt : Hid (Bt w5 ea en (fL kd)) := (owb_ob hOe).bt
            have hee : en = kn := hen.out.trans hkn.out.symm
            subst hee
            clear hOe g5 HST4 HKf HK4 HD4
            go_wp2_with fail
            refine (HWh.out w5 ea _ _ _ _ _ kd HBy.out hbt.out HK5.out.1.bt).mono ?_
            rintro e w6 ⟨rfl, g6⟩
            have HST6 : Hid (ST w P xa2 na2 ca2 xb2 nb2 cb2 w6) := HST5.out.later g6
            have HK6 : Hid (KP w ka en kd w6) := HK5.out.later g6
            clear g6 HST5 HK5 hbt p0 p1 p2 p3 p4 p5 pf
            go_wp2
            go_roundw
            case rel => exact ⟨i + 2, P, xa2, na2, ca2, xb2, nb2, cb2, ka, en, kc, kd, hb, by go_num, by omega, rfl, rfl, HST6, HK6, ⟨HOk.out, HNw.out⟩⟩
            case measure => simp [intOf]; omega
    · have HF : Hid (Below w.heap.size w wo) := HS.out.2.2.2.2
      clear HS HK HO HI HC
      by_cases h1 : (i : Int) + 1 < (n : Int)
      · have h2 : ¬ (i : Int) < 120 := by omega
        go_wp2
        go_ret
        exact ⟨rfl, HF.out⟩
      · go_wp2
        go_ret
        exact ⟨rfl, HF.out⟩
end Go.Proofs.Ytfhdpafaamkipaa
