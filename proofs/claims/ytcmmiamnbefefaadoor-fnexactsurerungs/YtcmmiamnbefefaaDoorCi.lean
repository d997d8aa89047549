/- A list in new memory: the specification's l12Copy. -/
import Derived.Test.YtcmmiamnbefefaaDoorCh
import Derived.Deep.Upon
namespace Go.Proofs.YtcmmiamnbefefaaDoor
open Go.RowKit
set_option linter.unusedVariables false

section
variable {P : Program} {w : World}
/-- An append whose run is known, at a step of a region that draws. -/
theorem step_app_run {ops : Array Oper} {o : Oper} {a : Act} {K : Act → World → Prop} {Q : Exit → Act → World → Prop} {E : Prop} (hgd : o.guard = none) (s x : Operand) (t : TypeId)
    (ho : o.op = .call { callee := .builtin .append, args := #[s, x], argTypes := #[t, t] }) (v y : Value) (hs : a.eval s = v) (hx : a.eval x = y) (v' : Value) (w' : World)
    (hr : ∀ ty, (Builtin.append_ #[t, t] ty #[v, y]).run P w = .ok v' w') (h : K (a.put o.dst v') w') :
    if Region.wanted o (yielded ops a.tmps) = true then Oper.wp P o a w K Q else E := by
  have hw : Region.wanted o (yielded ops a.tmps) = true := by simp [Region.wanted, hgd]
  rw [if_pos hw]
  unfold Oper.wp execOp
  simp only [ho, resolve, invoke, builtin, Sem.run_bind, Sem.run_pure, Result.andThen_ok, List.map_toArray, List.map_cons, List.map_nil, hs, hx, hr]
  exact h
end

theorem avs_at {w : World} {lo : Nat} {a : Option Addr} {n cp : Nat} {xs : List ArgT} (h : RowIs w lo 3 ArgIs (.slice a n cp) xs) (h0 : 0 < xs.length) : ∃ b o, a = some ⟨b, o, none⟩ ∧ b < w.heap.size ∧ ∀ (j : Nat) (u : Value), (avs xs)[j]? = some u → w.cell? ⟨b, o + j, none⟩ = some u := by
  obtain ⟨a', cp', e, _, hx⟩ := h
  cases e
  obtain ⟨b, o, cs, rfl, _, _, hr, hR⟩ := hx 0 _ (List.getElem?_eq_getElem h0)
  have hR : cs = _ := hR
  refine ⟨b, o, rfl, World.block_lt_of_cell? _ _ (hr 0 _ (by rw [hR]; rfl)), ?_⟩
  have key : ∀ (ys : List ArgT) (k : Nat), (∀ i y, ys[i]? = some y → w.rangeAt b (o + (k + i) * 3) [.int .i64 y.1, .int .i64 y.2.1, .int .i64 y.2.2]) → ∀ (j : Nat) (u : Value), (avs ys)[j]? = some u → w.cell? ⟨b, o + k * 3 + j, none⟩ = some u := by
    intro ys
    induction ys with
    | nil => intro k _ j u hu; simp [avs] at hu
    | cons y ys ih =>
      intro k hk j u hu
      have hav : avs (y :: ys) = [.int .i64 y.1, .int .i64 y.2.1, .int .i64 y.2.2] ++ avs ys := rfl
      rw [hav] at hu
      by_cases hj : j < 3
      · rw [List.getElem?_append_left (by simpa using hj)] at hu
        have := hk 0 y rfl j u hu
        simpa using this
      · rw [List.getElem?_append_right (by simp; omega)] at hu
        have := ih (k + 1) (fun i y' hy => by have := hk (i + 1) y' hy; rwa [show k + (i + 1) = k + 1 + i by omega] at this) (j - 3) u (by simpa using hu)
        rwa [show o + (k + 1) * 3 + (j - 3) = o + k * 3 + j by omega] at this
  intro j u hu
  have := key xs 0 (fun i y hy => by
    obtain ⟨b', o', cs', e, _, _, hr', hR'⟩ := hx i y hy
    simp only [Option.some.injEq, Addr.mk.injEq] at e
    obtain ⟨rfl, rfl, _⟩ := e
    have hR' : cs' = _ := hR'
    rw [hR'] at hr'
    simpa using hr') j u hu
  simpa using this

/-- The operands behind an empty row of one's own. -/
theorem app_args (W : World) (base lo : Nat) (ua : Option Addr) (ul uc : Nat) (xs : List ArgT) (hul : ul = xs.length) (hbig : ul ≤ 1048576) (hb : base ≤ W.heap.size) (hv : ArgsIs W lo (.slice ua ul uc) xs) :
    ∃ (g cap : Nat) (w' : World), (∀ ty, (Builtin.append_ #[46, 46] ty #[.slice (some ⟨W.heap.size, 0, none⟩) 0 0, .slice ua ul uc]).run Tryd.prog (W.alloc (.cells #[] 88)) = .ok (.slice (some ⟨g, 0, none⟩) ul cap) w') ∧ w'.ownsRow base 88 3 (.slice (some ⟨g, 0, none⟩) ul cap) ul (avs xs) ∧ (W.alloc (.cells #[] 88)).grownBy w' (some W.heap.size) ∧ W.heap.size ≤ g := by
  have hinfo : (Tryd.prog.info? 88).map (fun i => (i.zero, i.size, i.bytes)) = some (some (.agg #[.int .i64 0, .int .i64 0, .int .i64 0]), 3, 24) := by kernel_rfl
  obtain ⟨ti, hi, hzz⟩ := Option.map_eq_some_iff.1 hinfo
  simp only [Prod.mk.injEq] at hzz
  obtain ⟨hz0, hz1, hz2⟩ := hzz
  have own0 : (W.alloc (.cells #[] 88)).ownsRow base 88 3 (.slice (some ⟨W.heap.size, 0, none⟩) 0 0) 0 [] := World.ownsRow_made (base := base) (e := 88) (size := 3) W #[] 0 hb (by unfold maxLen; omega) rfl
  by_cases h0 : 0 < xs.length
  · obtain ⟨b, o, rfl, hbl, hc⟩ := avs_at hv h0
    have hav := avs_len xs
    have hrun := fun ty => run_append_lies (P := Tryd.prog) (W.alloc (.cells #[] 88)) 46 ty base 88 ti (.agg #[.int .i64 0, .int .i64 0, .int .i64 0]) 3 24 Tryd.underlying46 hi hz0 hz1 hz2 rfl (by decide) (.slice (some ⟨W.heap.size, 0, none⟩) 0 0) 0 [] own0 ⟨b, o, none⟩ ul uc (avs xs) (by rw [hav, hul]) (fun j u hu => by
      rw [show (⟨b, o, none⟩ : Addr).add j = ⟨b, o + j, none⟩ from Addr.add_mid b o j]
      exact (Keeps.of_below ((Below.refl _ _).alloc (Nat.le_refl _) _) 0) _ _ _ (Nat.zero_le _) (hc j u hu)) (avs_one xs) (by omega) (by unfold maxLen; omega) (by omega) (by simp; omega) _ rfl
    obtain ⟨g, cap, w', hr, own, gg, hat, hlt⟩ := hrun 46
    refine ⟨g, cap, w', fun ty => ?_, by simpa using own, gg, ?_⟩
    · have : (Builtin.append_ #[46, 46] ty #[.slice (some ⟨W.heap.size, 0, none⟩) 0 0, .slice (some ⟨b, o, none⟩) ul uc]).run Tryd.prog (W.alloc (.cells #[] 88)) = (Builtin.append_ #[46, 46] 46 #[.slice (some ⟨W.heap.size, 0, none⟩) 0 0, .slice (some ⟨b, o, none⟩) ul uc]).run Tryd.prog (W.alloc (.cells #[] 88)) := by simp only [Builtin.append_]
      rw [this, hr]
      simp
    · rcases hat with h | h
      · simp [Value.ownBlock] at h; omega
      · simp at h; omega
  · have hx0 : xs = [] := List.length_eq_zero_iff.1 (by omega)
    subst hx0
    have hul0 : ul = 0 := by simpa using hul
    subst hul0
    refine ⟨W.heap.size, 0, W.alloc (.cells #[] 88), fun ty => ?_, by simpa [avs] using own0, ⟨rfl, rfl, rfl, Nat.le_refl _, fun _ _ _ => rfl⟩, Nat.le_refl _⟩
    cases ua with
    | none => simp [Builtin.append_, run_underlying Tryd.underlying46, sizeOf, typeInfo, hi, Builtin.lenOf, Builtin.firstCells, storeCells]
    | some ad => simp [Builtin.append_, run_underlying Tryd.underlying46, sizeOf, typeInfo, hi, Builtin.lenOf, Builtin.firstCells, loadCells, loadCellsFrom, storeCells]

set_option maxRecDepth 10000 in
set_option maxHeartbeats 8000000 in
theorem copy_s (v : Value) (xs : List InstT) (w : World) (lo : Nat) (hv : InstsIs w lo v xs) (hlen0 : xs.length ≤ 1000) (HSz : Hid (∀ x ∈ xs, x.one.args.length ≤ 1048576)) :
    Calls Tryd.prog 31 #[v] w fun e w' => ∃ (F : List Nat) (a : Option Addr) (m cp : Nat), e = .returned (.slice a m cp) ∧ m = xs.length ∧ InstsOwn w' w.heap.size F (.slice a m cp) xs ∧ F.Nodup ∧ Below w.heap.size w w' := by
  have hinfo : (Tryd.prog.info? 50).map (fun i => (i.zero, i.size, i.bytes)) = some (some (.agg #[.int .i64 0, .int .i64 0, .slice none 0 0]), 3, 40) := by kernel_rfl
  obtain ⟨ti, hi, hzz⟩ := Option.map_eq_some_iff.1 hinfo
  simp only [Prod.mk.injEq] at hzz
  obtain ⟨hz0, hz1, hz2⟩ := hzz
  have HI : Hid (Tryd.prog.info? 50 = some ti ∧ ti.zero = some (.agg #[.int .i64 0, .int .i64 0, .slice none 0 0]) ∧ ti.size = 3 ∧ ti.bytes = 40) := ⟨hi, hz0, hz1, hz2⟩
  clear hi hz0 hz1 hz2 hinfo
  obtain ⟨a, cap, rfl, hl, hx⟩ := hv
  have HX : Hid (∀ j x, xs[j]? = some x → ∃ b o cs, a = some ⟨b, o, none⟩ ∧ lo ≤ b ∧ cs.length = 3 ∧ w.rangeAt b (o + j * 3) cs ∧ InstIs w lo x cs) := hx
  obtain ⟨len, HL⟩ : ∃ len, Hid (len = xs.length) := ⟨_, rfl⟩
  rw [← HL.out] at hl hlen0 ⊢
  have HO0 : Hid (InstsOwn (w.alloc (.cells #[] 50)) w.heap.size [w.heap.size] (.slice (some ⟨w.heap.size, 0, none⟩) 0 0) []) := ⟨[], [], .nil, by have := World.ownsRow_made (base := w.heap.size) (e := 50) (size := 3) w #[] 0 (by simp) (by unfold maxLen; omega) rfl; simpa using this, rfl⟩
  clear hx
  go_enter Tryd.func31, Tryd.ntmps31
  go_wp2
  go_loopg [3, 4] len (fun gg cv i wr => ∃ (n cm ccp : Nat) (ca : Option Addr) (FC : List Nat), n + gg = len ∧ i = .int .i64 n ∧ cv = .slice ca cm ccp ∧ cm ≤ n ∧ Hid (cm = (xs.take n).length ∧ InstsOwn wr w.heap.size FC (.slice ca cm ccp) (xs.take n) ∧ FC.Nodup ∧ Below w.heap.size w wr))
  case atStart => exact ⟨0, 0, 0, some ⟨w.heap.size, 0, none⟩, _, by omega, rfl, rfl, by omega, by simp, HO0.out, by simp, (Below.refl _ _).alloc (Nat.le_refl _) _⟩
  case round =>
    clear HO0
    obtain ⟨n, cm, ccp, ca, FC, hn, rfl, rfl, hcm, HS⟩ := hrel
    by_cases hlt : n < len
    · have i1 : (n : Int) < (len : Int) := by omega
      have i3 : (0 : Int) ≤ (n : Int) := by omega
      obtain ⟨x, hxn⟩ : ∃ x, xs[n]? = some x := ⟨_, List.getElem?_eq_getElem (by have := HL.out; omega)⟩
      obtain ⟨bk, o, cs, rfl, hlo, hcs, hrg, u, rfl, hR⟩ := HX.out n x hxn
      have hb := HS.out.2.2.2
      have hR0 := hR
      obtain ⟨ua, uc, rfl, _, _⟩ := hR
      have hK : ∀ (i : Nat) (c : Value), ([.int .i64 x.code, .int .i64 x.one.op, .slice ua x.one.args.length uc] : List Value)[i]? = some c → wr.cell? ⟨bk, o + n * 3 + i, none⟩ = some c := fun i c hi => (Keeps.of_below hb 0) _ _ _ (Nat.zero_le _) (hrg i c hi)
      have c40 : wr.cell? ⟨bk, o + n * 3, none⟩ = some (.int .i64 x.code) := by have := hK 0 _ rfl; simpa using this
      have c41 : wr.cell? ⟨bk, o + n * 3 + 1, none⟩ = some (.int .i64 x.one.op) := hK 1 _ rfl
      have c42 : wr.cell? ⟨bk, o + n * 3 + 1 + 1, none⟩ = some (.slice ua x.one.args.length uc) := hK 2 _ rfl
      have hbkl : bk < w.heap.size := World.block_lt_of_cell? _ _ (hrg 0 _ rfl)
      obtain ⟨ul, Hul⟩ : ∃ l, Hid (l = x.one.args.length) := ⟨_, rfl⟩
      obtain ⟨c, Hc⟩ : ∃ c, Hid (c = x.code) := ⟨_, rfl⟩
      obtain ⟨op, Hop⟩ : ∃ c, Hid (c = x.one.op) := ⟨_, rfl⟩
      rw [← Hc.out] at c40
      rw [← Hop.out] at c41
      rw [← Hul.out] at c42 hR0
      obtain ⟨ccs, FC', hE, hOw, hFC⟩ := id HS.out.2.1
      have hFCl := InstsOwn.lt HS.out.2.1
      have hgd : Below wr.heap.size wr wr.drew := (Below.refl _ _).drew
      obtain ⟨g3, cap3, w3, hr3, own3, gg3, hg3⟩ := app_args wr.drew wr.heap.size lo ua ul uc x.one.args Hul.out (by rw [Hul.out]; exact HSz.out x (List.mem_of_getElem? hxn)) (Nat.le_refl _) (argsIs_move (Keeps.of_below (hb.trans (hgd.mono hb.size)) lo) (Nat.le_refl _) hR0)
      have hsd : wr.drew.heap.size = wr.heap.size := rfl
      rw [hsd] at hr3 gg3 hg3
      have G3 : Below wr.heap.size wr w3 := (hgd.alloc (Nat.le_refl _) (.cells #[] 88)).grown gg3 (by simp [hsd]) (fun j hj => by simp at hj; omega)
      have hOw2 : wr.ownsRow w.heap.size 50 3 (.slice ca cm ccp) cm ccs := by have h0 := hOw; rwa [← HS.out.1] at h0
      have own5 : (w3.alloc (.cells #[.int .i64 c, .int .i64 op, .slice (some ⟨g3, 0, none⟩) ul cap3] 50)).ownsRow w.heap.size 50 3 (.slice ca cm ccp) cm ccs := World.ownsRow.alloc (ownl hOw2 G3) _
      have news5 : ∀ (q : Nat) (v : Value), ([.int .i64 c, .int .i64 op, .slice (some ⟨g3, 0, none⟩) ul cap3] : List Value)[q]? = some v → (w3.alloc (.cells #[.int .i64 c, .int .i64 op, .slice (some ⟨g3, 0, none⟩) ul cap3] 50)).cell? ((⟨w3.heap.size, 0, none⟩ : Addr).add q) = some v := by
        intro q v hq
        match q with
        | 0 => simp at hq; subst hq; simp [Addr.add]
        | 1 => simp at hq; subst hq; simp [Addr.add]
        | 2 => simp at hq; subst hq; simp [Addr.add]
        | (j + 3) => simp at hq
      have hs5 : w.heap.size ≤ w3.heap.size := by have := G3.size; have := hb.size; omega
      have HK3 : Hid (∀ W, Below wr.heap.size wr W → W.cell? ⟨bk, o + n * 3, none⟩ = some (.int .i64 c) ∧ W.cell? ⟨bk, o + n * 3 + 1, none⟩ = some (.int .i64 op) ∧ W.cell? ⟨bk, o + n * 3 + 1 + 1, none⟩ = some (.slice ua ul uc)) := fun W g => ⟨(Keeps.of_below g 0) _ _ _ (Nat.zero_le _) c40, (Keeps.of_below g 0) _ _ _ (Nat.zero_le _) c41, (Keeps.of_below g 0) _ _ _ (Nat.zero_le _) c42⟩
      obtain ⟨d40, d41, d42⟩ := HK3.out w3 G3
      have HY : Hid (∀ g1 cap1 w6, w6.ownsRow w.heap.size 50 3 (.slice (some ⟨g1, 0, none⟩) (cm + 1) cap1) (cm + 1) (ccs ++ [.int .i64 c, .int .i64 op, .slice (some ⟨g3, 0, none⟩) ul cap3]) → (w3.alloc (.cells #[.int .i64 c, .int .i64 op, .slice (some ⟨g3, 0, none⟩) ul cap3] 50)).grownBy w6 (Value.slice ca cm ccp).ownBlock → ((Value.slice ca cm ccp).ownBlock = some g1 ∨ g1 = (w3.alloc (.cells #[.int .i64 c, .int .i64 op, .slice (some ⟨g3, 0, none⟩) ul cap3] 50)).heap.size) →
          (w6.cell? ⟨bk, o + n * 3, none⟩ = some (.int .i64 c) ∧ w6.cell? ⟨bk, o + n * 3 + 1, none⟩ = some (.int .i64 op) ∧ w6.cell? ⟨bk, o + n * 3 + 1 + 1, none⟩ = some (.slice ua ul uc)) ∧ ∃ FC2, (cm + 1 = (xs.take (n + 1)).length ∧ InstsOwn w6 w.heap.size FC2 (.slice (some ⟨g1, 0, none⟩) (cm + 1) cap1) (xs.take (n + 1)) ∧ FC2.Nodup ∧ Below w.heap.size w w6)) := by
        intro g1 cap1 w6 own6 gg6 hat6
        have G4 : Below wr.heap.size wr (w3.alloc (.cells #[.int .i64 c, .int .i64 op, .slice (some ⟨g3, 0, none⟩) ul cap3] 50)) := G3.alloc G3.size _
        have hcl := HS.out.1
        have hTk : xs.take (n + 1) = xs.take n ++ [x] := by rw [List.take_add_one, hxn]; rfl
        have o6 := own6
        rw [hcl] at o6
        have hA4 : ArgsOwn (w3.alloc (.cells #[.int .i64 c, .int .i64 op, .slice (some ⟨g3, 0, none⟩) ul cap3] 50)) w.heap.size [g3] (.slice (some ⟨g3, 0, none⟩) ul cap3) x.one.args := by
          have h1 : ArgsOwn w3 wr.heap.size [g3] (.slice (some ⟨g3, 0, none⟩) ul cap3) x.one.args := args_of (by rw [← Hul.out]; exact own3)
          exact args_base (ArgsOwn.move h1 (row := none) (gbb ((Below.refl _ _).alloc (Nat.le_refl _) _)) (fun b _ => by simp)) hb.size
        have h3l : g3 < w3.heap.size := (World.ownsRow.lt own3 g3 rfl).2
        have key := row_step (base := w.heap.size) (R := fun W => InstOwn W w.heap.size) (fun W W' row f x c hg hr h => h.move hg hr) (w := w) (w5 := w6) (v := .slice ca cm ccp) (F := FC) (f := [g3]) (x := x) (Nat.le_refl _)
          (hE.move fun f1 x1 c1 _ h2 => h2.move (row := none) (gbb G4) (fun b _ => by simp)) hFC (fun b hb' => by have := hFCl b hb'; have := G4.size; omega) HS.out.2.2.1 ⟨.slice (some ⟨g3, 0, none⟩) ul cap3, by rw [Hc.out, Hop.out], hA4⟩ rfl (fun b hb' => by simp at hb'; subst hb'; have := hb.size; simp; omega) (by simp) (fun b hb' hF => by simp at hb'; subst hb'; have := hFCl b hF; omega) o6 gg6 hat6 (hb.trans (G4.mono hb.size))
        refine ⟨?_, _, by rw [hTk, hcl]; simp, by rw [hTk, hcl]; exact key.1, key.2.1, key.2.2⟩
        have hne : ∀ oo, ∀ vv, (w3.alloc (.cells #[.int .i64 c, .int .i64 op, .slice (some ⟨g3, 0, none⟩) ul cap3] 50)).cell? ⟨bk, oo, none⟩ = some vv → w6.cell? ⟨bk, oo, none⟩ = some vv := fun oo vv hv => gg6.cell hv (fun e => by have := hFCl bk (by rw [hFC, ← e]; simp); omega)
        obtain ⟨z0, z1, z2⟩ := HK3.out _ G4
        exact ⟨hne _ _ z0, hne _ _ z1, hne _ _ z2⟩
      have hg3l := hg3
      clear hb hrg hcs hlo hR0 hE hOw hOw2 hFC hFCl HS HX hK hgd own3 gg3 G3 hg3
      go_upto_region 5 with fail
      go_region_held3 (fun w' => w'.cell? ⟨bk, o + n * 3, none⟩ = some (.int .i64 c) ∧ w'.cell? ⟨bk, o + n * 3 + 1, none⟩ = some (.int .i64 op) ∧ w'.cell? ⟨bk, o + n * 3 + 1 + 1, none⟩ = some (.slice ua ul uc))
        (first | go_keep | exact ⟨c40, c41, c42⟩ | exact ⟨d40, d41, d42⟩ | exact ⟨e40, e41, e42⟩ | (simpa using ⟨d40, d41, d42⟩))
        (first
          | (refine step_app_run (by rfl) (.tmp 24) (.tmp 30) 46 (by rfl) _ _ (by rfl) (by rfl) _ w3 hr3 ?_)
          | (refine step_append_lies _ (by rfl) (.tmp 12) (.tmp 34) 23 (by rfl) w.heap.size 50 ti (.agg #[.int .i64 0, .int .i64 0, .slice none 0 0]) 3 40 Tryd.underlying23 HI.out.1 HI.out.2.1 HI.out.2.2.1 HI.out.2.2.2 (by rfl) (by decide) (.slice ca cm ccp) cm ccs (by rfl) own5 ⟨w3.heap.size, 0, none⟩ 1 1 [.int .i64 c, .int .i64 op, .slice (some ⟨g3, 0, none⟩) ul cap3] (by rfl) (by rfl) news5 (by intro v hu; simp at hu; rcases hu with rfl | rfl | rfl <;> rfl) (by omega) (by unfold maxLen; omega) (by omega) (by simp; omega) _ rfl ?_; intro g1 cap1 w6 own6 gg6 hat6 hlt6; obtain ⟨⟨e40, e41, e42⟩, FC2, hY⟩ := HY.out g1 cap1 w6 own6 gg6 hat6; have HYY : Hid (cm + 1 = (xs.take (n + 1)).length ∧ InstsOwn w6 w.heap.size FC2 (.slice (some ⟨g1, 0, none⟩) (cm + 1) cap1) (xs.take (n + 1)) ∧ FC2.Nodup ∧ Below w.heap.size w w6) := hY; clear hY own6 gg6 hat6 hlt6)
          | fail)
      clear c40 c41 c42 d40 d41 d42 e40 e41 e42 own5 news5 hs5 HY HK3 hr3 hsd
      go_wp2
      go_roundg (gk - 1)
      case measure => omega
      case rel => exact ⟨n + 1, cm + 1, cap1, some ⟨g1, 0, none⟩, FC2, by omega, by simp, rfl, by omega, HYY⟩
    · have i1 : ¬ ((n : Int) < (len : Int)) := by omega
      have HF : Hid (cm = len ∧ InstsOwn wr w.heap.size FC (.slice ca cm ccp) xs ∧ FC.Nodup ∧ Below w.heap.size w wr) := by
        obtain ⟨h1, h2, h3, h4⟩ := HS.out
        rw [List.take_of_length_le (by have := HL.out; omega)] at h1 h2
        exact ⟨by rw [h1, HL.out], h2, h3, h4⟩
      clear HS
      go_wp2
      go_ret
      exact ⟨FC, ca, cm, ccp, rfl, HF.out.1, HF.out.2.1, HF.out.2.2.1, HF.out.2.2.2⟩
end Go.Proofs.YtcmmiamnbefefaaDoor
