/- The first thing that is wrong with a ladder: the program's. -/
import Derived.Test.YtgopfaegdlefpaaGreatDoorUh
namespace Go.Proofs.YtgopfaegdlefpaaGreatDoor
open Go.RowKit Go.Shelf
set_option linter.unusedVariables false
attribute [local go_sem] Oper.semAt_some

/-- The marks that ranges over functions have left. -/
def coll (Ds : List Nat) : List Deferred := Ds.map fun D => { target := .collected D, args := #[] }
def Dok (lo : Nat) (W : World) (Ds : List Nat) : Prop := Ds.Nodup ∧ ∀ D ∈ Ds, lo ≤ D ∧ W.heap[D]? = some (.deferred (some []))
theorem leaves_all {F : Fence} {n : Nat} {P : Program} {fn : Func} {tmps : Array Value} {R : Ending → World → Prop} (lo : Nat) : ∀ (Ds : List Nat) (W : World), Dok lo W Ds →
    (∀ W', Below lo W W' → (∀ (k : Nat) (C : Array Value) (t : TypeId) (f : Nat × Nat), W.heap[k]? = some (.cells C t f) → W'.heap[k]? = some (.cells C t f)) → LeavesIn F n P fn tmps R [] .returning W') → LeavesInM F n P fn tmps R (coll Ds) .returning W
  | [], W, _, h => h W (Below.refl _ _) (fun _ _ _ _ h => h)
  | D :: Ds, W, hd, h => by
    have hD := hd.2 D (by simp)
    refine ⟨by simp, .inl ⟨D, W.putObj D (.deferred none), rfl, run_takeDeferred hD.2, leaves_all lo Ds _ ⟨(List.nodup_cons.1 hd.1).2, fun D' h' => ?_⟩ (fun W' g k => h W' ((below_putObj hD.2 hD.1 _).trans g) (fun k' C t f hc => k k' C t f ?_))⟩⟩
    · have hne : D' ≠ D := fun e => (List.nodup_cons.1 hd.1).1 (e ▸ h')
      exact ⟨(hd.2 D' (by simp [h'])).1, (World.putObj_heap_other hne).trans (hd.2 D' (by simp [h'])).2⟩
    · have hne : k' ≠ D := fun e => by subst e; rw [hD.2] at hc; cases hc
      exact (World.putObj_heap_other hne).trans hc
theorem Dok.dep {lo b : Nat} {W W' : World} {Ds : List Nat} (h : Dok lo W Ds) (hb : ∀ D ∈ Ds, D < b) (g : Below b W W') : Dok lo W' Ds := ⟨h.1, fun D hD => ⟨(h.2 D hD).1, (g.block _ (hb D hD)).trans (h.2 D hD).2⟩⟩
theorem Dok.lt {lo : Nat} {W : World} {Ds : List Nat} (h : Dok lo W Ds) : ∀ D ∈ Ds, D < W.heap.size := fun D hD => (Array.getElem?_eq_some_iff.1 (h.2 D hD).2).1
theorem Dok.put {lo : Nat} {W : World} {Ds : List Nat} (h : Dok lo W Ds) {k : Nat} {C : Array Value} {t : TypeId} {f : Nat × Nat} (hk : W.heap[k]? = some (.cells C t f)) (o : Nat) (v : Value) : Dok lo (W.setCell ⟨k, o, none⟩ v) Ds := ⟨h.1, fun D hD => ⟨(h.2 D hD).1, by
  have hne : k ≠ D := fun e => by subst e; have := (h.2 k hD).2; rw [hk] at this; cases this
  exact row_other (h.2 D hD).2 _ _ hne _⟩⟩

/-- What treeWrong hands back. -/
def errW (r : Int × Int) : Value := if r.1 = 0 then .nilIface else .iface 99 (.agg #[.int .i64 r.2, .iface 95 (.agg #[.int .i64 r.1])])
def errT (ct cl : Int → List ArgT → Bool) (m : Nat) (xs : List ArmT) : Value :=
  if manyT m xs then .iface 95 (.agg #[.int .i64 1]) else errW (firstR (fun x => firstC ct cl (pArm m true x)) 0 xs)

/-- One rung, as a ladder. -/
theorem row_sub {w : World} {m : Nat} {a : Option Addr} {len cap n : Nat} {xs : List ArmT} {x : ArmT} {b o : Nat} {cs : List Value} (hx : xs[n]? = some x) (hc : cs.length = 6) (hr : w.rangeAt b (o + n * 6) cs) (hR : ArmIs w 0 m x cs) (c : Nat) :
    ArmsIs w 0 m (.slice (some ⟨b, o + n * 6, none⟩) 1 c) [x] := by
  refine ⟨some ⟨b, o + n * 6, none⟩, c, rfl, by simp, fun j y hj => ?_⟩
  have hj0 : j = 0 := by have := (List.getElem?_eq_some_iff.1 hj).1; simpa using this
  subst hj0
  simp only [List.getElem?_cons_zero, Option.some.injEq] at hj
  subst hj
  exact ⟨b, o + n * 6, cs, rfl, Nat.zero_le _, hc, by simpa using hr, hR⟩

set_option maxRecDepth 100000 in
set_option maxHeartbeats 16000000 in
theorem wrong_i (ct cl : Int → List ArgT → Bool) (m : Nat) (a : Option Addr) (cap : Nat) (xs : List ArmT) (w : World) (hv : ArmsIs w 0 m (.slice a xs.length cap) xs) (hcap : xs.length ≤ cap) (hw : (xs.map (wA m)).sum ≤ 1048576) (hP : (xs.flatMap (pArm m true)).length ≤ 4194304)
    (HC : ∀ W, Below w.heap.size w W → ∀ op v xs, ArgsIs W 0 v xs → Calls Tryz.prog 200 #[.agg #[.int .i64 op, v]] W fun e w' => e = .returned (.bool (ct op xs)) ∧ Below W.heap.size W w')
    (HL : ∀ W, Below w.heap.size w W → ∀ op v xs, ArgsIs W 0 v xs → Calls Tryz.prog 169 #[.agg #[.int .i64 op, v]] W fun e w' => e = .returned (.bool (cl op xs)) ∧ Below W.heap.size W w') :
    Calls Tryz.prog 50 #[.slice a xs.length cap] w fun e w' => e = .returned (errT ct cl m xs) ∧ Below w.heap.size w w' := by
  have HMany : Hid (∀ W, Below w.heap.size w W → Calls Tryz.prog 89 #[.slice a xs.length cap] W fun e w' => e = .returned (.bool (manyT m xs)) ∧ Below W.heap.size W w') := fun W g => many_i m _ xs W (armsIs_move (Keeps.of_below g 0) (Nat.le_refl _) (Nat.le_refl _) hv) hw hP
  have HPW : Hid (∀ x : PartW w, ∃ T u f, x.1.1 = .iface T u ∧ (∀ W, Below w.heap.size w W → Calls Tryz.prog f #[u] W fun e w' => e = .returned (errV (cP ct cl x.1.2)) ∧ Below W.heap.size W w') ∧ ((T = 205 ∧ f = 315) ∨ (T = 172 ∧ f = 301))) := fun x => part_wrong ct cl HC HL x.1 x.2
  have HW1 : Hid (∀ x ∈ xs, wA m x ≤ 1048576) := fun x hx => Nat.le_trans (sum_mem (wA m) xs x hx) hw
  clear HC HL hw hP
  obtain ⟨a', cap', hv0, hlen, hx⟩ := id hv
  simp only [Value.slice.injEq, true_and] at hv0
  obtain ⟨rfl, rfl⟩ := hv0
  have HX : Hid (∀ j x, xs[j]? = some x → ∃ b o cs, a = some ⟨b, o, none⟩ ∧ cs.length = 6 ∧ w.rangeAt b (o + j * 6) cs ∧ (ArmIs w 0 m) x cs) := fun j x h => by
    obtain ⟨b, o, cs, h1, _, h2, h3, h4⟩ := hx j x h
    exact ⟨b, o, cs, h1, h2, h3, h4⟩
  clear hv hx
  obtain ⟨len, HLn⟩ : ∃ len, Hid (len = xs.length) := ⟨_, rfl⟩
  rw [← HLn.out] at hlen hcap HMany ⊢
  obtain ⟨MT, HMT⟩ : ∃ b, Hid (b = manyT m xs) := ⟨_, rfl⟩
  rw [← HMT.out] at HMany
  obtain ⟨E, HE⟩ : ∃ e, Hid (e = errT ct cl m xs) := ⟨_, rfl⟩
  rw [← HE.out]
  have r0 := heap_alloc_last w (.cells #[.nilIface] 67)
  have b0 : Below w.heap.size w (w.alloc (.cells #[.nilIface] 67)) := (Below.refl _ _).alloc (Nat.le_refl _) _
  have R0 : Hid ((w.alloc (.cells #[.nilIface] 67)).heap[w.heap.size]? = some (.cells #[.nilIface] 67 (0, 0)) ∧ w.heap.size < (w.alloc (.cells #[.nilIface] 67)).heap.size) := ⟨r0, by simp⟩
  clear r0
  refine (callsIn_wide (n := 5)).1 ?_
  refine callsIn_of_wp_marks Tryz.func50 rfl trivial ?_ rfl
  simp only [Tryz.ntmps50, List.size_toArray, List.length_cons, List.length_nil, Nat.reduceAdd, Nat.reduceSub, Array.replicate_succ, Array.replicate_zero, List.push_toArray, List.append_toArray, List.nil_append, List.cons_append]
  have hdd : ∀ k : Nat, (Fence.wide.depth.isSome = true → 1 ≤ k) := fun k h => by cases h
  gi_wp2
  refine ⟨trivial, ?_⟩
  refine (callsIn_wide.2 (HMany.out _ b0)).mono ?_
  rintro e w1 ⟨rfl, g1⟩
  have r1 := (g1.block _ R0.out.2).trans R0.out.1
  have b1 := b0.trans (g1.mono b0.size)
  clear g1 b0 R0 HMany
  cases MT with
  | true =>
    have c0 : w1.cell? ⟨w.heap.size, 0, none⟩ = some .nilIface := (cell_of_row _ _ _ _ _ _ r1).trans rfl
    have f0 : w1.frozen? ⟨w.heap.size, 0, none⟩ = false := by simp [World.frozen?, r1]
    have q0 : (w1.setCell ⟨w.heap.size, 0, none⟩ (.iface 95 (.agg #[.int .i64 1]))).cell? ⟨w.heap.size, 0, none⟩ = some (.iface 95 (.agg #[.int .i64 1])) := World.cell?_setCell_same' _ _ _ (by rw [c0]; rfl)
    have HEt : Hid (E = .iface 95 (.agg #[.int .i64 1])) := (by rw [HE.out]; unfold errT; rw [← HMT.out]; rfl : E = .iface 95 (.agg #[.int .i64 1]))
    have HB : Hid (Below w.heap.size w (w1.setCell ⟨w.heap.size, 0, none⟩ (.iface 95 (.agg #[.int .i64 1])))) := b1.setCell (p := ⟨w.heap.size, 0, none⟩) (Nat.le_refl _) _
    clear r1 b1
    gi_wp2
    exact ⟨.iface 95 (.agg #[.int .i64 1]), by simp [results, Tryz.results50, go_sem, q0], by rw [HEt.out], HB.out⟩
  | false =>
    have HEt : Hid (E = errW (firstR (fun x => firstC ct cl (pArm m true x)) 0 xs)) := (by rw [HE.out]; unfold errT; rw [← HMT.out]; rfl : E = _)
    clear HE HMT
    have HS1 : Hid (Below w.heap.size w w1 ∧ w1.heap[w.heap.size]? = some (.cells #[.nilIface] 67 (0, 0))) := ⟨b1, r1⟩
    clear b1 r1
    gi_wp2
    refine wpIn_loop (fun ac W => ∃ (n : Nat) (Ds : List Nat) (u3 u4 u5 u13 u14 u15 u16 u17 u18 u19 u20 u21 u22 u23 u24 u25 u26 u27 u28 u29 u30 : Value), ac = { tmps := #[.slice a len cap, undef, .pointer (some ⟨w.heap.size, 0, none⟩), u3, u4, u5, .slice a len cap, .bool false, undef, undef, .slice a len cap, .int .i64 len, .int .i64 n, u13, u14, u15, u16, u17, u18, u19, u20, u21, u22, u23, u24, u25, u26, u27, u28, u29, u30], defers := coll Ds } ∧ n ≤ len ∧ (∀ y ∈ xs.take n, firstC ct cl (pArm m true y) = 0) ∧ Below w.heap.size w W ∧ W.heap[w.heap.size]? = some (.cells #[.nilIface] 67 (0, 0)) ∧ Dok (w.heap.size + 1) W Ds)
      (fun ac _ => len - (RowKit.intOf (ac.tmps.getD 12 undef)).toNat) ?start ?round
    case start => exact ⟨0, [], _, _, _, _, _, _, _, _, _, _, _, _, _, _, _, _, _, _, _, _, _, rfl, Nat.zero_le _, fun y hy => by simp at hy, HS1.out.1, HS1.out.2, ⟨List.nodup_nil, fun D hD => by simp at hD⟩⟩
    case round =>
      rintro ac W ⟨n, Ds, u3, u4, u5, u13, u14, u15, u16, u17, u18, u19, u20, u21, u22, u23, u24, u25, u26, u27, u28, u29, u30, rfl, hn, hS, hb, hr, hD⟩
      have HS : Hid (∀ y ∈ xs.take n, firstC ct cl (pArm m true y) = 0) := hS
      clear hS
      by_cases hlt : n < len
      · have i1 : (n : Int) < (len : Int) := by omega
        have i3 : (0 : Int) ≤ (n : Int) := by omega
        obtain ⟨x, hxn⟩ : ∃ x, xs[n]? = some x := ⟨_, List.getElem?_eq_getElem (by have := HLn.out; omega)⟩
        obtain ⟨b, o, cs, rfl, hcs, hrg, hR⟩ := HX.out n x hxn
        have hsub := row_sub (a := some ⟨b, o, none⟩) (len := len) (cap := cap) hxn hcs hrg hR (cap - n)
        have hwx := HW1.out x (List.mem_of_getElem? hxn)
        have HD : Hid (xs[n]? = some x) := hxn
        have sl1 : ((n : Int) ≤ (n : Int) + 1) := by omega
        have sl2 : ((n : Int) + 1 ≤ (cap : Int)) := by omega
        have HDs : Hid (Dok (w.heap.size + 1) W Ds) := hD
        have HBW : Hid (Below w.heap.size w W ∧ W.heap[w.heap.size]? = some (.cells #[.nilIface] 67 (0, 0))) := ⟨hb, hr⟩
        clear hrg hR hcs hxn hlt hD hb hr
        gi_wp2_with (refine ⟨trivial, ?_⟩; gi_at_call 52; refine (callsIn_wide.2 (parts_i _ _ _ _)).mono ?_; rintro e w' ⟨rfl, rfl⟩)
        obtain ⟨V, hV⟩ : ∃ V, (W.alloc (.cells #[.int .i64 n] 3)).alloc (.cells #[.slice (some ⟨b, o + n * 6, none⟩) 1 (cap - n)] 23) = V := ⟨_, rfl⟩
        have hk := rows2 W (.cells #[.int .i64 n] 3) (.cells #[.slice (some ⟨b, o + n * 6, none⟩) 1 (cap - n)] 23)
        have gV : Below W.heap.size W V := by rw [← hV]; exact ((Below.refl _ _).alloc (Nat.le_refl _) _).alloc (by simp) _
        have hsz : V.heap.size = W.heap.size + 1 + 1 := by rw [← hV]; simp
        try simp only [World.size_alloc]
        rw [hV] at hk ⊢
        have hwW : w.heap.size < W.heap.size := (Array.getElem?_eq_some_iff.1 HBW.out.2).1
        have bV : Below w.heap.size w V := HBW.out.1.trans (gV.mono HBW.out.1.size)
        have rV : V.heap[w.heap.size]? = some (.cells #[.nilIface] 67 (0, 0)) := (gV.block _ hwW).trans HBW.out.2
        have DV : Dok (w.heap.size + 1) V Ds := HDs.out.dep HDs.out.lt gV
        have c1 : V.cell? ⟨W.heap.size + 1, 0, none⟩ = some (.slice (some ⟨b, o + n * 6, none⟩) 1 (cap - n)) := (cell_of_row _ _ _ _ _ _ hk.2).trans rfl
        have hdl : ∀ D ∈ Ds, D < V.heap.size := DV.lt
        refine range_n (α := PartW w) (gf := 94) (lb := #[.pointer (some ⟨W.heap.size + 1, 0, none⟩)]) rfl (enters_of Tryz.func94 (by kernel_rfl) rfl) (parts_seq w w.heap.size (W.heap.size + 1) m (5 - 1) (Nat.le_refl _) (by omega) _ [x] V bV (by omega) c1 hsub (by simpa using hwx)) (fun h k => h.trans k) (kd_l (by omega)) (fun h k => h.trans k) (kq_l (Nat.le_refl _)) (Below.refl _ _) (fun _ => rfl)
          (fun pre U => Below w.heap.size w U ∧ U.heap[w.heap.size]? = some (.cells #[.nilIface] 67 (0, 0)) ∧ U.heap[W.heap.size]? = some (.cells #[.int .i64 n] 3 (0, 0)) ∧ Dok (w.heap.size + 1) U Ds ∧ firstC ct cl (ghosts pre) = 0)
          (fun c pre U => c = .ret ∧ ∃ q, Below w.heap.size w U ∧ U.heap[w.heap.size]? = some (.cells #[.iface 99 (.agg #[.int .i64 n, .iface 95 (.agg #[.int .i64 q])])] 67 (0, 0)) ∧ Dok (w.heap.size + 1) U Ds ∧ q = firstC ct cl (ghosts pre) ∧ q ≠ 0 ∧ ghosts pre <+: [x].flatMap (pArm m true))
          (fun s X Y g hs => ⟨hs.1.trans (g.mono (by omega)), (g.block _ (by omega)).trans hs.2.1, (g.block _ (by omega)).trans hs.2.2.1, hs.2.2.2.1.dep hdl g, hs.2.2.2.2⟩)
          (fun c s X Y g hs => by obtain ⟨h1, q, h2, h3, h4, h5⟩ := hs; exact ⟨h1, q, h2.trans (g.mono (by omega)), (g.block _ (by omega)).trans h3, h4.dep hdl g, h5⟩)
          ⟨bV, rV, hk.1, DV, rfl⟩
          (fun x => { tmps := #[.slice (some ⟨b, o, none⟩) len cap, undef, .pointer (some ⟨w.heap.size, 0, none⟩), .pointer (some ⟨W.heap.size, 0, none⟩), x.1.1, u5, .slice (some ⟨b, o, none⟩) len cap, .bool false, undef, undef, .slice (some ⟨b, o, none⟩) len cap, .int .i64 len, .int .i64 n, .bool true, .int .i64 n, .slice (some ⟨b, o, none⟩) len cap, .int .i64 n, .int .i64 n, .int .i64 ((n : Int) + 1), .slice (some ⟨b, o + n * 6, none⟩) 1 (cap - n), .func (.func 94) #[] #[.pointer (some ⟨W.heap.size + 1, 0, none⟩)], x.1.1, u22, u23, u24, u25, u26, u27, u28, u29, u30], defers := [] }) ?assign ?body ?done ?stop
        case assign =>
          intro l y W' K hK
          gi_wp2
          exact hK
        case body =>
          rintro l pre y U hI hpre
          have HI : Hid (Below w.heap.size w U ∧ U.heap[w.heap.size]? = some (.cells #[.nilIface] 67 (0, 0)) ∧ U.heap[W.heap.size]? = some (.cells #[.int .i64 n] 3 (0, 0)) ∧ Dok (w.heap.size + 1) U Ds ∧ firstC ct cl (ghosts pre) = 0) := hI
          obtain ⟨T, u, f, hx, hcall, hT⟩ := HPW.out y
          have HPF : Hid (ghosts (pre ++ [y]) <+: [x].flatMap (pArm m true)) := fit_snoc hpre
          clear hI hpre hk
          rcases hT with ⟨rfl, rfl⟩ | ⟨rfl, rfl⟩
          all_goals rw [hx]
          · have hmeth : ∀ W, (method 446 205 u "loop.example/stile/impl.wrong").run Tryz.prog W = .ok (315, u) W := fun W => by kernel_rfl
            gi_wp2
            refine ⟨trivial, ?_⟩
            refine (CallsIn.inRound l (callsIn_wide.2 (hcall _ HI.out.1))).mono ?_
            rintro e w' ⟨rfl, g⟩
            have hB2 := HI.out.1.trans (g.mono HI.out.1.size)
            have hr2 := (g.block _ (Array.getElem?_eq_some_iff.1 HI.out.2.1).1).trans HI.out.2.1
            have hi2 := (g.block _ (Array.getElem?_eq_some_iff.1 HI.out.2.2.1).1).trans HI.out.2.2.1
            have hD2 := HI.out.2.2.2.1.dep HI.out.2.2.2.1.lt g
            have hk2 : KeepsOthers U w' := KeepsOthers.of_grownBy (⟨g.os, g.tape, g.output, g.size, fun k hk _ => g.block k hk⟩ : U.grownBy w' none) (fun j o e => by cases e)
            have hkc : KC w.heap.size w.heap.size U w' := KC.of_below g HI.out.1.size
            have HQ : Hid (firstC ct cl (ghosts (pre ++ [y])) = cP ct cl y.1.2) := (by
              rw [show ghosts (pre ++ [y]) = ghosts pre ++ [y.1.2] by simp [ghosts], firstC_zero_app HI.out.2.2.2.2]
              show (if cP ct cl y.1.2 = 0 then 0 else cP ct cl y.1.2) = _
              split
              · next h => exact h.symm
              · rfl : firstC ct cl (ghosts (pre ++ [y])) = cP ct cl y.1.2)
            by_cases hq : cP ct cl y.1.2 = 0
            · rw [hq, errV_0]
              have HP : Hid (KeepsFrom V.heap.size U w' ∧ KD w.heap.size w.heap.size (V.heap.size + 2) U w' ∧ Below w.heap.size w w' ∧ w'.heap[w.heap.size]? = some (.cells #[.nilIface] 67 (0, 0)) ∧ w'.heap[W.heap.size]? = some (.cells #[.int .i64 n] 3 (0, 0)) ∧ Dok (w.heap.size + 1) w' Ds ∧ firstC ct cl (ghosts (pre ++ [y])) = 0) :=
                ⟨hk2.from _, ⟨hkc, hk2.from _⟩, hB2, hr2, hi2, hD2, by rw [HQ.out, hq]⟩
              clear hB2 hr2 hi2 hD2 hk2 hkc g hcall hmeth hq HQ HI
              gi_wp2
              first | exact HP.out | (have h := HP.out; rw [hsz] at h; exact h)
            · rw [errV_ne hq]
              obtain ⟨q, Hq⟩ : ∃ q, Hid (q = cP ct cl y.1.2) := ⟨_, rfl⟩
              rw [← Hq.out]
              have d0 : w'.cell? ⟨w.heap.size, 0, none⟩ = some .nilIface := (cell_of_row _ _ _ _ _ _ hr2).trans rfl
              have d1 : w'.frozen? ⟨w.heap.size, 0, none⟩ = false := by simp [World.frozen?, hr2]
              have d2 : w'.cell? ⟨W.heap.size, 0, none⟩ = some (.int .i64 n) := (cell_of_row _ _ _ _ _ _ hi2).trans rfl
              obtain ⟨X, hX⟩ : ∃ X, X = w'.setCell ⟨w.heap.size, 0, none⟩ (.iface 99 (.agg #[.int .i64 n, .iface 95 (.agg #[.int .i64 q])])) := ⟨_, rfl⟩
              have HP : Hid (KeepsFrom V.heap.size U X ∧ KQ (V.heap.size + 2) U X ∧ Code.ret = Code.ret ∧ ∃ q, Below w.heap.size w X ∧ X.heap[w.heap.size]? = some (.cells #[.iface 99 (.agg #[.int .i64 n, .iface 95 (.agg #[.int .i64 q])])] 67 (0, 0)) ∧ Dok (w.heap.size + 1) X Ds ∧ q = firstC ct cl (ghosts (pre ++ [y])) ∧ q ≠ 0 ∧ ghosts (pre ++ [y]) <+: [x].flatMap (pArm m true)) := by
                rw [hX]
                refine ⟨(hk2.trans (KeepsOthers.setCell _ _ _)).from _, ⟨fun b C t f hb hc => ?_, (hk2.trans (KeepsOthers.setCell _ _ _)).from _⟩, rfl, q, hB2.setCell (p := ⟨w.heap.size, 0, none⟩) (Nat.le_refl _) _, row_put hr2 _ _, hD2.put hr2 _ _, by rw [HQ.out, Hq.out], by rw [Hq.out]; exact hq, HPF.out⟩
                exact row_other (hkc.2 b C t f (by have := HI.out.1.size; omega) hc) _ _ (by omega) _
              clear hB2 hr2 hi2 hD2 hk2 hkc g hcall hmeth hq HQ HI Hq
              gi_wp2
              rw [← hX]
              obtain ⟨p1, p2, p3, p4⟩ := HP.out
              exact ⟨by first | exact p1 | (rw [hsz] at p1; exact p1), by first | exact p2 | (rw [hsz] at p2; exact p2), rfl, p4⟩
          · have hmeth : ∀ W, (method 446 172 u "loop.example/stile/impl.wrong").run Tryz.prog W = .ok (301, u) W := fun W => by kernel_rfl
            gi_wp2
            refine ⟨trivial, ?_⟩
            refine (CallsIn.inRound l (callsIn_wide.2 (hcall _ HI.out.1))).mono ?_
            rintro e w' ⟨rfl, g⟩
            have hB2 := HI.out.1.trans (g.mono HI.out.1.size)
            have hr2 := (g.block _ (Array.getElem?_eq_some_iff.1 HI.out.2.1).1).trans HI.out.2.1
            have hi2 := (g.block _ (Array.getElem?_eq_some_iff.1 HI.out.2.2.1).1).trans HI.out.2.2.1
            have hD2 := HI.out.2.2.2.1.dep HI.out.2.2.2.1.lt g
            have hk2 : KeepsOthers U w' := KeepsOthers.of_grownBy (⟨g.os, g.tape, g.output, g.size, fun k hk _ => g.block k hk⟩ : U.grownBy w' none) (fun j o e => by cases e)
            have hkc : KC w.heap.size w.heap.size U w' := KC.of_below g HI.out.1.size
            have HQ : Hid (firstC ct cl (ghosts (pre ++ [y])) = cP ct cl y.1.2) := (by
              rw [show ghosts (pre ++ [y]) = ghosts pre ++ [y.1.2] by simp [ghosts], firstC_zero_app HI.out.2.2.2.2]
              show (if cP ct cl y.1.2 = 0 then 0 else cP ct cl y.1.2) = _
              split
              · next h => exact h.symm
              · rfl : firstC ct cl (ghosts (pre ++ [y])) = cP ct cl y.1.2)
            by_cases hq : cP ct cl y.1.2 = 0
            · rw [hq, errV_0]
              have HP : Hid (KeepsFrom V.heap.size U w' ∧ KD w.heap.size w.heap.size (V.heap.size + 2) U w' ∧ Below w.heap.size w w' ∧ w'.heap[w.heap.size]? = some (.cells #[.nilIface] 67 (0, 0)) ∧ w'.heap[W.heap.size]? = some (.cells #[.int .i64 n] 3 (0, 0)) ∧ Dok (w.heap.size + 1) w' Ds ∧ firstC ct cl (ghosts (pre ++ [y])) = 0) :=
                ⟨hk2.from _, ⟨hkc, hk2.from _⟩, hB2, hr2, hi2, hD2, by rw [HQ.out, hq]⟩
              clear hB2 hr2 hi2 hD2 hk2 hkc g hcall hmeth hq HQ HI
              gi_wp2
              first | exact HP.out | (have h := HP.out; rw [hsz] at h; exact h)
            · rw [errV_ne hq]
              obtain ⟨q, Hq⟩ : ∃ q, Hid (q = cP ct cl y.1.2) := ⟨_, rfl⟩
              rw [← Hq.out]
              have d0 : w'.cell? ⟨w.heap.size, 0, none⟩ = some .nilIface := (cell_of_row _ _ _ _ _ _ hr2).trans rfl
              have d1 : w'.frozen? ⟨w.heap.size, 0, none⟩ = false := by simp [World.frozen?, hr2]
              have d2 : w'.cell? ⟨W.heap.size, 0, none⟩ = some (.int .i64 n) := (cell_of_row _ _ _ _ _ _ hi2).trans rfl
              obtain ⟨X, hX⟩ : ∃ X, X = w'.setCell ⟨w.heap.size, 0, none⟩ (.iface 99 (.agg #[.int .i64 n, .iface 95 (.agg #[.int .i64 q])])) := ⟨_, rfl⟩
              have HP : Hid (KeepsFrom V.heap.size U X ∧ KQ (V.heap.size + 2) U X ∧ Code.ret = Code.ret ∧ ∃ q, Below w.heap.size w X ∧ X.heap[w.heap.size]? = some (.cells #[.iface 99 (.agg #[.int .i64 n, .iface 95 (.agg #[.int .i64 q])])] 67 (0, 0)) ∧ Dok (w.heap.size + 1) X Ds ∧ q = firstC ct cl (ghosts (pre ++ [y])) ∧ q ≠ 0 ∧ ghosts (pre ++ [y]) <+: [x].flatMap (pArm m true)) := by
                rw [hX]
                refine ⟨(hk2.trans (KeepsOthers.setCell _ _ _)).from _, ⟨fun b C t f hb hc => ?_, (hk2.trans (KeepsOthers.setCell _ _ _)).from _⟩, rfl, q, hB2.setCell (p := ⟨w.heap.size, 0, none⟩) (Nat.le_refl _) _, row_put hr2 _ _, hD2.put hr2 _ _, by rw [HQ.out, Hq.out], by rw [Hq.out]; exact hq, HPF.out⟩
                exact row_other (hkc.2 b C t f (by have := HI.out.1.size; omega) hc) _ _ (by omega) _
              clear hB2 hr2 hi2 hD2 hk2 hkc g hcall hmeth hq HQ HI Hq
              gi_wp2
              rw [← hX]
              obtain ⟨p1, p2, p3, p4⟩ := HP.out
              exact ⟨by first | exact p1 | (rw [hsz] at p1; exact p1), by first | exact p2 | (rw [hsz] at p2; exact p2), rfl, p4⟩
        case done =>
          rintro D ys U hDD hys ⟨hB, hr, hi, hDk, hz⟩ hK
          have hz2 : firstC ct cl (pArm m true x) = 0 := by rw [hys] at hz; simpa using hz
          have HN : Hid (Below w.heap.size w U ∧ U.heap[w.heap.size]? = some (.cells #[.nilIface] 67 (0, 0)) ∧ Dok (w.heap.size + 1) U (D :: Ds) ∧ ∀ y ∈ xs.take (n + 1), firstC ct cl (pArm m true y) = 0) :=
            ⟨hB, hr, ⟨List.nodup_cons.2 ⟨fun h => by have := hdl D h; omega, hDk.1⟩, fun D' h' => by
              rcases List.mem_cons.1 h' with rfl | h'
              · exact ⟨by omega, hK⟩
              · exact hDk.2 D' h'⟩, take_go (f := fun y => firstC ct cl (pArm m true y)) HD.out HS.out hz2⟩
          clear hB hr hi hDk hz hz2 hK hys
          gi_wp2
          have e12 : ((n : Int) + 1) = ((n + 1 : Nat) : Int) := by omega
          rw [e12]
          refine ⟨?inv, ?mea⟩
          case inv => exact ⟨n + 1, D :: Ds, _, _, _, _, _, _, _, _, _, _, _, _, _, _, _, _, _, _, _, _, _, rfl, by omega, HN.out.2.2.2, HN.out.1, HN.out.2.1, HN.out.2.2.1⟩
          case mea => simp [RowKit.intOf]; omega
        case stop =>
          rintro D c q' U hDD ⟨rfl, q, hB, hr, hDk, hq, hq0, hpf⟩ hK
          have hF : firstR (fun x => firstC ct cl (pArm m true x)) 0 xs = (q, (n : Int)) := by
            obtain ⟨Z, hZ⟩ := hpf
            have e1 : firstC ct cl (pArm m true x) = q := by
              have : [x].flatMap (pArm m true) = pArm m true x := by simp
              rw [← this, ← hZ, firstC_hit_app (by rw [← hq]; exact hq0), hq]
            rw [firstR_hit (fun x => firstC ct cl (pArm m true x)) xs n x HD.out HS.out (by show firstC ct cl (pArm m true x) ≠ 0; rw [e1]; exact hq0)]
            show (firstC ct cl (pArm m true x), _) = _
            rw [e1]
          have HEq : Hid (E = .iface 99 (.agg #[.int .i64 n, .iface 95 (.agg #[.int .i64 q])])) := (by rw [HEt.out, hF]; exact if_neg hq0 : E = _)
          have HDk : Hid (Dok (w.heap.size + 1) U (D :: Ds)) := ⟨List.nodup_cons.2 ⟨fun h => by have := hdl D h; omega, hDk.1⟩, fun D' h' => by
              rcases List.mem_cons.1 h' with rfl | h'
              · exact ⟨by omega, hK⟩
              · exact hDk.2 D' h'⟩
          have HBr : Hid (Below w.heap.size w U ∧ U.heap[w.heap.size]? = some (.cells #[.iface 99 (.agg #[.int .i64 n, .iface 95 (.agg #[.int .i64 q])])] 67 (0, 0))) := ⟨hB, hr⟩
          clear hB hr hDk hq hq0 hpf hF hK
          gi_wp2
          refine leaves_all (w.heap.size + 1) (D :: Ds) U HDk.out (fun W' g k => ?_)
          have r3 := k _ _ _ _ HBr.out.2
          have c3 : W'.cell? ⟨w.heap.size, 0, none⟩ = some (.iface 99 (.agg #[.int .i64 n, .iface 95 (.agg #[.int .i64 q])])) := (cell_of_row _ _ _ _ _ _ r3).trans rfl
          exact ⟨.iface 99 (.agg #[.int .i64 n, .iface 95 (.agg #[.int .i64 q])]), by simp [results, Tryz.results50, go_sem, c3], by rw [HEq.out], HBr.out.1.trans (g.mono (by omega))⟩
      · have i1 : ¬ ((n : Int) < (len : Int)) := by omega
        have hF : firstR (fun x => firstC ct cl (pArm m true x)) 0 xs = (0, 0) := firstR_none _ _ (fun y hy => HS.out y (by rw [List.take_of_length_le (by have := HLn.out; omega)]; exact hy))
        have HEq : Hid (E = .nilIface) := (by rw [HEt.out, hF]; rfl : E = _)
        have d0 : W.cell? ⟨w.heap.size, 0, none⟩ = some .nilIface := (cell_of_row _ _ _ _ _ _ hr).trans rfl
        have d1 : W.frozen? ⟨w.heap.size, 0, none⟩ = false := by simp [World.frozen?, hr]
        have HBr : Hid (Below w.heap.size w (W.setCell ⟨w.heap.size, 0, none⟩ .nilIface) ∧ (W.setCell ⟨w.heap.size, 0, none⟩ .nilIface).heap[w.heap.size]? = some (.cells #[.nilIface] 67 (0, 0))) := ⟨hb.setCell (p := ⟨w.heap.size, 0, none⟩) (Nat.le_refl _) _, row_put hr _ _⟩
        have HDk : Hid (Dok (w.heap.size + 1) (W.setCell ⟨w.heap.size, 0, none⟩ .nilIface) Ds) := hD.put hr _ _
        clear hb hr hD hF hlt hn
        gi_wp2
        refine leaves_all (w.heap.size + 1) Ds _ HDk.out (fun W' g k => ?_)
        have r3 := k _ _ _ _ HBr.out.2
        have c3 : W'.cell? ⟨w.heap.size, 0, none⟩ = some .nilIface := (cell_of_row _ _ _ _ _ _ r3).trans rfl
        exact ⟨.nilIface, by simp [results, Tryz.results50, go_sem, c3], by rw [HEq.out], HBr.out.1.trans (g.mono (by omega))⟩
end Go.Proofs.YtgopfaegdlefpaaGreatDoor
