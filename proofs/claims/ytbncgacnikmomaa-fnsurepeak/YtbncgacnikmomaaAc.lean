/- SureTrace of the specification. -/
import Derived.Test.YtbncgacnikmomaaZaM
namespace Go.Proofs.Ytbncgacnikmomaa
open Go.RowKit
set_option linter.unusedVariables false

theorem TrIs.later {W W' : World} {base : Nat} {v : Value} {xs : List InstT} {n : Nat} (h : TrIs W base v xs n) (g : Below W.heap.size W W') : TrIs W' base v xs n := by
  refine ⟨h.1, ?_⟩
  rcases h.2 with h | ⟨g1, cap, cur, e1, e2, e3, e4⟩
  · exact .inl h
  · exact .inr ⟨g1, cap, cur, e1, e2, (g.block _ (Array.getElem?_eq_some_iff.1 e3).1).trans e3, e4⟩
theorem TrIs.beside {W : World} {base g cp b : Nat} {xs : List InstT} {n : Nat} (h : TrIs W base (.slice (some ⟨g, 0, none⟩) n cp) xs n) (D : Array Value) (hne : g ≠ b) : TrIs (W.setRow b D) base (.slice (some ⟨g, 0, none⟩) n cp) xs n := by
  refine ⟨h.1, ?_⟩
  rcases h.2 with ⟨h, _⟩ | ⟨g1, cap, cur, e1, e2, e3, e4⟩
  · cases h
  · have hg : g1 = g := by
      cases e1; rfl
    exact .inr ⟨g1, cap, cur, e1, e2, row_beside e3 _ (fun e => hne (by omega)) _, e4⟩

set_option maxRecDepth 10000 in
set_option maxHeartbeats 8000000 in
theorem trace_s (v : Value) (xs : List InstT) (w : World) (lo : Nat) (hv : InstsIs w lo v xs) (hbig : xs.length ≤ 1048576) :
    Calls Try.prog 6 #[v] w fun e w' => TrR xs w e w' := by
  have hinfo : (Try.prog.info? 26).map (fun i => (i.zero, i.size, i.bytes)) = some (some (.agg #[.int .i64 0, .int .i64 0]), 2, 16) := by kernel_rfl
  obtain ⟨ti, hi, hzz⟩ := Option.map_eq_some_iff.1 hinfo
  simp only [Prod.mk.injEq] at hzz
  obtain ⟨hz0, hz1, hz2⟩ := hzz
  have HI : Hid (Try.prog.info? 26 = some ti ∧ ti.zero = some (.agg #[.int .i64 0, .int .i64 0]) ∧ ti.size = 2 ∧ ti.bytes = 16) := ⟨hi, hz0, hz1, hz2⟩
  clear hi hz0 hz1 hz2 hinfo
  obtain ⟨a, cap, rfl, hl, hx⟩ := hv
  have HX : Hid (∀ j x, xs[j]? = some x → ∃ b o cs, a = some ⟨b, o, none⟩ ∧ lo ≤ b ∧ cs.length = 3 ∧ w.rangeAt b (o + j * 3) cs ∧ InstIs w lo x cs) := hx
  have HO0 : Hid (∀ xs, TrIs (w.alloc (.cells #[] 26)) w.heap.size (.slice (some ⟨w.heap.size, 0, none⟩) 0 0) xs 0) := fun xs => by
    exact World.ownsRow_made (base := w.heap.size) (e := 26) (size := 2) w #[] 0 (by simp) (by unfold maxLen; omega) rfl
  by_cases hk : xs.length ≤ 1000
  · have HN : Hid (trN xs = xs.length) := if_pos hk
    obtain ⟨len, HL⟩ : ∃ len, Hid (len = xs.length) := ⟨_, rfl⟩
    rw [← HL.out] at hl hk HN ⊢
    clear hx hbig
    have i0 : ¬ ((1000 : Int) < (len : Int)) := by omega
    go_enter Try.func6, Try.ntmps6
    go_wp2
    go_loopg [3, 5] len (fun gg ov i wr => ∃ n g cp : Nat, n + gg = len ∧ i = .int .i64 n ∧ ov = .slice (some ⟨g, 0, none⟩) n cp ∧ ∃ (b f : Int), wr.heap[w.heap.size + 1]? = some (.cells #[.int .i64 b, .int .i64 f] 26 (0, 0)) ∧ Hid (b = htB xs n ∧ f = htF xs n ∧ TrIs wr w.heap.size (.slice (some ⟨g, 0, none⟩) n cp) xs n ∧ g ≠ w.heap.size + 1 ∧ Below w.heap.size w wr) ∧ -2000 ≤ b ∧ b ≤ 2000 ∧ -2000 ≤ f ∧ f ≤ 2000)
    case atStart =>
      have hB0 : Below w.heap.size w (w.alloc (.cells #[] 26)) := (Below.refl _ _).alloc (Nat.le_refl _) _
      refine ⟨0, w.heap.size, 0, by omega, rfl, rfl, 0, 0, (by have := heap_alloc_last (w.alloc (.cells #[] 26)) (.cells #[.int .i64 0, .int .i64 0] 26); simpa using this), ⟨rfl, rfl, (HO0.out xs).later ((Below.refl _ _).alloc (Nat.le_refl _) _), by omega, hB0.alloc (by simp) _⟩, by omega, by omega, by omega, by omega⟩
    case round =>
      obtain ⟨n, g, cp, hn, rfl, rfl, b, f, hS, HS, hb0, hb1, hf0, hf1⟩ := hrel
      by_cases hlt : n < len
      · have i1 : (n : Int) < (len : Int) := by omega
        have i3 : (0 : Int) ≤ (n : Int) := by omega
        obtain ⟨x, hxn⟩ : ∃ x, xs[n]? = some x := ⟨_, List.getElem?_eq_getElem (by have := HL.out; omega)⟩
        obtain ⟨bk, o, cs, rfl, hlo, hcs, hrg, u, rfl, hR⟩ := HX.out n x hxn
        have hb := HS.out.2.2.2.2
        have cc : wr.cell? ⟨bk, o + n * 3, none⟩ = some (.int .i64 x.code) := (Keeps.of_below hb 0) _ _ _ (Nat.zero_le _) (by have := hrg 0 _ rfl; simpa using this)
        obtain ⟨c, Hc⟩ : ∃ c, Hid (c = x.code) := ⟨_, rfl⟩
        rw [← Hc.out] at cc
        have hq1 := htB_in xs (n + 1)
        have hq2 := htF_in xs (n + 1)
        have HNB : Hid (htB xs (n + 1) = bhB b c ∧ htF xs (n + 1) = bhF f c) := ⟨by rw [htB_succ hxn, HS.out.1, Hc.out], by rw [htF_succ hxn, HS.out.2.1, Hc.out]⟩
        have HOw : Hid (TrIs wr w.heap.size (.slice (some ⟨g, 0, none⟩) n cp) xs n ∧ g ≠ w.heap.size + 1 ∧ Below w.heap.size w wr) := HS.out.2.2
        obtain ⟨nb, Hnb⟩ : ∃ q, Hid (q = htB xs (n + 1)) := ⟨_, rfl⟩
        obtain ⟨nf, Hnf⟩ : ∃ q, Hid (q = htF xs (n + 1)) := ⟨_, rfl⟩
        rw [← Hnb.out] at hq1 HNB
        rw [← Hnf.out] at hq2 HNB
        have HNXT : Hid (∀ (w2 w5 : World) (g1 cap1 : Nat), w2.heap[w.heap.size + 1]? = some (.cells #[.int .i64 nb, .int .i64 nf] 26 (0, 0)) → Below w.heap.size w w2 → (w2.alloc (.cells #[.int .i64 nb, .int .i64 nf] 26)).grownBy w5 (Value.slice (some ⟨g, 0, none⟩) n cp).ownBlock → w5.ownsRow w.heap.size 26 2 (.slice (some ⟨g1, 0, none⟩) (n + 1) cap1) (n + 1) (trV xs n ++ [.int .i64 nb, .int .i64 nf]) → ((Value.slice (some ⟨g, 0, none⟩) n cp).ownBlock = some g1 ∨ g1 = w2.heap.size + 1) → g < w2.heap.size →
            w5.heap[w.heap.size + 1]? = some (.cells #[.int .i64 nb, .int .i64 nf] 26 (0, 0)) ∧ (nb = htB xs (n + 1) ∧ nf = htF xs (n + 1) ∧ TrIs w5 w.heap.size (.slice (some ⟨g1, 0, none⟩) (n + 1) cap1) xs (n + 1) ∧ g1 ≠ w.heap.size + 1 ∧ Below w.heap.size w w5)) := by
          intro w2 w5 g1 cap1 k1 k2 k3 k4 k5 k6
          have hsw := k2.size
          have hl2 := (Array.getElem?_eq_some_iff.1 k1).1
          have hgn : (Value.slice (some ⟨g, 0, none⟩) n cp).ownBlock = some g := rfl
          rw [hgn] at k3 k5
          have hg0 : w.heap.size ≤ g := (HOw.out.1.lt g rfl).1
          refine ⟨?_, Hnb.out, Hnf.out, ?_, ?_, ?_⟩
          · rw [k3.block _ (by simp; omega) (by simp; exact fun e => HOw.out.2.1 e.symm)]
            exact (heap_alloc_old _ _ (h := hl2)).trans k1
          · unfold TrIs
            simp only [trV]
            rw [← Hnb.out, ← Hnf.out]
            exact k4
          · rcases k5 with e | e
            · simp at e; rw [← e]; exact HOw.out.2.1
            · omega
          · exact (k2.alloc k2.size _).grown k3 (by simp; omega) (fun j hj => by simp at hj; omega)
        have HC0 : Hid (wr.heap[w.heap.size + 1]? = some (.cells #[.int .i64 b, .int .i64 f] 26 (0, 0))) := hS
        have cS0 : wr.cell? ⟨w.heap.size + 1, 0, none⟩ = some (.int .i64 b) := (cell_of_row _ _ _ _ _ _ hS).trans rfl
        have cS1 : wr.cell? ⟨w.heap.size + 1, 1, none⟩ = some (.int .i64 f) := (cell_of_row _ _ _ _ _ _ hS).trans rfl
        clear hb hrg hcs hR hlo HS hS HX
        by_cases h1 : c = 1
        · have Hc : Hid True := trivial
          subst h1
          have e1 : nb = b + 1 := HNB.out.1
          have e2 : nf = f := HNB.out.2
          have HST : Hid ((storeVar 3 ⟨w.heap.size + 1, 0, none⟩ (.int .i64 (b + 1))).run Try.prog wr = .ok () (wr.setRow (w.heap.size + 1) #[.int .i64 nb, .int .i64 nf])) := by
            have := store_one (P := Try.prog) HC0.out 3 0 (.int .i64 (b + 1)) (by simp) (by kernel_rfl) rfl rfl
            show _ = _
            rw [e1, e2]
            exact this
          obtain ⟨w2, Hw2⟩ : ∃ W, Hid (W = wr.setRow (w.heap.size + 1) #[.int .i64 nb, .int .i64 nf]) := ⟨_, rfl⟩
          have hS2 : w2.heap[w.heap.size + 1]? = some (.cells #[.int .i64 nb, .int .i64 nf] 26 (0, 0)) := by rw [Hw2.out]; exact row_set HC0.out _
          have hB2 : Below w.heap.size w w2 := by rw [Hw2.out]; exact below_setRow HOw.out.2.2 (by omega) _
          have hT2 : TrIs w2 w.heap.size (.slice (some ⟨g, 0, none⟩) n cp) xs n := by rw [Hw2.out]; exact HOw.out.1.beside _ HOw.out.2.1
          rw [← Hw2.out] at HST
          clear Hw2 e1 e2 HNB HOw HC0
          have own3 : (w2.alloc (.cells #[.int .i64 nb, .int .i64 nf] 26)).ownsRow w.heap.size 26 2 (.slice (some ⟨g, 0, none⟩) n cp) n (trV xs n) := hT2.later ((Below.refl _ _).alloc (Nat.le_refl _) _)
          have news3 : ∀ (q : Nat) (v : Value), ([.int .i64 nb, .int .i64 nf] : List Value)[q]? = some v → (w2.alloc (.cells #[.int .i64 nb, .int .i64 nf] 26)).cell? ((⟨w2.heap.size, 0, none⟩ : Addr).add q) = some v := by
            intro q v hq
            match q with
            | 0 => simp at hq; subst hq; simp [Addr.add]
            | 1 => simp at hq; subst hq; simp [Addr.add]
            | (j + 2) => simp at hq
          have HL3 : Hid ((loadVar 26 ⟨w.heap.size + 1, 0, none⟩).run Try.prog w2 = .ok (.agg #[.int .i64 nb, .int .i64 nf]) w2) := load_all hS2 _ _ Try.underlying26 rfl (by kernel_rfl)
          have hsz3 : w.heap.size ≤ w2.heap.size := hB2.size
          have HK2 : Hid (w2.heap[w.heap.size + 1]? = some (.cells #[.int .i64 nb, .int .i64 nf] 26 (0, 0)) ∧ Below w.heap.size w w2 ∧ g < w2.heap.size) := ⟨hS2, hB2, (hT2.lt g rfl).2⟩
          clear hS2 hB2 hT2
          go_wp2_with (first | (refine wpL_store rfl 3 _ _ rfl _ _ rfl _ rfl _ HST.out ?_) | (refine wpL_load rfl 26 _ rfl _ _ rfl _ HL3.out ?_) | (at_builtin; refine wpList_append_lies _ rfl _ _ 28 rfl w.heap.size 26 ti (.agg #[.int .i64 0, .int .i64 0]) 2 16 Try.underlying28 HI.out.1 HI.out.2.1 HI.out.2.2.1 HI.out.2.2.2 rfl (by decide) _ n (trV xs n) rfl own3 ⟨w2.heap.size, 0, none⟩ 1 1 [.int .i64 nb, .int .i64 nf] rfl rfl news3 ?c2 (by omega) ?c3 ?c4 ?c5 _ rfl ?_) | fail)
          case c2 => exact one2 nb nf
          case c3 => unfold maxLen; omega
          case c4 => omega
          case c5 => simp; omega
          intro g1 cap1 w5 own4 g4 hat hlt4
          have HF := HNXT.out w2 w5 g1 cap1 HK2.out.1 HK2.out.2.1 g4 own4 (by simpa using hat) HK2.out.2.2
          have HFF : Hid (w5.heap[w.heap.size + 1]? = some (.cells #[.int .i64 nb, .int .i64 nf] 26 (0, 0)) ∧ (nb = htB xs (n + 1) ∧ nf = htF xs (n + 1) ∧ TrIs w5 w.heap.size (.slice (some ⟨g1, 0, none⟩) (n + 1) cap1) xs (n + 1) ∧ g1 ≠ w.heap.size + 1 ∧ Below w.heap.size w w5)) := HF
          clear HF own3 news3 own4 g4 hat hlt4 HNXT HK2 HL3
          go_wp2
          go_roundg (gk - 1)
          case measure => omega
          case rel => exact ⟨n + 1, g1, cap1, by omega, by simp, rfl, nb, nf, HFF.out.1, HFF.out.2, by omega, by omega, by omega, by omega⟩
        by_cases h4 : c = 4
        · have Hc : Hid True := trivial
          subst h4
          have e1 : nb = b - 1 := HNB.out.1
          have e2 : nf = f := HNB.out.2
          have HST : Hid ((storeVar 3 ⟨w.heap.size + 1, 0, none⟩ (.int .i64 (b - 1))).run Try.prog wr = .ok () (wr.setRow (w.heap.size + 1) #[.int .i64 nb, .int .i64 nf])) := by
            have := store_one (P := Try.prog) HC0.out 3 0 (.int .i64 (b - 1)) (by simp) (by kernel_rfl) rfl rfl
            show _ = _
            rw [e1, e2]
            exact this
          obtain ⟨w2, Hw2⟩ : ∃ W, Hid (W = wr.setRow (w.heap.size + 1) #[.int .i64 nb, .int .i64 nf]) := ⟨_, rfl⟩
          have hS2 : w2.heap[w.heap.size + 1]? = some (.cells #[.int .i64 nb, .int .i64 nf] 26 (0, 0)) := by rw [Hw2.out]; exact row_set HC0.out _
          have hB2 : Below w.heap.size w w2 := by rw [Hw2.out]; exact below_setRow HOw.out.2.2 (by omega) _
          have hT2 : TrIs w2 w.heap.size (.slice (some ⟨g, 0, none⟩) n cp) xs n := by rw [Hw2.out]; exact HOw.out.1.beside _ HOw.out.2.1
          rw [← Hw2.out] at HST
          clear Hw2 e1 e2 HNB HOw HC0
          have own3 : (w2.alloc (.cells #[.int .i64 nb, .int .i64 nf] 26)).ownsRow w.heap.size 26 2 (.slice (some ⟨g, 0, none⟩) n cp) n (trV xs n) := hT2.later ((Below.refl _ _).alloc (Nat.le_refl _) _)
          have news3 : ∀ (q : Nat) (v : Value), ([.int .i64 nb, .int .i64 nf] : List Value)[q]? = some v → (w2.alloc (.cells #[.int .i64 nb, .int .i64 nf] 26)).cell? ((⟨w2.heap.size, 0, none⟩ : Addr).add q) = some v := by
            intro q v hq
            match q with
            | 0 => simp at hq; subst hq; simp [Addr.add]
            | 1 => simp at hq; subst hq; simp [Addr.add]
            | (j + 2) => simp at hq
          have HL3 : Hid ((loadVar 26 ⟨w.heap.size + 1, 0, none⟩).run Try.prog w2 = .ok (.agg #[.int .i64 nb, .int .i64 nf]) w2) := load_all hS2 _ _ Try.underlying26 rfl (by kernel_rfl)
          have hsz3 : w.heap.size ≤ w2.heap.size := hB2.size
          have HK2 : Hid (w2.heap[w.heap.size + 1]? = some (.cells #[.int .i64 nb, .int .i64 nf] 26 (0, 0)) ∧ Below w.heap.size w w2 ∧ g < w2.heap.size) := ⟨hS2, hB2, (hT2.lt g rfl).2⟩
          clear hS2 hB2 hT2
          go_wp2_with (first | (refine wpL_store rfl 3 _ _ rfl _ _ rfl _ rfl _ HST.out ?_) | (refine wpL_load rfl 26 _ rfl _ _ rfl _ HL3.out ?_) | (at_builtin; refine wpList_append_lies _ rfl _ _ 28 rfl w.heap.size 26 ti (.agg #[.int .i64 0, .int .i64 0]) 2 16 Try.underlying28 HI.out.1 HI.out.2.1 HI.out.2.2.1 HI.out.2.2.2 rfl (by decide) _ n (trV xs n) rfl own3 ⟨w2.heap.size, 0, none⟩ 1 1 [.int .i64 nb, .int .i64 nf] rfl rfl news3 ?c2 (by omega) ?c3 ?c4 ?c5 _ rfl ?_) | fail)
          case c2 => exact one2 nb nf
          case c3 => unfold maxLen; omega
          case c4 => omega
          case c5 => simp; omega
          intro g1 cap1 w5 own4 g4 hat hlt4
          have HF := HNXT.out w2 w5 g1 cap1 HK2.out.1 HK2.out.2.1 g4 own4 (by simpa using hat) HK2.out.2.2
          have HFF : Hid (w5.heap[w.heap.size + 1]? = some (.cells #[.int .i64 nb, .int .i64 nf] 26 (0, 0)) ∧ (nb = htB xs (n + 1) ∧ nf = htF xs (n + 1) ∧ TrIs w5 w.heap.size (.slice (some ⟨g1, 0, none⟩) (n + 1) cap1) xs (n + 1) ∧ g1 ≠ w.heap.size + 1 ∧ Below w.heap.size w w5)) := HF
          clear HF own3 news3 own4 g4 hat hlt4 HNXT HK2 HL3
          go_wp2
          go_roundg (gk - 1)
          case measure => omega
          case rel => exact ⟨n + 1, g1, cap1, by omega, by simp, rfl, nb, nf, HFF.out.1, HFF.out.2, by omega, by omega, by omega, by omega⟩
        by_cases h5 : c = 5
        · have Hc : Hid True := trivial
          subst h5
          have e1 : nb = b - 1 := HNB.out.1
          have e2 : nf = f := HNB.out.2
          have HST : Hid ((storeVar 3 ⟨w.heap.size + 1, 0, none⟩ (.int .i64 (b - 1))).run Try.prog wr = .ok () (wr.setRow (w.heap.size + 1) #[.int .i64 nb, .int .i64 nf])) := by
            have := store_one (P := Try.prog) HC0.out 3 0 (.int .i64 (b - 1)) (by simp) (by kernel_rfl) rfl rfl
            show _ = _
            rw [e1, e2]
            exact this
          obtain ⟨w2, Hw2⟩ : ∃ W, Hid (W = wr.setRow (w.heap.size + 1) #[.int .i64 nb, .int .i64 nf]) := ⟨_, rfl⟩
          have hS2 : w2.heap[w.heap.size + 1]? = some (.cells #[.int .i64 nb, .int .i64 nf] 26 (0, 0)) := by rw [Hw2.out]; exact row_set HC0.out _
          have hB2 : Below w.heap.size w w2 := by rw [Hw2.out]; exact below_setRow HOw.out.2.2 (by omega) _
          have hT2 : TrIs w2 w.heap.size (.slice (some ⟨g, 0, none⟩) n cp) xs n := by rw [Hw2.out]; exact HOw.out.1.beside _ HOw.out.2.1
          rw [← Hw2.out] at HST
          clear Hw2 e1 e2 HNB HOw HC0
          have own3 : (w2.alloc (.cells #[.int .i64 nb, .int .i64 nf] 26)).ownsRow w.heap.size 26 2 (.slice (some ⟨g, 0, none⟩) n cp) n (trV xs n) := hT2.later ((Below.refl _ _).alloc (Nat.le_refl _) _)
          have news3 : ∀ (q : Nat) (v : Value), ([.int .i64 nb, .int .i64 nf] : List Value)[q]? = some v → (w2.alloc (.cells #[.int .i64 nb, .int .i64 nf] 26)).cell? ((⟨w2.heap.size, 0, none⟩ : Addr).add q) = some v := by
            intro q v hq
            match q with
            | 0 => simp at hq; subst hq; simp [Addr.add]
            | 1 => simp at hq; subst hq; simp [Addr.add]
            | (j + 2) => simp at hq
          have HL3 : Hid ((loadVar 26 ⟨w.heap.size + 1, 0, none⟩).run Try.prog w2 = .ok (.agg #[.int .i64 nb, .int .i64 nf]) w2) := load_all hS2 _ _ Try.underlying26 rfl (by kernel_rfl)
          have hsz3 : w.heap.size ≤ w2.heap.size := hB2.size
          have HK2 : Hid (w2.heap[w.heap.size + 1]? = some (.cells #[.int .i64 nb, .int .i64 nf] 26 (0, 0)) ∧ Below w.heap.size w w2 ∧ g < w2.heap.size) := ⟨hS2, hB2, (hT2.lt g rfl).2⟩
          clear hS2 hB2 hT2
          go_wp2_with (first | (refine wpL_store rfl 3 _ _ rfl _ _ rfl _ rfl _ HST.out ?_) | (refine wpL_load rfl 26 _ rfl _ _ rfl _ HL3.out ?_) | (at_builtin; refine wpList_append_lies _ rfl _ _ 28 rfl w.heap.size 26 ti (.agg #[.int .i64 0, .int .i64 0]) 2 16 Try.underlying28 HI.out.1 HI.out.2.1 HI.out.2.2.1 HI.out.2.2.2 rfl (by decide) _ n (trV xs n) rfl own3 ⟨w2.heap.size, 0, none⟩ 1 1 [.int .i64 nb, .int .i64 nf] rfl rfl news3 ?c2 (by omega) ?c3 ?c4 ?c5 _ rfl ?_) | fail)
          case c2 => exact one2 nb nf
          case c3 => unfold maxLen; omega
          case c4 => omega
          case c5 => simp; omega
          intro g1 cap1 w5 own4 g4 hat hlt4
          have HF := HNXT.out w2 w5 g1 cap1 HK2.out.1 HK2.out.2.1 g4 own4 (by simpa using hat) HK2.out.2.2
          have HFF : Hid (w5.heap[w.heap.size + 1]? = some (.cells #[.int .i64 nb, .int .i64 nf] 26 (0, 0)) ∧ (nb = htB xs (n + 1) ∧ nf = htF xs (n + 1) ∧ TrIs w5 w.heap.size (.slice (some ⟨g1, 0, none⟩) (n + 1) cap1) xs (n + 1) ∧ g1 ≠ w.heap.size + 1 ∧ Below w.heap.size w w5)) := HF
          clear HF own3 news3 own4 g4 hat hlt4 HNXT HK2 HL3
          go_wp2
          go_roundg (gk - 1)
          case measure => omega
          case rel => exact ⟨n + 1, g1, cap1, by omega, by simp, rfl, nb, nf, HFF.out.1, HFF.out.2, by omega, by omega, by omega, by omega⟩
        by_cases h11 : c = 11
        · have Hc : Hid True := trivial
          subst h11
          have e1 : nb = b - 1 := HNB.out.1
          have e2 : nf = f := HNB.out.2
          have HST : Hid ((storeVar 3 ⟨w.heap.size + 1, 0, none⟩ (.int .i64 (b - 1))).run Try.prog wr = .ok () (wr.setRow (w.heap.size + 1) #[.int .i64 nb, .int .i64 nf])) := by
            have := store_one (P := Try.prog) HC0.out 3 0 (.int .i64 (b - 1)) (by simp) (by kernel_rfl) rfl rfl
            show _ = _
            rw [e1, e2]
            exact this
          obtain ⟨w2, Hw2⟩ : ∃ W, Hid (W = wr.setRow (w.heap.size + 1) #[.int .i64 nb, .int .i64 nf]) := ⟨_, rfl⟩
          have hS2 : w2.heap[w.heap.size + 1]? = some (.cells #[.int .i64 nb, .int .i64 nf] 26 (0, 0)) := by rw [Hw2.out]; exact row_set HC0.out _
          have hB2 : Below w.heap.size w w2 := by rw [Hw2.out]; exact below_setRow HOw.out.2.2 (by omega) _
          have hT2 : TrIs w2 w.heap.size (.slice (some ⟨g, 0, none⟩) n cp) xs n := by rw [Hw2.out]; exact HOw.out.1.beside _ HOw.out.2.1
          rw [← Hw2.out] at HST
          clear Hw2 e1 e2 HNB HOw HC0
          have own3 : (w2.alloc (.cells #[.int .i64 nb, .int .i64 nf] 26)).ownsRow w.heap.size 26 2 (.slice (some ⟨g, 0, none⟩) n cp) n (trV xs n) := hT2.later ((Below.refl _ _).alloc (Nat.le_refl _) _)
          have news3 : ∀ (q : Nat) (v : Value), ([.int .i64 nb, .int .i64 nf] : List Value)[q]? = some v → (w2.alloc (.cells #[.int .i64 nb, .int .i64 nf] 26)).cell? ((⟨w2.heap.size, 0, none⟩ : Addr).add q) = some v := by
            intro q v hq
            match q with
            | 0 => simp at hq; subst hq; simp [Addr.add]
            | 1 => simp at hq; subst hq; simp [Addr.add]
            | (j + 2) => simp at hq
          have HL3 : Hid ((loadVar 26 ⟨w.heap.size + 1, 0, none⟩).run Try.prog w2 = .ok (.agg #[.int .i64 nb, .int .i64 nf]) w2) := load_all hS2 _ _ Try.underlying26 rfl (by kernel_rfl)
          have hsz3 : w.heap.size ≤ w2.heap.size := hB2.size
          have HK2 : Hid (w2.heap[w.heap.size + 1]? = some (.cells #[.int .i64 nb, .int .i64 nf] 26 (0, 0)) ∧ Below w.heap.size w w2 ∧ g < w2.heap.size) := ⟨hS2, hB2, (hT2.lt g rfl).2⟩
          clear hS2 hB2 hT2
          go_wp2_with (first | (refine wpL_store rfl 3 _ _ rfl _ _ rfl _ rfl _ HST.out ?_) | (refine wpL_load rfl 26 _ rfl _ _ rfl _ HL3.out ?_) | (at_builtin; refine wpList_append_lies _ rfl _ _ 28 rfl w.heap.size 26 ti (.agg #[.int .i64 0, .int .i64 0]) 2 16 Try.underlying28 HI.out.1 HI.out.2.1 HI.out.2.2.1 HI.out.2.2.2 rfl (by decide) _ n (trV xs n) rfl own3 ⟨w2.heap.size, 0, none⟩ 1 1 [.int .i64 nb, .int .i64 nf] rfl rfl news3 ?c2 (by omega) ?c3 ?c4 ?c5 _ rfl ?_) | fail)
          case c2 => exact one2 nb nf
          case c3 => unfold maxLen; omega
          case c4 => omega
          case c5 => simp; omega
          intro g1 cap1 w5 own4 g4 hat hlt4
          have HF := HNXT.out w2 w5 g1 cap1 HK2.out.1 HK2.out.2.1 g4 own4 (by simpa using hat) HK2.out.2.2
          have HFF : Hid (w5.heap[w.heap.size + 1]? = some (.cells #[.int .i64 nb, .int .i64 nf] 26 (0, 0)) ∧ (nb = htB xs (n + 1) ∧ nf = htF xs (n + 1) ∧ TrIs w5 w.heap.size (.slice (some ⟨g1, 0, none⟩) (n + 1) cap1) xs (n + 1) ∧ g1 ≠ w.heap.size + 1 ∧ Below w.heap.size w w5)) := HF
          clear HF own3 news3 own4 g4 hat hlt4 HNXT HK2 HL3
          go_wp2
          go_roundg (gk - 1)
          case measure => omega
          case rel => exact ⟨n + 1, g1, cap1, by omega, by simp, rfl, nb, nf, HFF.out.1, HFF.out.2, by omega, by omega, by omega, by omega⟩
        by_cases h7 : c = 7
        · have Hc : Hid True := trivial
          subst h7
          have e1 : nb = b := HNB.out.1
          have e2 : nf = f + 1 := HNB.out.2
          have HST : Hid ((storeVar 3 ⟨w.heap.size + 1, 1, none⟩ (.int .i64 (f + 1))).run Try.prog wr = .ok () (wr.setRow (w.heap.size + 1) #[.int .i64 nb, .int .i64 nf])) := by
            have := store_one (P := Try.prog) HC0.out 3 1 (.int .i64 (f + 1)) (by simp) (by kernel_rfl) rfl rfl
            show _ = _
            rw [e1, e2]
            exact this
          obtain ⟨w2, Hw2⟩ : ∃ W, Hid (W = wr.setRow (w.heap.size + 1) #[.int .i64 nb, .int .i64 nf]) := ⟨_, rfl⟩
          have hS2 : w2.heap[w.heap.size + 1]? = some (.cells #[.int .i64 nb, .int .i64 nf] 26 (0, 0)) := by rw [Hw2.out]; exact row_set HC0.out _
          have hB2 : Below w.heap.size w w2 := by rw [Hw2.out]; exact below_setRow HOw.out.2.2 (by omega) _
          have hT2 : TrIs w2 w.heap.size (.slice (some ⟨g, 0, none⟩) n cp) xs n := by rw [Hw2.out]; exact HOw.out.1.beside _ HOw.out.2.1
          rw [← Hw2.out] at HST
          clear Hw2 e1 e2 HNB HOw HC0
          have own3 : (w2.alloc (.cells #[.int .i64 nb, .int .i64 nf] 26)).ownsRow w.heap.size 26 2 (.slice (some ⟨g, 0, none⟩) n cp) n (trV xs n) := hT2.later ((Below.refl _ _).alloc (Nat.le_refl _) _)
          have news3 : ∀ (q : Nat) (v : Value), ([.int .i64 nb, .int .i64 nf] : List Value)[q]? = some v → (w2.alloc (.cells #[.int .i64 nb, .int .i64 nf] 26)).cell? ((⟨w2.heap.size, 0, none⟩ : Addr).add q) = some v := by
            intro q v hq
            match q with
            | 0 => simp at hq; subst hq; simp [Addr.add]
            | 1 => simp at hq; subst hq; simp [Addr.add]
            | (j + 2) => simp at hq
          have HL3 : Hid ((loadVar 26 ⟨w.heap.size + 1, 0, none⟩).run Try.prog w2 = .ok (.agg #[.int .i64 nb, .int .i64 nf]) w2) := load_all hS2 _ _ Try.underlying26 rfl (by kernel_rfl)
          have hsz3 : w.heap.size ≤ w2.heap.size := hB2.size
          have HK2 : Hid (w2.heap[w.heap.size + 1]? = some (.cells #[.int .i64 nb, .int .i64 nf] 26 (0, 0)) ∧ Below w.heap.size w w2 ∧ g < w2.heap.size) := ⟨hS2, hB2, (hT2.lt g rfl).2⟩
          clear hS2 hB2 hT2
          go_wp2_with (first | (refine wpL_store rfl 3 _ _ rfl _ _ rfl _ rfl _ HST.out ?_) | (refine wpL_load rfl 26 _ rfl _ _ rfl _ HL3.out ?_) | (at_builtin; refine wpList_append_lies _ rfl _ _ 28 rfl w.heap.size 26 ti (.agg #[.int .i64 0, .int .i64 0]) 2 16 Try.underlying28 HI.out.1 HI.out.2.1 HI.out.2.2.1 HI.out.2.2.2 rfl (by decide) _ n (trV xs n) rfl own3 ⟨w2.heap.size, 0, none⟩ 1 1 [.int .i64 nb, .int .i64 nf] rfl rfl news3 ?c2 (by omega) ?c3 ?c4 ?c5 _ rfl ?_) | fail)
          case c2 => exact one2 nb nf
          case c3 => unfold maxLen; omega
          case c4 => omega
          case c5 => simp; omega
          intro g1 cap1 w5 own4 g4 hat hlt4
          have HF := HNXT.out w2 w5 g1 cap1 HK2.out.1 HK2.out.2.1 g4 own4 (by simpa using hat) HK2.out.2.2
          have HFF : Hid (w5.heap[w.heap.size + 1]? = some (.cells #[.int .i64 nb, .int .i64 nf] 26 (0, 0)) ∧ (nb = htB xs (n + 1) ∧ nf = htF xs (n + 1) ∧ TrIs w5 w.heap.size (.slice (some ⟨g1, 0, none⟩) (n + 1) cap1) xs (n + 1) ∧ g1 ≠ w.heap.size + 1 ∧ Below w.heap.size w w5)) := HF
          clear HF own3 news3 own4 g4 hat hlt4 HNXT HK2 HL3
          go_wp2
          go_roundg (gk - 1)
          case measure => omega
          case rel => exact ⟨n + 1, g1, cap1, by omega, by simp, rfl, nb, nf, HFF.out.1, HFF.out.2, by omega, by omega, by omega, by omega⟩
        by_cases h9 : c = 9
        · have Hc : Hid True := trivial
          subst h9
          have e1 : nb = b := HNB.out.1
          have e2 : nf = f - 1 := HNB.out.2
          have HST : Hid ((storeVar 3 ⟨w.heap.size + 1, 1, none⟩ (.int .i64 (f - 1))).run Try.prog wr = .ok () (wr.setRow (w.heap.size + 1) #[.int .i64 nb, .int .i64 nf])) := by
            have := store_one (P := Try.prog) HC0.out 3 1 (.int .i64 (f - 1)) (by simp) (by kernel_rfl) rfl rfl
            show _ = _
            rw [e1, e2]
            exact this
          obtain ⟨w2, Hw2⟩ : ∃ W, Hid (W = wr.setRow (w.heap.size + 1) #[.int .i64 nb, .int .i64 nf]) := ⟨_, rfl⟩
          have hS2 : w2.heap[w.heap.size + 1]? = some (.cells #[.int .i64 nb, .int .i64 nf] 26 (0, 0)) := by rw [Hw2.out]; exact row_set HC0.out _
          have hB2 : Below w.heap.size w w2 := by rw [Hw2.out]; exact below_setRow HOw.out.2.2 (by omega) _
          have hT2 : TrIs w2 w.heap.size (.slice (some ⟨g, 0, none⟩) n cp) xs n := by rw [Hw2.out]; exact HOw.out.1.beside _ HOw.out.2.1
          rw [← Hw2.out] at HST
          clear Hw2 e1 e2 HNB HOw HC0
          have own3 : (w2.alloc (.cells #[.int .i64 nb, .int .i64 nf] 26)).ownsRow w.heap.size 26 2 (.slice (some ⟨g, 0, none⟩) n cp) n (trV xs n) := hT2.later ((Below.refl _ _).alloc (Nat.le_refl _) _)
          have news3 : ∀ (q : Nat) (v : Value), ([.int .i64 nb, .int .i64 nf] : List Value)[q]? = some v → (w2.alloc (.cells #[.int .i64 nb, .int .i64 nf] 26)).cell? ((⟨w2.heap.size, 0, none⟩ : Addr).add q) = some v := by
            intro q v hq
            match q with
            | 0 => simp at hq; subst hq; simp [Addr.add]
            | 1 => simp at hq; subst hq; simp [Addr.add]
            | (j + 2) => simp at hq
          have HL3 : Hid ((loadVar 26 ⟨w.heap.size + 1, 0, none⟩).run Try.prog w2 = .ok (.agg #[.int .i64 nb, .int .i64 nf]) w2) := load_all hS2 _ _ Try.underlying26 rfl (by kernel_rfl)
          have hsz3 : w.heap.size ≤ w2.heap.size := hB2.size
          have HK2 : Hid (w2.heap[w.heap.size + 1]? = some (.cells #[.int .i64 nb, .int .i64 nf] 26 (0, 0)) ∧ Below w.heap.size w w2 ∧ g < w2.heap.size) := ⟨hS2, hB2, (hT2.lt g rfl).2⟩
          clear hS2 hB2 hT2
          go_wp2_with (first | (refine wpL_store rfl 3 _ _ rfl _ _ rfl _ rfl _ HST.out ?_) | (refine wpL_load rfl 26 _ rfl _ _ rfl _ HL3.out ?_) | (at_builtin; refine wpList_append_lies _ rfl _ _ 28 rfl w.heap.size 26 ti (.agg #[.int .i64 0, .int .i64 0]) 2 16 Try.underlying28 HI.out.1 HI.out.2.1 HI.out.2.2.1 HI.out.2.2.2 rfl (by decide) _ n (trV xs n) rfl own3 ⟨w2.heap.size, 0, none⟩ 1 1 [.int .i64 nb, .int .i64 nf] rfl rfl news3 ?c2 (by omega) ?c3 ?c4 ?c5 _ rfl ?_) | fail)
          case c2 => exact one2 nb nf
          case c3 => unfold maxLen; omega
          case c4 => omega
          case c5 => simp; omega
          intro g1 cap1 w5 own4 g4 hat hlt4
          have HF := HNXT.out w2 w5 g1 cap1 HK2.out.1 HK2.out.2.1 g4 own4 (by simpa using hat) HK2.out.2.2
          have HFF : Hid (w5.heap[w.heap.size + 1]? = some (.cells #[.int .i64 nb, .int .i64 nf] 26 (0, 0)) ∧ (nb = htB xs (n + 1) ∧ nf = htF xs (n + 1) ∧ TrIs w5 w.heap.size (.slice (some ⟨g1, 0, none⟩) (n + 1) cap1) xs (n + 1) ∧ g1 ≠ w.heap.size + 1 ∧ Below w.heap.size w w5)) := HF
          clear HF own3 news3 own4 g4 hat hlt4 HNXT HK2 HL3
          go_wp2
          go_roundg (gk - 1)
          case measure => omega
          case rel => exact ⟨n + 1, g1, cap1, by omega, by simp, rfl, nb, nf, HFF.out.1, HFF.out.2, by omega, by omega, by omega, by omega⟩
        · have e1 : nb = b := by rw [HNB.out.1]; unfold bhB; rw [if_neg h1, if_neg (by omega)]
          have e2 : nf = f := by rw [HNB.out.2]; unfold bhF; rw [if_neg h7, if_neg h9]
          have hS2 : wr.heap[w.heap.size + 1]? = some (.cells #[.int .i64 nb, .int .i64 nf] 26 (0, 0)) := by rw [e1, e2]; exact HC0.out
          have hB2 : Below w.heap.size w wr := HOw.out.2.2
          have hT2 : TrIs wr w.heap.size (.slice (some ⟨g, 0, none⟩) n cp) xs n := HOw.out.1
          clear e1 e2 HNB HOw HC0
          have own3 : (wr.alloc (.cells #[.int .i64 nb, .int .i64 nf] 26)).ownsRow w.heap.size 26 2 (.slice (some ⟨g, 0, none⟩) n cp) n (trV xs n) := hT2.later ((Below.refl _ _).alloc (Nat.le_refl _) _)
          have news3 : ∀ (q : Nat) (v : Value), ([.int .i64 nb, .int .i64 nf] : List Value)[q]? = some v → (wr.alloc (.cells #[.int .i64 nb, .int .i64 nf] 26)).cell? ((⟨wr.heap.size, 0, none⟩ : Addr).add q) = some v := by
            intro q v hq
            match q with
            | 0 => simp at hq; subst hq; simp [Addr.add]
            | 1 => simp at hq; subst hq; simp [Addr.add]
            | (j + 2) => simp at hq
          have HL3 : Hid ((loadVar 26 ⟨w.heap.size + 1, 0, none⟩).run Try.prog wr = .ok (.agg #[.int .i64 nb, .int .i64 nf]) wr) := load_all hS2 _ _ Try.underlying26 rfl (by kernel_rfl)
          have hsz3 : w.heap.size ≤ wr.heap.size := hB2.size
          have HK2 : Hid (wr.heap[w.heap.size + 1]? = some (.cells #[.int .i64 nb, .int .i64 nf] 26 (0, 0)) ∧ Below w.heap.size w wr ∧ g < wr.heap.size) := ⟨hS2, hB2, (hT2.lt g rfl).2⟩
          clear hS2 hB2 hT2
          go_wp2_with (first | (refine wpL_load rfl 26 _ rfl _ _ rfl _ HL3.out ?_) | (at_builtin; refine wpList_append_lies _ rfl _ _ 28 rfl w.heap.size 26 ti (.agg #[.int .i64 0, .int .i64 0]) 2 16 Try.underlying28 HI.out.1 HI.out.2.1 HI.out.2.2.1 HI.out.2.2.2 rfl (by decide) _ n (trV xs n) rfl own3 ⟨wr.heap.size, 0, none⟩ 1 1 [.int .i64 nb, .int .i64 nf] rfl rfl news3 ?c2 (by omega) ?c3 ?c4 ?c5 _ rfl ?_) | fail)
          case c2 => exact one2 nb nf
          case c3 => unfold maxLen; omega
          case c4 => omega
          case c5 => simp; omega
          intro g1 cap1 w5 own4 g4 hat hlt4
          have HF := HNXT.out wr w5 g1 cap1 HK2.out.1 HK2.out.2.1 g4 own4 (by simpa using hat) HK2.out.2.2
          have HFF : Hid (w5.heap[w.heap.size + 1]? = some (.cells #[.int .i64 nb, .int .i64 nf] 26 (0, 0)) ∧ (nb = htB xs (n + 1) ∧ nf = htF xs (n + 1) ∧ TrIs w5 w.heap.size (.slice (some ⟨g1, 0, none⟩) (n + 1) cap1) xs (n + 1) ∧ g1 ≠ w.heap.size + 1 ∧ Below w.heap.size w w5)) := HF
          clear HF own3 news3 own4 g4 hat hlt4 HNXT HK2 HL3
          go_wp2
          go_roundg (gk - 1)
          case measure => omega
          case rel => exact ⟨n + 1, g1, cap1, by omega, by simp, rfl, nb, nf, HFF.out.1, HFF.out.2, by omega, by omega, by omega, by omega⟩
      · have i1 : ¬ ((n : Int) < (len : Int)) := by omega
        have HF : Hid (TrR xs w (.returned (.slice (some ⟨g, 0, none⟩) n cp)) wr) := by
          refine ⟨_, rfl, ?_, HS.out.2.2.2.2⟩
          rw [HN.out, show len = n by omega]
          exact HS.out.2.2.1
        clear HS hS
        go_wp2
        go_ret
        exact HF.out
  · have i0 : (1000 : Int) < (xs.length : Int) := by omega
    have HF : Hid (TrR xs w (.returned (.slice (some ⟨w.heap.size, 0, none⟩) 0 0)) (w.alloc (.cells #[] 26))) := ⟨_, rfl, by rw [show trN xs = 0 from if_neg hk]; exact HO0.out xs, (Below.refl _ _).alloc (Nat.le_refl _) _⟩
    clear hx HX HO0
    generalize xs.length = len at i0 hl hbig
    go_enter Try.func6, Try.ntmps6
    go_wp2
    go_ret
    exact HF.out
end Go.Proofs.Ytbncgacnikmomaa
