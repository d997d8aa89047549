/- TreeCheck of the program. -/
import Derived.Test.YtllmabgollkigaaGreatDoorGrM
import Derived.Test.YtllmabgollkigaaGreatDoorUb
namespace Go.Proofs.YtllmabgollkigaaGreatDoor
open Go.RowKit Go.Shelf
set_option linter.unusedVariables false
theorem as_bad_bad{w:World}(c:Int)(g:Nat)(old:Value)(ht0:w.cell? ⟨g,0,none⟩=some old)(hf0:w.frozen? ⟨g,0,none⟩=false)(hg:w.cell? ⟨0,0,none⟩=some (.iface 173 (.agg #[.pointer (some ⟨9,63,none⟩)]))) :
  Calls Tryz.prog 48 #[.iface 91 (.agg #[.int .i64 c]),.iface 93 (.pointer (some ⟨g,0,none⟩))] w fun ev w'=>ev=.returned (.bool true)∧Below g w w'∧w'.cell? ⟨g,0,none⟩=some (.int .i64 c):=by
 refine (as_bad_bad0 c ⟨g,0,none⟩ old ht0 hf0 hg).mono ?_
 rintro e w' ⟨rfl,rfl⟩
 have hl:g<w.heap.size:=World.block_lt_of_cell? _ _ ht0
 have hb:∀A B C D,Below w.heap.size w ((((w.alloc A).alloc B).alloc C).alloc D):=fun A B C D=>((((Below.refl _ _).alloc (Nat.le_refl _) _).alloc (by simp) _).alloc (by simp<;>omega) _).alloc (by simp<;>omega) _
 exact ⟨rfl,((hb _ _ _ _).mono (Nat.le_of_lt hl)).setCell (p:=⟨g,0,none⟩) (Nat.le_refl _) _,World.cell?_setCell_same' _ _ _ (by rw [zdl (hb _ _ _ _) hl ht0];rfl)⟩
theorem as_at_bad{w:World}(i c:Int)(g:Nat)(old:Value)(ht0:w.cell? ⟨g,0,none⟩=some old)(hf0:w.frozen? ⟨g,0,none⟩=false)(hg:w.cell? ⟨0,0,none⟩=some (.iface 173 (.agg #[.pointer (some ⟨9,63,none⟩)]))) :
  Calls Tryz.prog 48 #[.iface 95 (.agg #[.int .i64 i,.iface 91 (.agg #[.int .i64 c])]),.iface 93 (.pointer (some ⟨g,0,none⟩))] w fun ev w'=>ev=.returned (.bool true)∧Below g w w'∧w'.cell? ⟨g,0,none⟩=some (.int .i64 c):=by
 refine (as_at_bad0 i c ⟨g,0,none⟩ old ht0 hf0 hg).mono ?_
 rintro e w' ⟨rfl,rfl⟩
 have hl:g<w.heap.size:=World.block_lt_of_cell? _ _ ht0
 have hb:∀A B C D E,Below w.heap.size w (((((w.alloc A).alloc B).alloc C).alloc D).alloc E):=fun A B C D E=>(((((Below.refl _ _).alloc (Nat.le_refl _) _).alloc (by simp) _).alloc (by simp<;>omega) _).alloc (by simp<;>omega) _).alloc (by simp<;>omega) _
 exact ⟨rfl,((hb _ _ _ _ _).mono (Nat.le_of_lt hl)).setCell (p:=⟨g,0,none⟩) (Nat.le_refl _) _,World.cell?_setCell_same' _ _ _ (by rw [zdl (hb _ _ _ _ _) hl ht0];rfl)⟩
theorem as_bad_at{w:World}(c:Int)(g:Nat)(hg:w.cell? ⟨0,0,none⟩=some (.iface 173 (.agg #[.pointer (some ⟨9,63,none⟩)]))) :
  Calls Tryz.prog 48 #[.iface 91 (.agg #[.int .i64 c]),.iface 96 (.pointer (some ⟨g,0,none⟩))] w fun ev w'=>ev=.returned (.bool false)∧Below w.heap.size w w':=by
 refine (as_bad_at0 c ⟨g,0,none⟩ hg).mono ?_
 rintro e w' ⟨rfl,rfl⟩
 exact ⟨rfl,(((Below.refl _ _).alloc (Nat.le_refl _) _).alloc (by simp) _).alloc (by simp<;>omega) _⟩
theorem as_at_at{w:World}(i:Int)(T:TypeId)(u:Value)(g:Nat)(o0 o1:Value)(ht0:w.heap[g]?=some (.cells #[o0,o1] 95 (0,0)))(hg:w.cell? ⟨0,0,none⟩=some (.iface 173 (.agg #[.pointer (some ⟨9,63,none⟩)]))) :
  Calls Tryz.prog 48 #[.iface 95 (.agg #[.int .i64 i,.iface T u]),.iface 96 (.pointer (some ⟨g,0,none⟩))] w fun ev w'=>ev=.returned (.bool true)∧Below g w w'∧w'.cell? ⟨g,0,none⟩=some (.int .i64 i):=by
 refine (as_at_at0 i T u g o0 o1 ht0 hg).mono ?_
 rintro e w' ⟨rfl,rfl⟩
 have hl:g<w.heap.size:=(Array.getElem?_eq_some_iff.1 ht0).1
 have hc:w.cell? ⟨g,0,none⟩=some o0:=(cell_of_row _ _ _ _ _ _ ht0).trans rfl
 have hb:∀A B C D,Below w.heap.size w ((((w.alloc A).alloc B).alloc C).alloc D):=fun A B C D=>((((Below.refl _ _).alloc (Nat.le_refl _) _).alloc (by simp) _).alloc (by simp<;>omega) _).alloc (by simp<;>omega) _
 refine ⟨rfl,(((hb _ _ _ _).mono (Nat.le_of_lt hl)).setCell (p:=⟨g,0,none⟩) (Nat.le_refl _) _).setCell (p:=⟨g,1,none⟩) (Nat.le_refl _) _,?_⟩
 rw [World.cell?_setCell_other _ _ _ _ (by simp)]
 exact World.cell?_setCell_same' _ _ _ (by rw [zdl (hb _ _ _ _) hl hc];rfl)
set_option maxRecDepth 100000 in
set_option maxHeartbeats 16000000 in
theorem check_run(a:Option Addr)(len cap:Nat)(E:Value)(r:Int×Int)(w:World)(hg:w.cell? ⟨0,0,none⟩=some (.iface 173 (.agg #[.pointer (some ⟨9,63,none⟩)])))
  (hE:(E=.nilIface∧r=(0,0))∨(∃c,E=.iface 91 (.agg #[.int .i64 c])∧r=(c,0))∨∃i c,E=.iface 95 (.agg #[.int .i64 i,.iface 91 (.agg #[.int .i64 c])])∧r=(c,i))
  (HW:Hid (∀W,Below w.heap.size w W→Calls Tryz.prog 47 #[.slice a len cap] W fun e w'=>e=.returned E∧Below W.heap.size W w')) :
  Calls Tryz.prog 16 #[.slice a len cap] w fun e w'=>e=.returned (.agg #[.int .i64 r.1,.int .i64 r.2])∧Below w.heap.size w w':=by
 have hgl:0<w.heap.size:=World.block_lt_of_cell? _ _ hg
 have b0:Below w.heap.size w (w.alloc (.cells #[.int .i64 0,.int .i64 0] 27)):=(Below.refl _ _).alloc (Nat.le_refl _) _
 have R0:Hid ((w.alloc (.cells #[.int .i64 0,.int .i64 0] 27)).heap[w.heap.size]?=some (.cells #[.int .i64 0,.int .i64 0] 27 (0,0))∧w.heap.size<(w.alloc (.cells #[.int .i64 0,.int .i64 0] 27)).heap.size):=⟨heap_alloc_last w _,by simp⟩
 go_enter Tryz.func16,Tryz.ntmps16
 go_wp2_with fail
 refine (HW.out _ b0).mono ?_
 rintro e w1 ⟨rfl,g1⟩
 have r1:=(g1.block _ R0.out.2).trans R0.out.1
 have b1:=b0.trans (g1.mono b0.size)
 have l1:w.heap.size<w1.heap.size:=(Array.getElem?_eq_some_iff.1 r1).1
 clear g1 b0 R0 HW
 -- the world behind the new variable
 obtain ⟨w2,hw2⟩:∃w2,w1.alloc (.cells #[.int .i64 0] 91)=w2:=⟨_,rfl⟩
 have gA:Below w1.heap.size w1 w2:=by rw [←hw2];exact (Below.refl _ _).alloc (Nat.le_refl _) _
 have rt:=heap_alloc_last w1 (.cells #[.int .i64 0] 91)
 rw [hw2] at rt
 have hs2:w2.heap.size=w1.heap.size+1:=by rw [←hw2];simp
 have r2:=(gA.block _ l1).trans r1
 have b2:=b1.trans (gA.mono b1.size)
 have hg2:w2.cell? ⟨0,0,none⟩=some (.iface 173 (.agg #[.pointer (some ⟨9,63,none⟩)])):=zdl b2 hgl hg
 have ct0:w2.cell? ⟨w1.heap.size,0,none⟩=some (.int .i64 0):=(cell_of_row _ _ _ _ _ _ rt).trans rfl
 have ft0:w2.frozen? ⟨w1.heap.size,0,none⟩=false:=by simp [World.frozen?,rt]
 have HS2:Hid (Below w.heap.size w w2∧w2.heap[w.heap.size]?=some (.cells #[.int .i64 0,.int .i64 0] 27 (0,0))∧w.heap.size<w1.heap.size):=⟨b2,r2,l1⟩
 clear gA rt r1 b1 r2 b2 l1
 have finish:∀(W:World)(x y:Int),Below w.heap.size w W→W.heap[w.heap.size]?=some (.cells #[.int .i64 0,.int .i64 0] 27 (0,0)) →
   Below w.heap.size w ((W.setCell ⟨w.heap.size,0,none⟩ (.int .i64 x)).setCell ⟨w.heap.size,1,none⟩ (.int .i64 y)) ∧
   ((W.setCell ⟨w.heap.size,0,none⟩ (.int .i64 x)).setCell ⟨w.heap.size,1,none⟩ (.int .i64 y)).cell? ⟨w.heap.size,0,none⟩=some (.int .i64 x) ∧
   ((W.setCell ⟨w.heap.size,0,none⟩ (.int .i64 x)).setCell ⟨w.heap.size,1,none⟩ (.int .i64 y)).cell? ⟨w.heap.size,1,none⟩=some (.int .i64 y) ∧
   W.cell? ⟨w.heap.size,0,none⟩=some (.int .i64 0)∧W.cell? ⟨w.heap.size,1,none⟩=some (.int .i64 0)∧W.frozen? ⟨w.heap.size,0,none⟩=false∧W.frozen? ⟨w.heap.size,1,none⟩=false ∧
   (W.setCell ⟨w.heap.size,0,none⟩ (.int .i64 x)).cell? ⟨w.heap.size,1,none⟩=some (.int .i64 0)∧(W.setCell ⟨w.heap.size,0,none⟩ (.int .i64 x)).frozen? ⟨w.heap.size,1,none⟩=false:=by
  intro W x y hb hk
  have d0:W.cell? ⟨w.heap.size,0,none⟩=some (.int .i64 0):=(cell_of_row _ _ _ _ _ _ hk).trans rfl
  have d1:W.cell? ⟨w.heap.size,1,none⟩=some (.int .i64 0):=(cell_of_row _ _ _ _ _ _ hk).trans rfl
  have d2:(W.setCell ⟨w.heap.size,0,none⟩ (.int .i64 x)).cell? ⟨w.heap.size,1,none⟩=some (.int .i64 0):=by rw [World.cell?_setCell_other _ _ _ _ (by simp)];exact d1
  refine ⟨(hb.setCell (p:=⟨w.heap.size,0,none⟩) (Nat.le_refl _) _).setCell (p:=⟨w.heap.size,1,none⟩) (Nat.le_refl _) _,?_,World.cell?_setCell_same' _ _ _ (by rw [d2];rfl),d0,d1,by simp [World.frozen?,hk],by simp [World.frozen?,hk],d2,by rw [World.frozen?_setCell];simp [World.frozen?,hk]⟩
  rw [World.cell?_setCell_other _ _ _ _ (by simp)]
  exact World.cell?_setCell_same' _ _ _ (by rw [d0];rfl)
 have HFin:=(show Hid _ from finish)
 clear finish
 rcases hE with ⟨rfl,rfl⟩|⟨c,rfl,rfl⟩|⟨i,c,rfl,rfl⟩
 ·go_wp2_with fail
  try rw [hw2]
  refine (as_nil _ _).mono ?_
  rintro e w3 ⟨rfl,rfl⟩
  obtain ⟨f0,f1,f2,f3,f4,f5,f6,f7,f8⟩:=HFin.out _ 0 0 HS2.out.1 HS2.out.2.1
  go_wp2
  exact bodyPost_ret (v:=.agg #[.int .i64 0,.int .i64 0]) (by simp [results,Tryz.results16,go_sem,f1,f2]) rfl ⟨rfl,f0⟩
 ·go_wp2_with fail
  try rw [hw2]
  refine (as_bad_bad c w1.heap.size _ ct0 ft0 hg2).mono ?_
  rintro e w3 ⟨rfl,g3,ce⟩
  have r3:=(g3.block _ HS2.out.2.2).trans HS2.out.2.1
  have b3:Below w.heap.size w w3:=HS2.out.1.trans (g3.mono (by have:=HS2.out.2.2;omega))
  have l3:w.heap.size<w3.heap.size:=(Array.getElem?_eq_some_iff.1 r3).1
  have l13:w1.heap.size<w3.heap.size:=World.block_lt_of_cell? _ _ ce
  clear g3 HS2 ct0 ft0 hg2
  obtain ⟨w4,hw4⟩:∃w4,(w3.alloc (.cells #[.int .i64 c,.int .i64 0] 27)).alloc (.cells #[.int .i64 0,.nilIface] 95)=w4:=⟨_,rfl⟩
  have g4:Below w3.heap.size w3 w4:=by rw [←hw4];exact ((Below.refl _ _).alloc (Nat.le_refl _) _).alloc (by simp) _
  have k4:=rows2 w3 (.cells #[.int .i64 c,.int .i64 0] 27) (.cells #[.int .i64 0,.nilIface] 95)
  rw [hw4] at k4
  have hs4:w4.heap.size=w3.heap.size+1+1:=by rw [←hw4];simp
  have b4:=b3.trans (g4.mono b3.size)
  have r4:=(g4.block _ l3).trans r3
  have hg4:w4.cell? ⟨0,0,none⟩=some (.iface 173 (.agg #[.pointer (some ⟨9,63,none⟩)])):=zdl b4 hgl hg
  have HS4:Hid (Below w.heap.size w w4∧w4.heap[w.heap.size]?=some (.cells #[.int .i64 0,.int .i64 0] 27 (0,0))∧w4.heap[w3.heap.size]?=some (.cells #[.int .i64 c,.int .i64 0] 27 (0,0))∧w.heap.size<w3.heap.size∧w3.heap.size+1<w4.heap.size):=⟨b4,r4,k4.1,l3,by omega⟩
  have K42:Hid (w4.heap[w3.heap.size+1]?=some (.cells #[.int .i64 0,.nilIface] 95 (0,0))):=k4.2
  clear g4 k4 b4 r4 r3 b3 l3 hs4 l13
  go_wp2_with fail
  try rw [hw4]
  refine (as_bad_at c (w3.heap.size+1) hg4).mono ?_
  rintro e w5 ⟨rfl,g5⟩
  have g5':Below (w3.heap.size+1) w4 w5:=g5.mono (by have:=HS4.out.2.2.2.2;omega)
  have r5:=(g5'.block _ (by have:=HS4.out.2.2.2.1;omega)).trans HS4.out.2.1
  have k5:=(g5'.block _ (by omega)).trans HS4.out.2.2.1
  have b5:Below w.heap.size w w5:=HS4.out.1.trans (g5'.mono (by have:=HS4.out.2.2.2.1;omega))
  have hlt3:w.heap.size<w3.heap.size:=HS4.out.2.2.2.1
  have hne:w.heap.size≠w3.heap.size:=by have:=HS4.out.2.2.2.1;omega
  have hne':w3.heap.size≠w.heap.size:=fun h=>hne h.symm
  clear g5 g5' HS4 K42 hg4 ce
  have y0:w5.cell? ⟨w3.heap.size,0,none⟩=some (.int .i64 c):=(cell_of_row _ _ _ _ _ _ k5).trans rfl
  have y1:w5.cell? ⟨w3.heap.size,1,none⟩=some (.int .i64 0):=(cell_of_row _ _ _ _ _ _ k5).trans rfl
  obtain ⟨f0,f1,f2,f3,f4,f5,f6,f7,f8⟩:=HFin.out _ c 0 b5 r5
  clear k5 r5 b5
  go_wp2
  exact bodyPost_ret (v:=.agg #[.int .i64 c,.int .i64 0]) (by simp [results,Tryz.results16,go_sem,f1,f2]) rfl ⟨rfl,f0⟩
 ·go_wp2_with fail
  try rw [hw2]
  refine (as_at_bad i c w1.heap.size _ ct0 ft0 hg2).mono ?_
  rintro e w3 ⟨rfl,g3,ce⟩
  have r3:=(g3.block _ HS2.out.2.2).trans HS2.out.2.1
  have b3:Below w.heap.size w w3:=HS2.out.1.trans (g3.mono (by have:=HS2.out.2.2;omega))
  have l3:w.heap.size<w3.heap.size:=(Array.getElem?_eq_some_iff.1 r3).1
  have l13:w1.heap.size<w3.heap.size:=World.block_lt_of_cell? _ _ ce
  clear g3 HS2 ct0 ft0 hg2
  obtain ⟨w4,hw4⟩:∃w4,(w3.alloc (.cells #[.int .i64 c,.int .i64 0] 27)).alloc (.cells #[.int .i64 0,.nilIface] 95)=w4:=⟨_,rfl⟩
  have g4:Below w3.heap.size w3 w4:=by rw [←hw4];exact ((Below.refl _ _).alloc (Nat.le_refl _) _).alloc (by simp) _
  have k4:=rows2 w3 (.cells #[.int .i64 c,.int .i64 0] 27) (.cells #[.int .i64 0,.nilIface] 95)
  rw [hw4] at k4
  have hs4:w4.heap.size=w3.heap.size+1+1:=by rw [←hw4];simp
  have b4:=b3.trans (g4.mono b3.size)
  have r4:=(g4.block _ l3).trans r3
  have hg4:w4.cell? ⟨0,0,none⟩=some (.iface 173 (.agg #[.pointer (some ⟨9,63,none⟩)])):=zdl b4 hgl hg
  have HS4:Hid (Below w.heap.size w w4∧w4.heap[w.heap.size]?=some (.cells #[.int .i64 0,.int .i64 0] 27 (0,0))∧w4.heap[w3.heap.size]?=some (.cells #[.int .i64 c,.int .i64 0] 27 (0,0))∧w.heap.size<w3.heap.size∧w3.heap.size+1<w4.heap.size):=⟨b4,r4,k4.1,l3,by omega⟩
  have K42:Hid (w4.heap[w3.heap.size+1]?=some (.cells #[.int .i64 0,.nilIface] 95 (0,0))):=k4.2
  clear g4 k4 b4 r4 r3 b3 l3 hs4 l13
  go_wp2_with fail
  try rw [hw4]
  refine (as_at_at i _ _ (w3.heap.size+1) _ _ K42.out hg4).mono ?_
  rintro e w5 ⟨rfl,g5,ce5⟩
  have g5':Below (w3.heap.size+1) w4 w5:=g5
  have r5:=(g5'.block _ (by have:=HS4.out.2.2.2.1;omega)).trans HS4.out.2.1
  have k5:=(g5'.block _ (by omega)).trans HS4.out.2.2.1
  have b5:Below w.heap.size w w5:=HS4.out.1.trans (g5'.mono (by have:=HS4.out.2.2.2.1;omega))
  have hlt3:w.heap.size<w3.heap.size:=HS4.out.2.2.2.1
  have hne:w.heap.size≠w3.heap.size:=by have:=HS4.out.2.2.2.1;omega
  have hne':w3.heap.size≠w.heap.size:=fun h=>hne h.symm
  clear g5 g5' HS4 K42 hg4 ce
  have e0:w5.cell? ⟨w3.heap.size,0,none⟩=some (.int .i64 c):=(cell_of_row _ _ _ _ _ _ k5).trans rfl
  have e1:w5.cell? ⟨w3.heap.size,1,none⟩=some (.int .i64 0):=(cell_of_row _ _ _ _ _ _ k5).trans rfl
  have e2:w5.frozen? ⟨w3.heap.size,1,none⟩=false:=by simp [World.frozen?,k5]
  obtain ⟨w6,hw6⟩:∃w6,w5.setCell ⟨w3.heap.size,1,none⟩ (.int .i64 i)=w6:=⟨_,rfl⟩
  have k6:w6.heap[w3.heap.size]?=some (.cells #[.int .i64 c,.int .i64 i] 27 (0,0)):=by rw [←hw6];exact zcn k5 1 _
  have r6:w6.heap[w.heap.size]?=some (.cells #[.int .i64 0,.int .i64 0] 27 (0,0)):=by rw [←hw6];exact zbm r5 _ _ hne' _
  have b6:Below w.heap.size w w6:=by rw [←hw6];exact b5.setCell (p:=⟨w3.heap.size,1,none⟩) (Nat.le_of_lt hlt3) _
  have y0:w6.cell? ⟨w3.heap.size,0,none⟩=some (.int .i64 c):=(cell_of_row _ _ _ _ _ _ k6).trans rfl
  have y1:w6.cell? ⟨w3.heap.size,1,none⟩=some (.int .i64 i):=(cell_of_row _ _ _ _ _ _ k6).trans rfl
  obtain ⟨f0,f1,f2,f3,f4,f5,f6,f7,f8⟩:=HFin.out _ c i b6 r6
  clear k5 k6 r5 r6 b5 b6 e0 hlt3
  go_upto_region 9 with fail
  try rw [hw6]
  go_wp2
  exact bodyPost_ret (v:=.agg #[.int .i64 c,.int .i64 i]) (by simp [results,Tryz.results16,go_sem,f1,f2]) rfl ⟨rfl,f0⟩
theorem zia(f:ArmT→Int):∀(xs:List ArmT){i:Nat},(zbc f i xs).1=0→zbc f i xs=(0,0)
 | [],i,_=>rfl
 | x::xs,i,h=>by
  unfold zbc at h ⊢
  by_cases hx:f x=0
  ·rw [if_pos hx] at h ⊢;exact zia f xs h
  ·rw [if_neg hx] at h;exact absurd h hx
theorem check_i(ct cl:Int→List ArgT→Bool)(m:Nat)(a:Option Addr)(cap:Nat)(xs:List ArmT)(w:World)(hv:ArmsIs w 0 m (.slice a xs.length cap) xs)(hcap:xs.length≤cap)(hw:xs.length+(xs.map (wA m)).sum≤1048576)
  (hg:w.cell? ⟨0,0,none⟩=some (.iface 173 (.agg #[.pointer (some ⟨9,63,none⟩)])))
  (HC:∀W,Below w.heap.size w W→∀op v xs,ArgsIs W 0 v xs→Calls Tryz.prog 185 #[.agg #[.int .i64 op,v]] W fun e w'=>e=.returned (.bool (ct op xs))∧Below W.heap.size W w')
  (HL:∀W,Below w.heap.size w W→∀op v xs,ArgsIs W 0 v xs→Calls Tryz.prog 156 #[.agg #[.int .i64 op,v]] W fun e w'=>e=.returned (.bool (cl op xs))∧Below W.heap.size W w') :
  Calls Tryz.prog 16 #[.slice a xs.length cap] w fun e w'=>e=.returned (.agg #[.int .i64 (zbr ct cl m xs).1,.int .i64 (zbr ct cl m xs).2])∧Below w.heap.size w w':=by
 have hP:(xs.flatMap (pArm m true)).length≤4194304:=by
  have h1:=szP_len (xs.flatMap (pArm m true))
  rw [szP_lenT'] at h1
  have h2:=zhn m xs
  omega
 refine check_run a xs.length cap (errT ct cl m xs) (zbr ct cl m xs) w hg ?_ (fun W g=>wrong_i ct cl m a cap xs W (zbi (Keeps.of_below g 0) (Nat.le_refl _) (Nat.le_refl _) hv) hcap (by omega) hP (fun W' g'=>HC W' (g.trans (g'.mono g.size))) (fun W' g'=>HL W' (g.trans (g'.mono g.size))))
 unfold errT zbr
 by_cases hm:zfl m xs=true
 ·rw [if_pos hm,if_pos hm];exact .inr (.inl ⟨1,rfl,rfl⟩)
 ·rw [if_neg hm,if_neg hm]
  obtain ⟨⟨c,i⟩,hF⟩:∃r:Int×Int,zbc (fun x=>zaa ct cl (pArm m true x)) 0 xs=r:=⟨_,rfl⟩
  rw [hF]
  by_cases hc:c=0
  ·have h0:zbc (fun x=>zaa ct cl (pArm m true x)) 0 xs=(0,0):=zia _ _ (by rw [hF];exact hc)
   rw [h0] at hF
   rw [←hF];exact .inl ⟨rfl,rfl⟩
  ·exact .inr (.inr ⟨i,c,if_neg hc,rfl⟩)
end Go.Proofs.YtllmabgollkigaaGreatDoor
