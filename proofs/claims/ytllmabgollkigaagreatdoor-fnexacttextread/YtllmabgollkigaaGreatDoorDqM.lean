/- Walks of DevText, the program's and the specification's. -/
import Derived.Test.YtllmabgollkigaaGreatDoorDmM
import Derived.Test.YtllmabgollkigaaGreatDoorDaM
import Derived.Deep.Cut
import Derived.Deep.RegionWith
set_option maxHeartbeats 1000000
namespace Go.Proofs.YtllmabgollkigaaGreatDoor
open Go.RowKit
open Go.Lib (decDigits itoa VarReads)
set_option linter.unusedVariables false
def wd(n:Int):ByteArray:=if n=0 then ⟨#[110,97,110]⟩ else if n=1 then ⟨#[105,110,102]⟩ else if n=2 then ⟨#[45,105,110,102]⟩ else ⟨#[45,48,46,48]⟩
def WT(w:World):Prop:=∀i:Nat,i<4→w.cell? ⟨1,i,none⟩=some (.string (wd i))
theorem WT.lt{w:World}(h:WT w):1<w.heap.size:=World.block_lt_of_cell? _ _ (h 0 (by omega))
theorem WT.later{w w':World}(h:WT w)(g:Below w.heap.size w w'):WT w':=fun i hi=>(g.cell (p:=⟨1,i,none⟩) h.lt).trans (h i hi)
theorem g0_named : Tryz.prog.globalNamed "loop.example/stile/impl.devWords" = some 1 := by kernel_rfl
theorem g0_type : (Tryz.prog.globals[1]?).map (·.type) = some 231 := by kernel_rfl
theorem c4(i:Nat)(h:i<4):i=0∨i=1∨i=2∨i=3:=by omega
theorem wt_of_reads {W : World} (h : VarReads Tryz.prog W "loop.example/stile/impl.devWords" Rows.laid_loop_example_stile_impl_devWords) : WT W := by
 obtain ⟨g,t,cs,fuel,p,hg,ht,hv,hd⟩:=h
 obtain rfl:=Option.some.inj (g0_named.symm.trans hg)
 obtain rfl:=Option.some.inj (g0_type.symm.trans ht)
 intro i hi
 unfold Rows.laid_loop_example_stile_impl_devWords at hd
 obtain ⟨f',d,q,hdi,hr⟩:=Lib.array_elem Tryz.underlying231 hd i hi
 rw [cells9] at hr
 obtain ⟨s,hc,hx,_⟩:=DataW.trod_string Tryz.underlying9 hr
 have hcell:W.cell? ⟨1,i,none⟩=some (.string s):=by
  rw [World.var?_cell hg hv]
  have := congrArg (·[0]?) hc
  simpa [List.getElem?_take,List.getElem?_drop] using this
 rw [hcell]
 rcases c4 i hi with rfl|rfl|rfl|rfl
 all_goals
  obtain rfl:=Option.some.inj hdi
  simp only [Prod.mk.injEq,DataW.lit.injEq,Lit.string.injEq] at hx
  rw [zcs hx.1.symm]
  rfl
def txt(k n p:Int):ByteArray :=
 if okA k n p then (if k=12 then tx (decL n p.toNat) else if k=13 then wd n else kL k++tx (itoa n)) else ⟨#[]⟩
structure Tabs (w:World):Prop where
 k:KT w
 p:PT w
 w:WT w
theorem Tabs.later{w w':World}(h:Tabs w)(g:Below w.heap.size w w'):Tabs w':=⟨h.k.later g,h.p.later g,h.w.later g⟩
theorem Tabs.alloc{w:World}(h:Tabs w)(o:Obj):Tabs (w.alloc o):=h.later ((Below.refl _ _).alloc (Nat.le_refl _) _)
theorem zif{n p:Int}(h:okD n p=true):-999999999≤n∧n≤999999999∧1≤p∧p≤6:=by
 simp [okD] at h;omega
theorem ok_bd{k n p:Int}(h:okA k n p=true)(h12:k≠12):-32768≤n∧n≤32767∧p=0:=by
 unfold okA at h
 rw [if_neg h12] at h
 by_cases h11:k=11
 ·rw [if_pos h11] at h;simp at h;omega
 rw [if_neg h11] at h
 by_cases h13:k=13
 ·rw [if_pos h13] at h;simp at h;omega
 rw [if_neg h13] at h
 simp at h
 by_cases hk:1≤k∧k≤10
 ·have hs:kS k≤64:=by
   rcases zje k with h|rfl|rfl|rfl|rfl|rfl|rfl|rfl|rfl|rfl|rfl
   ·omega
   all_goals decide
  omega
 ·rw [kS_out k (by omega)] at h;omega
theorem zfh{n p:Int}(h:okA 13 n p=true):0≤n∧n≤3:=by simp [okA] at h;omega
theorem zgw(n:Int)(h0:-1000000000000≤n)(h1:n≤1000000000000):(tx (itoa n)).size≤21:=by
 rw [zam];exact Lib.itoa_length_le n (by omega) (by omega)
theorem zgg(k:Int):(kL k).size≤1:=by
 rcases zje k with h|rfl|rfl|rfl|rfl|rfl|rfl|rfl|rfl|rfl|rfl
 ·rw [kL_out k h];decide
 all_goals decide
theorem text_no(k n p:Int)(w:World)(hT:Tabs w)(ho:okA k n p=false) :
  Calls Tryz.prog 141 #[.agg #[.int .i64 k,.int .i64 n,.int .i64 p]] w fun e w'=>e=.returned (.string ⟨#[]⟩)∧Below w.heap.size w w':=by
 have HK:Hid (∀W,KT W→Calls Tryz.prog 176 #[.agg #[.int .i64 k,.int .i64 n,.int .i64 p]] W fun e w'=>e=.returned (.bool false)∧Below W.heap.size W w'):=fun W hW=>by have:=zdr k n p W hW;rwa [ho] at this
 clear ho
 go_enter Tryz.func141,Tryz.ntmps141
 go_wp2_with fail
 refine (HK.out _ (hT.k.alloc _)).mono ?_
 rintro e w1 ⟨rfl,g1⟩
 have b1:Below w.heap.size w w1:=((Below.refl _ _).alloc (Nat.le_refl _) _).trans (g1.mono (by simp))
 clear g1
 go_wp2
 go_ret
 exact ⟨rfl,b1⟩
theorem text_dec(n:Int)(p:Nat)(w:World)(hT:Tabs w)(ho:okA 12 n p=true) :
  Calls Tryz.prog 141 #[.agg #[.int .i64 12,.int .i64 n,.int .i64 p]] w fun e w'=>e=.returned (.string (tx (decL n p)))∧Below w.heap.size w w':=by
 have HK:Hid (∀W,KT W→Calls Tryz.prog 176 #[.agg #[.int .i64 12,.int .i64 n,.int .i64 p]] W fun e w'=>e=.returned (.bool true)∧Below W.heap.size W w'):=fun W hW=>by have:=zdr 12 n p W hW;rwa [ho] at this
 rw [zem] at ho
 have bd:=zif ho
 have HD:Hid (∀W,PT W→Calls Tryz.prog 177 #[.agg #[.int .i64 12,.int .i64 n,.int .i64 p]] W fun e w'=>e=.returned (.string (tx (decL n p)))∧Below W.heap.size W w'):=fun W hW=>dectext_any 12 n p (by omega) (by omega) (by omega) W hW
 obtain ⟨S,HS⟩:∃S,Hid (S=tx (decL n p)):=⟨_,Eq.refl (tx (decL n p))⟩
 rw [←HS.out] at HD ⊢
 clear HS ho
 go_enter Tryz.func141,Tryz.ntmps141
 go_wp2_with fail
 refine (HK.out _ (hT.k.alloc _)).mono ?_
 rintro e w1 ⟨rfl,g1⟩
 have c0:w1.cell? ⟨w.heap.size,0,none⟩=some (.int .i64 12):=cell_later g1 (by simp)
 have c1:w1.cell? ⟨w.heap.size,1,none⟩=some (.int .i64 n):=cell_later g1 (by simp)
 have c2:w1.cell? ⟨w.heap.size,2,none⟩=some (.int .i64 p):=cell_later g1 (by simp)
 have b1:Below w.heap.size w w1:=((Below.refl _ _).alloc (Nat.le_refl _) _).trans (g1.mono (by simp))
 clear g1 HK
 go_wp2_with fail
 refine (HD.out _ (hT.p.later b1)).mono ?_
 rintro e w2 ⟨rfl,g2⟩
 have b2:Below w.heap.size w w2:=b1.trans (g2.mono b1.size)
 clear g2
 go_wp2
 go_ret
 exact ⟨rfl,b2⟩
theorem text_word(i:Nat)(p:Int)(w:World)(hT:Tabs w)(ho:okA 13 i p=true) :
  Calls Tryz.prog 141 #[.agg #[.int .i64 13,.int .i64 i,.int .i64 p]] w fun e w'=>e=.returned (.string (wd i))∧Below w.heap.size w w':=by
 have HK:Hid (∀W,KT W→Calls Tryz.prog 176 #[.agg #[.int .i64 13,.int .i64 i,.int .i64 p]] W fun e w'=>e=.returned (.bool true)∧Below W.heap.size W w'):=fun W hW=>by have:=zdr 13 i p W hW;rwa [ho] at this
 have bd:=zfh ho
 obtain ⟨S,HS⟩:∃S,Hid (S=wd i):=⟨_,Eq.refl (wd i)⟩
 have hw0:=hT.w i (by omega)
 rw [←HS.out] at hw0 ⊢
 clear HS ho
 have i4:(i:Int)<4:=by omega
 go_enter Tryz.func141,Tryz.ntmps141
 go_wp2_with fail
 refine (HK.out _ (hT.k.alloc _)).mono ?_
 rintro e w1 ⟨rfl,g1⟩
 have c0:w1.cell? ⟨w.heap.size,0,none⟩=some (.int .i64 13):=cell_later g1 (by simp)
 have c1:w1.cell? ⟨w.heap.size,1,none⟩=some (.int .i64 i):=cell_later g1 (by simp)
 have b1:Below w.heap.size w w1:=((Below.refl _ _).alloc (Nat.le_refl _) _).trans (g1.mono (by simp))
 have hw1:w1.cell? ⟨1,i,none⟩=some (.string S):=(b1.cell (p:=⟨1,i,none⟩) hT.w.lt).trans hw0
 clear g1 HK
 go_wp2
 go_ret
 exact ⟨rfl,b1⟩
end Go.Proofs.YtllmabgollkigaaGreatDoor
namespace Go.Proofs.YtllmabgollkigaaGreatDoor
open Go.RowKit
open Go.Lib (decDigits itoa VarReads)
set_option linter.unusedVariables false
theorem tx_def(l:List UInt8):(⟨l.toArray⟩:ByteArray)=tx l:=rfl
theorem itoa_t(n:Int)(h0:-9223372036854775808≤n)(h1:n≤9223372036854775807)(w:World)(hP:PT w) :
  Calls Tryz.prog 179 #[.int .i64 n] w fun e w'=>e=.returned (.string (tx (itoa n)))∧Below w.heap.size w w':=by
 have h:=itoa_r n h0 h1 w hP
 rw [tx_def] at h
 exact h
theorem text_dev(k n p:Int)(w:World)(hT:Tabs w)(ho:okA k n p=true)(k2:k≠12)(k3:k≠13) :
  Calls Tryz.prog 141 #[.agg #[.int .i64 k,.int .i64 n,.int .i64 p]] w fun e w'=>e=.returned (.string (kL k++tx (itoa n)))∧Below w.heap.size w w':=by
 have HK:Hid (∀W,KT W→Calls Tryz.prog 176 #[.agg #[.int .i64 k,.int .i64 n,.int .i64 p]] W fun e w'=>e=.returned (.bool true)∧Below W.heap.size W w'):=fun W hW=>by have:=zdr k n p W hW;rwa [ho] at this
 have bn0:=(ok_bd ho k2).1
 have bn1:=(ok_bd ho k2).2.1
 have s1:=zgg k
 have s2:=zgw n (by omega) (by omega)
 have HL:Hid (∀W,KT W→Calls Tryz.prog 178 #[.int .i64 k] W fun e w'=>e=.returned (.string (kL k))∧Below W.heap.size W w'):=fun W hW=>impl_letter k W hW
 have HI:Hid (∀W,PT W→Calls Tryz.prog 179 #[.int .i64 n] W fun e w'=>e=.returned (.string (tx (itoa n)))∧Below W.heap.size W w'):=fun W hW=>itoa_t n (by omega) (by omega) W hW
 obtain ⟨S,HS⟩:∃S,Hid (S=tx (itoa n)):=⟨_,Eq.refl (tx (itoa n))⟩
 obtain ⟨K,HKK⟩:∃K,Hid (K=kL k):=⟨_,Eq.refl (kL k)⟩
 rw [←HS.out] at HI s2
 rw [←HKK.out] at HL s1
 rw [←HS.out,←HKK.out]
 clear HS HKK ho bn0 bn1
 have e2:(k==12)=false:=by simp [k2]
 have e3:(k==13)=false:=by simp [k3]
 go_enter Tryz.func141,Tryz.ntmps141
 go_wp2_with fail
 refine (HK.out _ (hT.k.alloc _)).mono ?_
 rintro e w1 ⟨rfl,g1⟩
 have c0:w1.cell? ⟨w.heap.size,0,none⟩=some (.int .i64 k):=cell_later g1 (by simp)
 have c1:w1.cell? ⟨w.heap.size,1,none⟩=some (.int .i64 n):=cell_later g1 (by simp)
 have b1:Below w.heap.size w w1:=((Below.refl _ _).alloc (Nat.le_refl _) _).trans (g1.mono (by simp))
 have T1:Tabs w1:=hT.later b1
 clear g1 HK
 go_upto_region 8 with fail
 have k0:=cell_regrown c0
 have k1:=cell_regrown c1
 have cL:∀d os,Calls Tryz.prog 178 #[.int .i64 k] (Sort.grow (redrawn w1 d) os) fun e w''=>e=.returned (.string K)∧∃p:Regrown,w''=Sort.grow (redrawn w1 p.d) p.os:=fun d os=>Calls.regrown_of (HL.out _ (T1.k.later (below_regrown w1 d os)))
 have cI:∀d os,Calls Tryz.prog 179 #[.int .i64 n] (Sort.grow (redrawn w1 d) os) fun e w''=>e=.returned (.string S)∧∃p:Regrown,w''=Sort.grow (redrawn w1 p.d) p.os:=fun d os=>Calls.regrown_of (HI.out _ (T1.p.later (below_regrown w1 d os)))
 have hz:¬ 9223372036854775807<K.size+S.size:=by omega
 clear hT T1 HL HI
 refine wp_region_quiet_below (by kernel_rfl) (by kernel_rfl) ?_
 repeat (go_big_quiet_step (first|exact cL _ _|exact cI _ _))
 refine wpQuiet_nil ?_
 intro _ hw'
 obtain ⟨⟨dq,osq⟩,hw''⟩:=hw'
 subst hw''
 go_wp2
 go_ret
 exact ⟨rfl,b1.trans ((below_regrown w1 dq osq).mono b1.size)⟩
theorem impl_text(k n p:Int)(w:World)(hT:Tabs w) :
  Calls Tryz.prog 141 #[.agg #[.int .i64 k,.int .i64 n,.int .i64 p]] w fun e w'=>e=.returned (.string (txt k n p))∧Below w.heap.size w w':=by
 unfold txt
 cases ho:okA k n p with
 | false=>exact text_no k n p w hT ho
 | true =>
  rw [if_pos rfl]
  by_cases k2:k=12
  ·subst k2
   rw [if_pos rfl]
   have bd:=zif (by rw [←zem];exact ho)
   obtain ⟨P,rfl⟩:=Int.eq_ofNat_of_zero_le (by omega:0≤p)
   exact text_dec n P w hT ho
  rw [if_neg k2]
  by_cases k3:k=13
  ·subst k3
   rw [if_pos rfl]
   have bd:=zfh ho
   obtain ⟨i,rfl⟩:=Int.eq_ofNat_of_zero_le bd.1
   exact text_word i p w hT ho
  rw [if_neg k3]
  exact text_dev k n p w hT ho k2 k3
end Go.Proofs.YtllmabgollkigaaGreatDoor
namespace Go.Proofs.YtllmabgollkigaaGreatDoor
open Go.RowKit
open Go.Lib (decDigits itoa VarReads)
set_option linter.unusedVariables false
theorem stext_no(k n p:Int)(w:World)(ho:okA k n p=false) :
  Calls Tryz.prog 109 #[.agg #[.int .i64 k,.int .i64 n,.int .i64 p]] w fun e w'=>e=.returned (.string ⟨#[]⟩)∧Below w.heap.size w w':=by
 have HK:Hid (∀W,Calls Tryz.prog 143 #[.agg #[.int .i64 k,.int .i64 n,.int .i64 p]] W fun e w'=>e=.returned (.bool false)∧Below W.heap.size W w'):=fun W=>by have:=zck k n p W;rwa [ho] at this
 clear ho
 go_enter Tryz.func109,Tryz.ntmps109
 go_wp2_with fail
 refine (HK.out _).mono ?_
 rintro e w1 ⟨rfl,g1⟩
 have b1:Below w.heap.size w w1:=((Below.refl _ _).alloc (Nat.le_refl _) _).trans (g1.mono (by simp))
 clear g1
 go_wp2
 go_ret
 exact ⟨rfl,b1⟩
theorem kL11(s:ByteArray):kL 11++s=s:=by
 have e:kL 11=⟨#[]⟩:=rfl
 rw [e]
 apply ByteArray.ext
 simp
theorem stext_int(n p:Int)(w:World)(ho:okA 11 n p=true) :
  Calls Tryz.prog 109 #[.agg #[.int .i64 11,.int .i64 n,.int .i64 p]] w fun e w'=>e=.returned (.string (kL 11++tx (itoa n)))∧Below w.heap.size w w':=by
 rw [kL11]
 have HK:Hid (∀W,Calls Tryz.prog 143 #[.agg #[.int .i64 11,.int .i64 n,.int .i64 p]] W fun e w'=>e=.returned (.bool true)∧Below W.heap.size W w'):=fun W=>by have:=zck 11 n p W;rwa [ho] at this
 have bn0:=(ok_bd ho (by decide)).1
 have bn1:=(ok_bd ho (by decide)).2.1
 have HI:Hid (∀W,Calls Tryz.prog 144 #[.int .i64 n] W fun e w'=>e=.returned (.string (tx (itoa n)))∧Below W.heap.size W w'):=fun W=>dec_any n (by omega) (by omega) W
 obtain ⟨S,HS⟩:∃S,Hid (S=tx (itoa n)):=⟨_,Eq.refl (tx (itoa n))⟩
 rw [←HS.out] at HI ⊢
 clear HS ho bn0 bn1
 go_enter Tryz.func109,Tryz.ntmps109
 go_wp2_with fail
 refine (HK.out _).mono ?_
 rintro e w1 ⟨rfl,g1⟩
 have c0:w1.cell? ⟨w.heap.size,0,none⟩=some (.int .i64 11):=cell_later g1 (by simp)
 have c1:w1.cell? ⟨w.heap.size,1,none⟩=some (.int .i64 n):=cell_later g1 (by simp)
 have b1:Below w.heap.size w w1:=((Below.refl _ _).alloc (Nat.le_refl _) _).trans (g1.mono (by simp))
 clear g1 HK
 go_wp2_with fail
 refine (HI.out _).mono ?_
 rintro e w2 ⟨rfl,g2⟩
 have b2:Below w.heap.size w w2:=b1.trans (g2.mono b1.size)
 clear g2
 go_wp2
 go_ret
 exact ⟨rfl,b2⟩
theorem stext_dec(n:Int)(p:Nat)(w:World)(ho:okA 12 n p=true) :
  Calls Tryz.prog 109 #[.agg #[.int .i64 12,.int .i64 n,.int .i64 p]] w fun e w'=>e=.returned (.string (tx (decL n p)))∧Below w.heap.size w w':=by
 have HK:Hid (∀W,Calls Tryz.prog 143 #[.agg #[.int .i64 12,.int .i64 n,.int .i64 p]] W fun e w'=>e=.returned (.bool true)∧Below W.heap.size W w'):=fun W=>by have:=zck 12 n p W;rwa [ho] at this
 rw [zem] at ho
 have bd:=zif ho
 have HD:Hid (∀W,Calls Tryz.prog 145 #[.int .i64 n,.int .i64 p] W fun e w'=>e=.returned (.string (tx (decL n p)))∧Below W.heap.size W w'):=fun W=>l2dec_any n p (by omega) (by omega) (by omega) W
 obtain ⟨S,HS⟩:∃S,Hid (S=tx (decL n p)):=⟨_,Eq.refl (tx (decL n p))⟩
 rw [←HS.out] at HD ⊢
 clear HS ho bd
 go_enter Tryz.func109,Tryz.ntmps109
 go_wp2_with fail
 refine (HK.out _).mono ?_
 rintro e w1 ⟨rfl,g1⟩
 have c0:w1.cell? ⟨w.heap.size,0,none⟩=some (.int .i64 12):=cell_later g1 (by simp)
 have c1:w1.cell? ⟨w.heap.size,1,none⟩=some (.int .i64 n):=cell_later g1 (by simp)
 have c2:w1.cell? ⟨w.heap.size,2,none⟩=some (.int .i64 p):=cell_later g1 (by simp)
 have b1:Below w.heap.size w w1:=((Below.refl _ _).alloc (Nat.le_refl _) _).trans (g1.mono (by simp))
 clear g1 HK
 go_wp2_with fail
 refine (HD.out _).mono ?_
 rintro e w2 ⟨rfl,g2⟩
 have b2:Below w.heap.size w w2:=b1.trans (g2.mono b1.size)
 clear g2
 go_wp2
 go_ret
 exact ⟨rfl,b2⟩
theorem words_r(w:World) :
  Calls Tryz.prog 146 #[] w fun e w'=>e=.returned (.slice (some ⟨w.heap.size,0,none⟩) 4 4)∧w'=w.alloc (.cells #[.string ⟨#[110,97,110]⟩,.string ⟨#[105,110,102]⟩,.string ⟨#[45,105,110,102]⟩,.string ⟨#[45,48,46,48]⟩] 9):=by
 go_enter Tryz.func146,Tryz.ntmps146
 go_wp2
 go_ret
 exact ⟨rfl,rfl⟩
theorem words_at(w:World)(i:Nat)(hi:i<4):(w.alloc (.cells #[.string ⟨#[110,97,110]⟩,.string ⟨#[105,110,102]⟩,.string ⟨#[45,105,110,102]⟩,.string ⟨#[45,48,46,48]⟩] 9)).cell? ⟨w.heap.size,i,none⟩=some (.string (wd i)):=by
 rw [World.cell?_alloc_at _ _ _ _ rfl]
 rcases c4 i hi with rfl|rfl|rfl|rfl<;>rfl
theorem zeo(w:World):Calls Tryz.prog 146 #[] w fun e w'=>e=.returned (.slice (some ⟨w.heap.size,0,none⟩) 4 4)∧Below w.heap.size w w'∧∀i:Nat,i<4→w'.cell? ⟨w.heap.size,i,none⟩=some (.string (wd i)) :=
 (words_r w).mono fun e w' ⟨he,hw⟩=>⟨he,by rw [hw];exact (Below.refl _ _).alloc (Nat.le_refl _) _,fun i hi=>by rw [hw];exact words_at w i hi⟩
theorem stext_word(i:Nat)(p:Int)(w:World)(ho:okA 13 i p=true) :
  Calls Tryz.prog 109 #[.agg #[.int .i64 13,.int .i64 i,.int .i64 p]] w fun e w'=>e=.returned (.string (wd i))∧Below w.heap.size w w':=by
 have HK:Hid (∀W,Calls Tryz.prog 143 #[.agg #[.int .i64 13,.int .i64 i,.int .i64 p]] W fun e w'=>e=.returned (.bool true)∧Below W.heap.size W w'):=fun W=>by have:=zck 13 i p W;rwa [ho] at this
 have bd:=zfh ho
 obtain ⟨S,HS⟩:∃S,Hid (S=wd i):=⟨_,Eq.refl (wd i)⟩
 have HW:Hid (∀W,Calls Tryz.prog 146 #[] W fun e w'=>e=.returned (.slice (some ⟨W.heap.size,0,none⟩) 4 4)∧Below W.heap.size W w'∧w'.cell? ⟨W.heap.size,i,none⟩=some (.string S)):=fun W=>(zeo W).mono fun e w' ⟨h1,h2,h3⟩=>⟨h1,h2,by rw [HS.out];exact h3 i (by omega)⟩
 rw [←HS.out]
 clear HS ho
 have i4:(i:Int)<4:=by omega
 clear bd
 go_enter Tryz.func109,Tryz.ntmps109
 go_wp2_with fail
 refine (HK.out _).mono ?_
 rintro e w1 ⟨rfl,g1⟩
 have c0:w1.cell? ⟨w.heap.size,0,none⟩=some (.int .i64 13):=cell_later g1 (by simp)
 have c1:w1.cell? ⟨w.heap.size,1,none⟩=some (.int .i64 i):=cell_later g1 (by simp)
 have b1:Below w.heap.size w w1:=((Below.refl _ _).alloc (Nat.le_refl _) _).trans (g1.mono (by simp))
 clear g1 HK
 go_wp2
 go_region_with (go_at_call 146;refine (HW.out _).mono ?_;rintro e w2 ⟨rfl,g2,hx⟩;have d1:w2.cell? ⟨w.heap.size,1,none⟩=some (.int .i64 i):=(by first|exact cell_later g2 c1);have hx':w2.cell? ⟨w1.heap.size,i,none⟩=some (.string S):=hx)
 all_goals
  have b2:Below w.heap.size w w2:=(by first|exact b1.trans (g2.mono b1.size)|exact b1.drew.trans (g2.mono b1.size)|exact b1.drew.drew.trans (g2.mono b1.size))
  clear g2 b1 HW
  go_wp2
  go_ret
  exact ⟨rfl,by first|exact b2|exact b2.drew⟩
theorem stext_dev(k n p:Int)(w:World)(ho:okA k n p=true)(k1:k≠11)(k2:k≠12)(k3:k≠13) :
  Calls Tryz.prog 109 #[.agg #[.int .i64 k,.int .i64 n,.int .i64 p]] w fun e w'=>e=.returned (.string (kL k++tx (itoa n)))∧Below w.heap.size w w':=by
 have HK:Hid (∀W,Calls Tryz.prog 143 #[.agg #[.int .i64 k,.int .i64 n,.int .i64 p]] W fun e w'=>e=.returned (.bool true)∧Below W.heap.size W w'):=fun W=>by have:=zck k n p W;rwa [ho] at this
 have bn0:=(ok_bd ho k2).1
 have bn1:=(ok_bd ho k2).2.1
 have s1:=zgg k
 have s2:=zgw n (by omega) (by omega)
 have HL:Hid (∀W,Calls Tryz.prog 147 #[.int .i64 k] W fun e w'=>e=.returned (.string (kL k))∧Below W.heap.size W w'):=fun W=>(zdj k W).mono fun e w' ⟨h1,h2⟩=>⟨h1,by rw [h2];exact Below.refl _ _⟩
 have HI:Hid (∀W,Calls Tryz.prog 144 #[.int .i64 n] W fun e w'=>e=.returned (.string (tx (itoa n)))∧Below W.heap.size W w'):=fun W=>dec_any n (by omega) (by omega) W
 obtain ⟨S,HS⟩:∃S,Hid (S=tx (itoa n)):=⟨_,Eq.refl (tx (itoa n))⟩
 obtain ⟨K,HKK⟩:∃K,Hid (K=kL k):=⟨_,Eq.refl (kL k)⟩
 rw [←HS.out] at HI s2
 rw [←HKK.out] at HL s1
 rw [←HS.out,←HKK.out]
 clear HS HKK ho bn0 bn1
 have e1:(k==11)=false:=by simp [k1]
 have e2:(k==12)=false:=by simp [k2]
 have e3:(k==13)=false:=by simp [k3]
 go_enter Tryz.func109,Tryz.ntmps109
 go_wp2_with fail
 refine (HK.out _).mono ?_
 rintro e w1 ⟨rfl,g1⟩
 have c0:w1.cell? ⟨w.heap.size,0,none⟩=some (.int .i64 k):=cell_later g1 (by simp)
 have c1:w1.cell? ⟨w.heap.size,1,none⟩=some (.int .i64 n):=cell_later g1 (by simp)
 have b1:Below w.heap.size w w1:=((Below.refl _ _).alloc (Nat.le_refl _) _).trans (g1.mono (by simp))
 clear g1 HK
 go_upto_region 10 with fail
 have k0:=cell_regrown c0
 have k1:=cell_regrown c1
 have cL:∀d os,Calls Tryz.prog 147 #[.int .i64 k] (Sort.grow (redrawn w1 d) os) fun e w''=>e=.returned (.string K)∧∃p:Regrown,w''=Sort.grow (redrawn w1 p.d) p.os:=fun d os=>Calls.regrown_of (HL.out _)
 have cI:∀d os,Calls Tryz.prog 144 #[.int .i64 n] (Sort.grow (redrawn w1 d) os) fun e w''=>e=.returned (.string S)∧∃p:Regrown,w''=Sort.grow (redrawn w1 p.d) p.os:=fun d os=>Calls.regrown_of (HI.out _)
 have hz:¬ 9223372036854775807<K.size+S.size:=by omega
 clear HL HI
 refine wp_region_quiet_below (by kernel_rfl) (by kernel_rfl) ?_
 repeat (go_big_quiet_step (first|exact cL _ _|exact cI _ _))
 refine wpQuiet_nil ?_
 intro _ hw'
 obtain ⟨⟨dq,osq⟩,hw''⟩:=hw'
 subst hw''
 go_wp2
 go_ret
 exact ⟨rfl,b1.trans ((below_regrown w1 dq osq).mono b1.size)⟩
theorem zcd(k n p:Int)(w:World) :
  Calls Tryz.prog 109 #[.agg #[.int .i64 k,.int .i64 n,.int .i64 p]] w fun e w'=>e=.returned (.string (txt k n p))∧Below w.heap.size w w':=by
 unfold txt
 cases ho:okA k n p with
 | false=>exact stext_no k n p w ho
 | true =>
  rw [if_pos rfl]
  by_cases k2:k=12
  ·subst k2
   rw [if_pos rfl]
   have bd:=zif (by rw [←zem];exact ho)
   obtain ⟨P,rfl⟩:=Int.eq_ofNat_of_zero_le (by omega:0≤p)
   exact stext_dec n P w ho
  rw [if_neg k2]
  by_cases k3:k=13
  ·subst k3
   rw [if_pos rfl]
   have bd:=zfh ho
   obtain ⟨i,rfl⟩:=Int.eq_ofNat_of_zero_le bd.1
   exact stext_word i p w ho
  rw [if_neg k3]
  by_cases k1:k=11
  ·subst k1
   exact stext_int n p w ho
  exact stext_dev k n p w ho k1 k2 k3
end Go.Proofs.YtllmabgollkigaaGreatDoor
