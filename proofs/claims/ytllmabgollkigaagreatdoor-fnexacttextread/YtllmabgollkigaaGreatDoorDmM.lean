/- The specification's decimals. -/
import Derived.Test.YtllmabgollkigaaGreatDoorDl
import Derived.Test.YtllmabgollkigaaGreatDoorDaM
import Derived.Lib.ItoaMem
import Derived.Lib.ItoaLen
import Derived.Lib.QuietBelow
import Derived.Laws.IdiomStrings
set_option maxHeartbeats 1000000
namespace Go.Proofs.YtllmabgollkigaaGreatDoor
open Go.RowKit
open Go.Lib (decDigits itoa nDigits)
set_option linter.unusedVariables false
def tx(l:List UInt8):ByteArray:=⟨l.toArray⟩
theorem zct(u:Nat)(h:10≤u):decDigits u=decDigits (u / 10)++[UInt8.ofNat (48+u % 10)]:=by
 rw [decDigits,dif_neg (by omega)]
theorem zam(l:List UInt8):(tx l).size=l.length:=by simp [tx,ByteArray.size]
theorem zbh(a b:List UInt8):tx a++tx b=tx (a++b):=by
 apply ByteArray.ext
 simp [tx]
theorem conv1(wr:World)(y:Int)(d:Nat)(hy:y=d)(hd:d<256) :
  (convert 22 9 (.slice (some ⟨wr.heap.size,0,none⟩) 1 1)).run Tryz.prog (wr.alloc (.cells #[.int .u8 y] 5))=.ok (.string (tx [UInt8.ofNat d])) (wr.alloc (.cells #[.int .u8 y] 5)):=by
 refine run_convert_bytes_back (P:=Tryz.prog) _ 22 9 5 ⟨wr.heap.size,0,none⟩ 1 [UInt8.ofNat d] Tryz.underlying22 Tryz.underlying5 Tryz.underlying9 ?_
 intro j hj
 have e:j=0:=by simp at hj;exact hj
 subst e
 have e2:(UInt8.ofNat d).toNat=d:=by simp;omega
 simp [Addr.add,e2,hy]
set_option maxRecDepth 100000 in
theorem dec_pos(u:Nat)(hu:u≤1000000000000)(w:World) :
  Calls Tryz.prog 144 #[.int .i64 u] w fun e w'=>e=.returned (.string (tx (decDigits u)))∧Below w.heap.size w w':=by
 go_enter Tryz.func144,Tryz.ntmps144
 go_wp2
 go_loopw [0,3] (fun n o wr=>∃(m:Nat)(l:List UInt8),m≤u∧n=.int .i64 m∧o=.string (tx l)∧Hid (decDigits u=decDigits m++l)∧l.length≤100∧Below w.heap.size w wr) (fun n _ _=>(intOf n).toNat)
 case atStart=>exact ⟨u,[],Nat.le_refl _,rfl,rfl,(List.append_nil _).symm,by simp,Below.refl _ _⟩
 case round =>
  obtain ⟨m,l,hm,rfl,rfl,hd,hl,hb⟩:=hrel
  obtain ⟨O,HO⟩:∃O,Hid (O=tx l):=⟨_,rfl⟩
  rw [←HO.out]
  have hO:O.size≤100:=by rw [HO.out];simpa [tx,ByteArray.size] using hl
  by_cases h9:9<m
  ·have cv:=conv1 wr (48+(m:Int) % 10) (48+m % 10) (by omega) (by omega)
   obtain ⟨D,HD⟩:∃D,Hid (D=tx [UInt8.ofNat (48+m % 10)]):=⟨_,rfl⟩
   rw [←HD.out] at cv
   have hD:D.size=1:=by rw [HD.out];rfl
   have hn:decDigits u=decDigits (m / 10)++(UInt8.ofNat (48+m % 10)::l):=by rw [hd.out,zct m (by omega),List.append_assoc];rfl
   have hlen:(UInt8.ofNat (48+m % 10)::l).length≤100:=by
    have h1:=Lib.itoa_length_le (u:Int) (by omega) (by omega)
    rw [Lib.itoa_nonneg,hn,List.length_append] at h1
    omega
   have HN:Hid (decDigits u=decDigits (m / 10)++(UInt8.ofNat (48+m % 10)::l)):=hn
   have HE:Hid (D++O=tx (UInt8.ofNat (48+m % 10)::l)):=by rw [HD.out,HO.out];exact zbh _ _
   clear hn hd HD HO
   go_wp2
   go_roundw
   case rel=>exact ⟨m / 10,UInt8.ofNat (48+m % 10)::l,by omega,by go_num,congrArg Value.string HE.out,HN,hlen,hb.alloc hb.size _⟩
   case measure=>simp [intOf];omega
  ·have cv:=conv1 wr (48+(m:Int)) (48+m) (by omega) (by omega)
   obtain ⟨D,HD⟩:∃D,Hid (D=tx [UInt8.ofNat (48+m)]):=⟨_,rfl⟩
   rw [←HD.out] at cv
   have hD:D.size=1:=by rw [HD.out];rfl
   have HE:Hid (D++O=tx (decDigits u)):=by rw [HD.out,HO.out,hd.out,Lib.decDigits_one (by omega)];exact zbh _ _
   clear hd HD HO
   go_wp2
   go_ret
   exact ⟨congrArg (fun s=>Ending.returned (Value.string s)) HE.out,hb.alloc hb.size _⟩
theorem tx_neg(u:Nat)(h:1≤u):tx (itoa (-(u:Int)))=⟨#[45]⟩++tx (decDigits u):=by
 rw [Lib.itoa_neg u h]
 exact (zbh [45] (decDigits u)).symm
theorem zbw(u:Nat)(hu:u≤1000000000000):(tx (decDigits u)).size≤21∧1≤(tx (decDigits u)).size:=by
 rw [zam]
 have h1:=Lib.itoa_length_le (u:Int) (by omega) (by omega)
 rw [Lib.itoa_nonneg] at h1
 have h2:=Lib.nDigits_pos u
 rw [←Lib.decDigits_length] at h2
 exact ⟨h1,h2⟩
set_option maxRecDepth 100000 in
theorem dec_neg(u:Nat)(h:1≤u)(hu:u≤1000000000000)(w:World) :
  Calls Tryz.prog 144 #[.int .i64 (-(u:Int))] w fun e w'=>e=.returned (.string (tx (itoa (-(u:Int)))))∧Below w.heap.size w w':=by
 rw [tx_neg u h]
 have HC:Hid (∀W:World,Calls Tryz.prog 144 #[.int .i64 u] W fun e w'=>e=.returned (.string (tx (decDigits u)))∧Below W.heap.size W w'):=fun W=>dec_pos u hu W
 have hs:=zbw u hu
 obtain ⟨D,HD⟩:∃D,Hid (D=tx (decDigits u)):=⟨_,rfl⟩
 rw [←HD.out] at HC hs ⊢
 clear HD
 have i1:¬(-(u:Int) < -9223372036854775807):=by omega
 have i2:-(u:Int)<0:=by omega
 go_enter Tryz.func144,Tryz.ntmps144
 go_wp2_with fail
 refine (HC.out _).mono ?_
 rintro e w1 ⟨rfl,g1⟩
 go_wp2
 go_ret
 exact ⟨rfl,g1⟩
theorem dec_any(n:Int)(h0:-1000000000000≤n)(h1:n≤1000000000000)(w:World) :
  Calls Tryz.prog 144 #[.int .i64 n] w fun e w'=>e=.returned (.string (tx (itoa n)))∧Below w.heap.size w w':=by
 by_cases h:0≤n
 ·obtain ⟨u,rfl⟩:=Int.eq_ofNat_of_zero_le h
  rw [Lib.itoa_nonneg]
  exact dec_pos u (by omega) w
 ·obtain ⟨u,hu⟩:=Int.eq_ofNat_of_zero_le (by omega:0≤-n)
  obtain rfl:n=-(u:Int):=by omega
  exact dec_neg u (by omega) (by omega) w
end Go.Proofs.YtllmabgollkigaaGreatDoor
namespace Go.Proofs.YtllmabgollkigaaGreatDoor
open Go.RowKit
open Go.Lib (decDigits itoa nDigits)
set_option linter.unusedVariables false
def pad(u p:Nat):List UInt8:=List.replicate (p+1-(decDigits u).length) 48++decDigits u
def cutp(u p:Nat):List UInt8:=(pad u p).take ((pad u p).length-p)++[46]++(pad u p).drop ((pad u p).length-p)
theorem zjg(u p:Nat):p+1≤(pad u p).length∧(pad u p).length≤p+1+(decDigits u).length:=by simp [pad];omega
theorem zdz(l:List UInt8)(a b:Nat):(tx l).extract a b=tx ((l.drop a).take (b-a)):=ByteArray.extract_mk l a b
theorem dot_tx:(⟨#[46]⟩:ByteArray)=tx [46]:=rfl
theorem cut_eq(u p j L:Nat)(hL:L=(decDigits u).length)(hj:j≤p+1-L)(hp:p<j+L) :
  (tx (List.replicate j 48++decDigits u)).extract 0 (j+L-p)++⟨#[46]⟩++(tx (List.replicate j 48++decDigits u)).extract (j+L-p) (j+L)=tx (cutp u p):=by
 have e:j=p+1-L:=by omega
 have hpad:List.replicate j 48++decDigits u=pad u p:=by rw [e,hL];rfl
 have hlen:(pad u p).length=j+L:=by rw [←hpad,hL];simp
 rw [hpad,dot_tx,zdz,zdz,zbh,zbh]
 unfold cutp
 rw [hlen]
 congr 1
 have e2:List.take (j+L-(j+L-p)) (List.drop (j+L-p) (pad u p))=List.drop (j+L-p) (pad u p):=List.take_of_length_le (by rw [List.length_drop,hlen];exact Nat.le_refl _)
 rw [e2]
 simp
theorem cut_eq2(sg:List UInt8)(u p L:Nat)(hL:L=(decDigits u).length) :
  tx sg++(tx (List.replicate (p+1-L) 48++decDigits u)).extract 0 (p+1-L+L-p)++⟨#[46]⟩++(tx (List.replicate (p+1-L) 48++decDigits u)).extract (p+1-L+L-p) (p+1-L+L)=tx (sg++cutp u p):=by
 rw [←zbh sg,←cut_eq u p (p+1-L) L hL (Nat.le_refl _) (by omega)]
 apply ByteArray.ext
 simp [Array.append_assoc]
set_option maxRecDepth 100000 in
theorem l2dec_pos(u p:Nat)(hu:u≤1000000000)(hp:p≤6)(w:World) :
  Calls Tryz.prog 145 #[.int .i64 u,.int .i64 p] w fun e w'=>e=.returned (.string (tx (cutp u p)))∧Below w.heap.size w w':=by
 have HC:Hid (∀W:World,Calls Tryz.prog 144 #[.int .i64 u] W fun e w'=>e=.returned (.string (tx (decDigits u)))∧Below W.heap.size W w'):=fun W=>dec_pos u (by omega) W
 have hs:=zbw u (by omega)
 rw [zam] at hs
 go_enter Tryz.func145,Tryz.ntmps145
 go_wp2_with fail
 refine (HC.out _).mono ?_
 rintro e w1 ⟨rfl,g1⟩
 clear HC
 go_wp2
 go_loopw [5] (fun s wr=>∃(j:Nat),s=.string (tx (List.replicate j 48++decDigits u))∧j≤p+1-(decDigits u).length∧wr=w1) (fun s _=>match s with|.string b=>100-b.size | _=>0)
 case atStart=>exact ⟨0,rfl,by omega,rfl⟩
 case round =>
  obtain ⟨j,rfl,hj,rfl⟩:=hrel
  obtain ⟨S,HS⟩:∃S,Hid (S=tx (List.replicate j 48++decDigits u)):=⟨tx (List.replicate j 48++decDigits u),Eq.refl (tx (List.replicate j 48++decDigits u))⟩
  have hS:S.size=j+(decDigits u).length:=by rw [HS.out,zam];simp
  rw [←HS.out]
  obtain ⟨L,HL⟩:∃L,Hid (L=(decDigits u).length):=⟨_,rfl⟩
  rw [←HL.out] at hS hj hs
  by_cases hlt:S.size≤p
  ·have HE:Hid (⟨#[48]⟩++S=tx (List.replicate (j+1) 48++decDigits u)):=by
    rw [HS.out];exact zbh [48] _
   go_wp2
   go_roundw
   case rel=>exact ⟨j+1,congrArg Value.string HE.out,by rw [←HL.out];omega,trivial⟩
   case measure=>show 100-(⟨#[48]⟩++S:ByteArray).size<100-S.size;rw [ByteArray.size_append];show 100-(1+S.size)<100-S.size;omega
  ·have hl2:¬((S.size:Int)≤(p:Int)):=by omega
   have i1:(0:Int)≤(S.size:Int)-(p:Int):=by omega
   have i2:(S.size:Int)-(p:Int)≤(S.size:Int):=by omega
   go_wp2
   go_quiet (fail)
   go_wp2
   go_ret
   refine ⟨?_,zgc g1 _⟩
   rw [HS.out]
   exact congrArg (fun s=>Ending.returned (Value.string s)) (cut_eq u p j L HL.out hj (by omega))
def decL(n:Int)(p:Nat):List UInt8:=if n<0 then 45::cutp n.natAbs p else cutp n.toNat p
theorem zeu(u p:Nat)(hu:u≤1000000000)(hp:p≤6):(cutp u p).length≤40:=by
 have h1:=zjg u p
 have h2:=zbw u (by omega)
 rw [zam] at h2
 simp [cutp]
 omega
set_option maxRecDepth 100000 in
theorem l2dec_neg(u p:Nat)(h:1≤u)(hu:u≤1000000000)(hp:p≤6)(w:World) :
  Calls Tryz.prog 145 #[.int .i64 (-(u:Int)),.int .i64 p] w fun e w'=>e=.returned (.string (tx (45::cutp u p)))∧Below w.heap.size w w':=by
 have HC:Hid (∀W:World,Calls Tryz.prog 145 #[.int .i64 u,.int .i64 p] W fun e w'=>e=.returned (.string (tx (cutp u p)))∧Below W.heap.size W w'):=fun W=>l2dec_pos u p hu hp W
 have hs:(tx (cutp u p)).size≤40:=by rw [zam];exact zeu u p hu hp
 have he:tx (45::cutp u p)=⟨#[45]⟩++tx (cutp u p):=(zbh [45] (cutp u p)).symm
 rw [he]
 obtain ⟨D,HD⟩:∃D,Hid (D=tx (cutp u p)):=⟨tx (cutp u p),Eq.refl (tx (cutp u p))⟩
 rw [←HD.out] at HC hs ⊢
 clear HD he
 have i2:-(u:Int)<0:=by omega
 go_enter Tryz.func145,Tryz.ntmps145
 go_wp2_with fail
 refine (HC.out _).mono ?_
 rintro e w1 ⟨rfl,g1⟩
 go_wp2
 go_ret
 exact ⟨rfl,g1⟩
theorem l2dec_any(n:Int)(p:Nat)(h0:-1000000000≤n)(h1:n≤1000000000)(hp:p≤6)(w:World) :
  Calls Tryz.prog 145 #[.int .i64 n,.int .i64 p] w fun e w'=>e=.returned (.string (tx (decL n p)))∧Below w.heap.size w w':=by
 by_cases h:0≤n
 ·obtain ⟨u,rfl⟩:=Int.eq_ofNat_of_zero_le h
  have e:decL (u:Int) p=cutp u p:=by unfold decL;rw [if_neg (by omega)];rfl
  rw [e]
  exact l2dec_pos u p (by omega) hp w
 ·obtain ⟨u,hu⟩:=Int.eq_ofNat_of_zero_le (by omega:0≤-n)
  obtain rfl:n=-(u:Int):=by omega
  have e:decL (-(u:Int)) p=45::cutp u p:=by unfold decL;rw [if_pos (by omega)];simp
  rw [e]
  exact l2dec_neg u p (by omega) (by omega) hp w
theorem repeatL_one(c:Nat):Lib.repeatL [48] c=List.replicate c 48:=by
 induction c with
 | zero=>rfl
 | succ c ih=>simp [Lib.repeatL,ih,List.replicate_succ]
theorem rep0(c:Nat)(hc:c≤1000)(w:World) :
  Calls Tryz.prog 211 #[.string ⟨#[48]⟩,.int .i64 c] w fun e w'=>e=.returned (.string (tx (List.replicate c 48)))∧Below w.heap.size w w':=by
 have h:=repeat_r ⟨#[48]⟩ c w (by omega) (by show 1*c≤_;omega)
 have e:Lib.repeatL (⟨#[48]⟩:ByteArray).data.toList c=List.replicate c 48:=repeatL_one c
 rw [e] at h
 exact h
set_option maxRecDepth 100000 in
theorem dectext_pos(k:Int)(u p:Nat)(hu:u≤1000000000)(hp:p≤6)(w:World)(hP:PT w) :
  Calls Tryz.prog 177 #[.agg #[.int .i64 k,.int .i64 u,.int .i64 p]] w fun e w'=>e=.returned (.string (tx (cutp u p)))∧Below w.heap.size w w':=by
 have HC:Hid (∀W:World,PT W→Calls Tryz.prog 179 #[.int .i64 u] W fun e w'=>e=.returned (.string (tx (decDigits u)))∧Below W.heap.size W w'):=fun W hW=>by
  have:=itoa_r (u:Int) (by omega) (by omega) W hW
  rw [Lib.itoa_nonneg] at this
  exact this
 have hs:=zbw u (by omega)
 obtain ⟨D,HD⟩:∃D,Hid (D=tx (decDigits u)):=⟨tx (decDigits u),Eq.refl (tx (decDigits u))⟩
 rw [←HD.out] at HC hs
 go_enter Tryz.func177,Tryz.ntmps177
 go_wp2_with fail
 refine (HC.out _ (hP.later ((Below.refl _ _).alloc (Nat.le_refl _) _))).mono ?_
 rintro e w1 ⟨rfl,g1⟩
 have c1:w1.cell? ⟨w.heap.size,1,none⟩=some (.int .i64 u):=cell_later g1 (by simp)
 have c2:w1.cell? ⟨w.heap.size,2,none⟩=some (.int .i64 p):=cell_later g1 (by simp)
 have b1:Below w.heap.size w w1:=((Below.refl _ _).alloc (Nat.le_refl _) _).trans (g1.mono (by simp))
 clear g1 HC
 have hm:max ((p:Int)+1-(D.size:Int)) 0=((p+1-D.size:Nat):Int):=by omega
 go_wp2_with fail
 refine (rep0 (p+1-D.size) (by omega) _).mono ?_
 rintro e w2 ⟨rfl,g2⟩
 have d2:=cell_later g2 c2
 have b2:Below w.heap.size w w2:=b1.trans (g2.mono b1.size)
 obtain ⟨Z,HZ⟩:∃Z,Hid (Z=tx (List.replicate (p+1-D.size) 48)):=⟨_,Eq.refl (tx (List.replicate (p+1-D.size) 48))⟩
 have hZ:Z.size=p+1-D.size:=by rw [HZ.out,zam];simp
 rw [←HZ.out]
 clear g2 c1 c2 b1
 have i1:(0:Int)≤(Z.size:Int)+(D.size:Int)-(p:Int):=by omega
 have i2:(Z.size:Int)+(D.size:Int)-(p:Int)≤(Z.size:Int)+(D.size:Int):=by omega
 go_wp2
 go_quiet (fail)
 go_wp2
 go_ret
 refine ⟨?_,zgc b2 _⟩
 rw [HZ.out,HD.out,zbh]
 exact congrArg (fun s=>Ending.returned (Value.string s)) (cut_eq2 [] u p (tx (decDigits u)).size (zam _))
set_option maxRecDepth 100000 in
theorem dectext_neg(k:Int)(u p:Nat)(h1u:1≤u)(hu:u≤1000000000)(hp:p≤6)(w:World)(hP:PT w) :
  Calls Tryz.prog 177 #[.agg #[.int .i64 k,.int .i64 (-(u:Int)),.int .i64 p]] w fun e w'=>e=.returned (.string (tx (45::cutp u p)))∧Below w.heap.size w w':=by
 have HC:Hid (∀W:World,PT W→Calls Tryz.prog 179 #[.int .i64 (-(u:Int))] W fun e w'=>e=.returned (.string (tx (45::decDigits u)))∧Below W.heap.size W w'):=fun W hW=>by
  have:=itoa_r (-(u:Int)) (by omega) (by omega) W hW
  rw [Lib.itoa_neg u h1u] at this
  exact this
 have hs:=zbw u (by omega)
 obtain ⟨D,HD⟩:∃D,Hid (D=tx (decDigits u)):=⟨tx (decDigits u),Eq.refl (tx (decDigits u))⟩
 obtain ⟨E,HE⟩:∃E,Hid (E=tx (45::decDigits u)):=⟨tx (45::decDigits u),Eq.refl (tx (45::decDigits u))⟩
 have hE:E.size=D.size+1:=by rw [HE.out,HD.out,zam,zam];rfl
 have hx:E.extract 1 (D.size+1)=D:=by rw [HE.out,zdz,HD.out,zam];simp
 rw [←HE.out] at HC
 rw [←HD.out] at hs
 clear HE
 have i0:-(u:Int)<0:=by omega
 go_enter Tryz.func177,Tryz.ntmps177
 go_wp2_with fail
 refine (HC.out _ (hP.later ((Below.refl _ _).alloc (Nat.le_refl _) _))).mono ?_
 rintro e w1 ⟨rfl,g1⟩
 have c1:w1.cell? ⟨w.heap.size,1,none⟩=some (.int .i64 (-(u:Int))):=cell_later g1 (by simp)
 have c2:w1.cell? ⟨w.heap.size,2,none⟩=some (.int .i64 p):=cell_later g1 (by simp)
 have b1:Below w.heap.size w w1:=((Below.refl _ _).alloc (Nat.le_refl _) _).trans (g1.mono (by simp))
 clear g1 HC
 have hm:max ((p:Int)+1-(D.size:Int)) 0=((p+1-D.size:Nat):Int):=by omega
 have j1:(1:Int)≤(E.size:Int):=by omega
 go_wp2
 go_quiet (fail)
 go_wp2_with fail
 refine (rep0 (p+1-D.size) (by omega) _).mono ?_
 rintro e w2 ⟨rfl,g2⟩
 have d2:w2.cell? ⟨w.heap.size,2,none⟩=some (.int .i64 p):=cell_later g2 c2
 have b2:Below w.heap.size w w2:=(zgc b1 nq).trans (g2.mono b1.size)
 obtain ⟨Z,HZ⟩:∃Z,Hid (Z=tx (List.replicate (p+1-D.size) 48)):=⟨_,Eq.refl (tx (List.replicate (p+1-D.size) 48))⟩
 have hZ:Z.size=p+1-D.size:=by rw [HZ.out,zam];simp
 rw [←HZ.out]
 clear g2 c1 c2 b1
 have i1:(0:Int)≤(Z.size:Int)+(D.size:Int)-(p:Int):=by omega
 have i2:(Z.size:Int)+(D.size:Int)-(p:Int)≤(Z.size:Int)+(D.size:Int):=by omega
 go_wp2
 go_quiet (fail)
 go_wp2
 go_ret
 refine ⟨?_,zgc b2 _⟩
 rw [HZ.out,HD.out,zbh]
 exact congrArg (fun s=>Ending.returned (Value.string s)) (cut_eq2 [45] u p (tx (decDigits u)).size (zam _))
theorem dectext_any(k n:Int)(p:Nat)(h0:-1000000000≤n)(h1:n≤1000000000)(hp:p≤6)(w:World)(hP:PT w) :
  Calls Tryz.prog 177 #[.agg #[.int .i64 k,.int .i64 n,.int .i64 p]] w fun e w'=>e=.returned (.string (tx (decL n p)))∧Below w.heap.size w w':=by
 by_cases h:0≤n
 ·obtain ⟨u,rfl⟩:=Int.eq_ofNat_of_zero_le h
  have e:decL (u:Int) p=cutp u p:=by unfold decL;rw [if_neg (by omega)];rfl
  rw [e]
  exact dectext_pos k u p (by omega) hp w hP
 ·obtain ⟨u,hu⟩:=Int.eq_ofNat_of_zero_le (by omega:0≤-n)
  obtain rfl:n=-(u:Int):=by omega
  have e:decL (-(u:Int)) p=45::cutp u p:=by unfold decL;rw [if_pos (by omega)];simp
  rw [e]
  exact dectext_neg k u p (by omega) (by omega) hp w hP
end Go.Proofs.YtllmabgollkigaaGreatDoor
