/- strings.SplitN as elemParse calls it: n 0; no sign between; a sign between. -/
import Derived.Test.YtllmabgollkigaaGreatDoorJdM
import Derived.Test.YtllmabgollkigaaGreatDoorLz
import Derived.Deep.OwnRows
set_option maxHeartbeats 1000000
namespace Go.Proofs.YtllmabgollkigaaGreatDoor
open Go.RowKit Go.Shelf Go.Lib
set_option linter.unusedVariables false
def StrAt(w:World)(B:Nat)(a:Option Addr)(L:List ByteArray):Prop:=L=[]∨∃b,a=some ⟨b,0,none⟩∧B≤b∧∀j x,L[j]?=some x→w.cell? ⟨b,j,none⟩=some (.string x)
def ML(w:World):Prop:=∃m,w.cell? ⟨2,0,none⟩=some (.int .i64 m)
theorem ML.later{w w':World}(h:ML w)(g:Below w.heap.size w w'):ML w':=by
 obtain ⟨m,hm⟩:=h
 exact ⟨m,(g.cell (p:=⟨2,0,none⟩) (World.block_lt_of_cell? _ _ hm)).trans hm⟩
theorem splitn_zero(s sep:ByteArray)(w:World) :
  Calls Tryz.prog 231 #[.string s,.string sep,.int .i64 0] w fun e w'=>e=.returned (.slice none 0 0)∧w'=w:=by
 have c:∀W,Calls Tryz.prog 118 #[.string s,.string sep,.int .i64 0,.int .i64 0] W fun e w'=>e=.returned (.slice none 0 0)∧w'=W:=fun W=>by
  go_enter Tryz.func118,Tryz.ntmps118
  go_wp2
  go_ret
  exact ⟨rfl,rfl⟩
 go_enter Tryz.func231,Tryz.ntmps231
 go_wp2_with fail
 refine (c _).mono ?_
 rintro e w1 ⟨rfl,rfl⟩
 go_wp2
 go_ret
 exact ⟨rfl,rfl⟩
theorem rc_pos(s:ByteArray)(h:0<s.size):1≤Lib.runeCount s:=by
 unfold Lib.runeCount
 obtain ⟨n,hn⟩:∃n,s.size=n+1:=⟨s.size-1,by omega⟩
 have e:Lib.runeCountFrom s (n+1) 0=1+Lib.runeCountFrom s n (0+(Utf8.decode s 0).2):=by
  rw [Lib.runeCountFrom,if_pos h]
 rw [hn,e]
 omega
theorem rc_zero(s:ByteArray)(h:s.size=0):Lib.runeCount s=0:=by
 unfold Lib.runeCount
 rw [h]
 rfl
theorem made0:madeCells #[Value.string ⟨#[]⟩] 0=#[]:=by simp [madeCells]
theorem made1:madeCells #[Value.string ⟨#[]⟩] 1=#[Value.string ⟨#[]⟩]:=by
 apply Array.ext
 ·simp [madeCells]
 ·intro i h1 h2
  simp [madeCells,Nat.mod_one]
theorem explode_one(s:ByteArray)(w:World)(hs:s.size≤1048576) :
  Calls Tryz.prog 149 #[.string s,.int .i64 1] w fun e w'=>∃a cap,e=.returned (.slice a (if s.size=0 then 0 else 1) cap)∧StrAt w' w.heap.size a (if s.size=0 then [] else [s])∧Below w.heap.size w w':=by
 have HR:Hid (∀W,Calls Tryz.prog 180 #[.string s] W fun e w'=>e=.returned (.int .i64 (Lib.runeCount s))∧∃pos,w'=W.iter s pos):=fun W=>Any.utf8_RuneCountInString Tryz.layN s W (by omega)
 have hle:=Lib.runeCount_le s
 have hmk0:∀W:World,(Instr.makeSlice 58 (.int .i64 0) (.int .i64 0)).run Tryz.prog W=.ok (.slice (some ⟨W.heap.size,0,none⟩) 0 0) (W.alloc (.cells #[] 9)):=fun W=>by
  have:=run_make_row' (P:=Tryz.prog) 58 9 (.string ⟨#[]⟩) 16 Tryz.underlying58 info_str rfl .i64 .i64 0 (by omega) (by omega) W
  rw [made0] at this
  exact this
 have hmk1:∀W:World,(Instr.makeSlice 58 (.int .i64 1) (.int .i64 1)).run Tryz.prog W=.ok (.slice (some ⟨W.heap.size,0,none⟩) 1 1) (W.alloc (.cells #[.string ⟨#[]⟩] 9)):=fun W=>by
  have:=run_make_row' (P:=Tryz.prog) 58 9 (.string ⟨#[]⟩) 16 Tryz.underlying58 info_str rfl .i64 .i64 1 (by omega) (by omega) W
  rw [made1] at this
  exact this
 by_cases h0:s.size=0
 ·rw [rc_zero s h0] at HR
  rw [if_pos h0,if_pos h0]
  go_enter Tryz.func149,Tryz.ntmps149
  go_wp2_with fail
  refine (HR.out _).mono ?_
  rintro e w1 ⟨rfl,pos,rfl⟩
  have g1:Below w.heap.size w (w.iter s pos):=(Below.refl _ w).alloc (Nat.le_refl _) _
  generalize w.iter s pos=w1 at g1
  go_wp2
  go_loopg [0,7] 0 (fun g s0 i wr=>s0=.string s∧i=.int .i64 0∧Hid (Below w.heap.size w wr))
  case atStart=>exact ⟨rfl,rfl,g1.alloc g1.size _⟩
  case round =>
   obtain ⟨rfl,rfl,HB⟩:=hrel
   go_wp2
   go_ret
   exact ⟨_,_,rfl,.inl rfl,HB.out⟩
 ·have h1:=rc_pos s (by omega)
  generalize Lib.runeCount s=R at HR h1 hle
  have i1:¬((R:Int)<1):=by omega
  rw [if_neg h0,if_neg h0]
  go_enter Tryz.func149,Tryz.ntmps149
  go_wp2_with fail
  refine (HR.out _).mono ?_
  rintro e w1 ⟨rfl,pos,rfl⟩
  have g1:Below w.heap.size w (w.iter s pos):=(Below.refl _ w).alloc (Nat.le_refl _) _
  generalize w.iter s pos=w1 at g1
  have hsz:=g1.size
  go_wp2
  go_loopg [0,7] 0 (fun g s0 i wr=>s0=.string s∧i=.int .i64 0∧wr=w1.alloc (.cells #[.string ⟨#[]⟩] 9))
  case atStart=>exact ⟨rfl,rfl,rfl⟩
  case round =>
   obtain ⟨rfl,rfl,rfl⟩:=hrel
   go_wp2
   go_ret
   refine ⟨_,_,rfl,.inr ⟨w1.heap.size,rfl,hsz,fun j x hx=>?_⟩,g1.alloc hsz _⟩
   have hj:j=0:=by have:=(List.getElem?_eq_some_iff.1 hx).1;simpa using this
   subst hj
   simp at hx
   subst hx
   simp
theorem splitn_none(s:ByteArray)(w:World)(hs:s.size≤1048576) :
  Calls Tryz.prog 231 #[.string s,.string ⟨#[]⟩,.int .i64 1] w fun e w'=>∃a cap,e=.returned (.slice a (if s.size=0 then 0 else 1) cap)∧StrAt w' w.heap.size a (if s.size=0 then [] else [s])∧Below w.heap.size w w':=by
 have HE:Hid (∀W,Calls Tryz.prog 149 #[.string s,.int .i64 1] W fun e w'=>∃a cap,e=.returned (.slice a (if s.size=0 then 0 else 1) cap)∧StrAt w' W.heap.size a (if s.size=0 then [] else [s])∧Below W.heap.size W w'):=fun W=>explode_one s W hs
 generalize (if s.size=0 then 0 else 1)=n at HE ⊢
 generalize (if s.size=0 then [] else [s])=L at HE ⊢
 have c:Hid (∀W,Calls Tryz.prog 118 #[.string s,.string ⟨#[]⟩,.int .i64 0,.int .i64 1] W fun e w'=>∃a cap,e=.returned (.slice a n cap)∧StrAt w' W.heap.size a L∧Below W.heap.size W w'):=fun W=>by
  go_enter Tryz.func118,Tryz.ntmps118
  go_wp2_with fail
  refine (HE.out _).mono ?_
  rintro e w1 ⟨a,cap,rfl,h1,h2⟩
  go_wp2
  go_ret
  exact ⟨a,cap,rfl,h1,h2⟩
 go_enter Tryz.func231,Tryz.ntmps231
 go_wp2_with fail
 refine (c.out _).mono ?_
 rintro e w1 ⟨a,cap,rfl,h1,h2⟩
 go_wp2
 go_ret
 exact ⟨a,cap,rfl,h1,h2⟩
theorem cells_at(L:List ByteArray)(N:Nat)(j:Nat)(x:ByteArray)(h:L[j]?=some x):(Lib.cellsOf L N)[j]?=some (.string x):=by
 have hj:=(List.getElem?_eq_some_iff.1 h).1
 unfold Lib.cellsOf
 rw [List.getElem?_toArray,List.getElem?_append_left (by simpa using hj),List.getElem?_map,h]
 rfl
theorem splitn_sign(s sep:ByteArray)(n:Nat)(w:World)(hm:ML w)(hs:s.size≤1048576)(h1:1≤sep.size)(hn:1≤n)(hn3:n≤3) :
  Calls Tryz.prog 231 #[.string s,.string sep,.int .i64 n] w fun e w'=>∃a cap,e=.returned (.slice a (Lib.splitB sep 0 (min n (s.size+1)-1) s).length cap)∧StrAt w' w.heap.size a (Lib.splitB sep 0 (min n (s.size+1)-1) s)∧Below w.heap.size w w':=by
 obtain ⟨m,hm⟩:=hm
 refine (Any.strings_SplitN Tryz.layS info_str s sep n m w (by omega) hm h1 hn (by omega)).mono ?_
 rintro e w' ⟨rfl,rfl⟩
 refine ⟨_,_,rfl,.inr ⟨w.heap.size,rfl,Nat.le_refl _,fun j x hx=>?_⟩,(Below.refl _ w).alloc (Nat.le_refl _) _⟩
 rw [cell_of_row _ _ j _ _ (0,0) (heap_alloc_last w _)]
 exact cells_at _ _ j x hx
theorem splitn_r(op:Int)(r:ByteArray)(w:World)(hm:ML w)(hs:r.size≤1048576) :
  Calls Tryz.prog 231 #[.string r,.string (btw op),.int .i64 ((ndP op).length:Int)] w fun e w'=>∃a cap,e=.returned (.slice a (pcs op r).length cap)∧StrAt w' w.heap.size a (pcs op r)∧Below w.heap.size w w':=by
 unfold pcs
 by_cases h0:(ndP op).length=0
 ·rw [if_pos h0,h0]
  refine (splitn_zero r (btw op) w).mono ?_
  rintro e w' ⟨rfl,rfl⟩
  exact ⟨none,0,rfl,.inl rfl,Below.refl _ _⟩
 ·rw [if_neg h0]
  have ho:(1≤op∧op≤10)∨(21≤op∧op≤37):=by
   by_cases hn:(1≤op∧op≤10)∨(21≤op∧op≤37)
   ·exact hn
   ·exfalso
    apply h0
    have e1:ndP op=[]:=by unfold ndP;repeat rw [if_neg (by omega)]
    rw [e1];rfl
  obtain ⟨⟨h1,h3⟩,hr,_⟩:=zbo op ho
  rcases hr with ⟨hl,hb⟩|⟨hl,c,g,hb,_⟩
  ·have e:btw op=⟨#[]⟩:=by
    apply ByteArray.ext
    apply Array.toList_inj.1
    exact hb
   rw [e,hl]
   rw [if_pos (show (⟨#[]⟩:ByteArray).size=0 from rfl)]
   refine (splitn_none r w hs).mono ?_
   rintro e w' ⟨a,cap,rfl,h5,h6⟩
   refine ⟨a,cap,?_,h5,h6⟩
   by_cases hz:r.size=0
   ·rw [if_pos hz,if_pos hz];rfl
   ·rw [if_neg hz,if_neg hz];rfl
  ·have hb0:(btw op).size≠0:=by rw [Lib.size_eq,hb];simp
   rw [if_neg hb0]
   exact splitn_sign r (btw op) _ w hm hs (by omega) (by omega) h3
end Go.Proofs.YtllmabgollkigaaGreatDoor
