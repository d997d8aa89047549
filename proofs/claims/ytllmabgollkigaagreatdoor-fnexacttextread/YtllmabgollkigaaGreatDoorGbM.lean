/- How much there is in a ladder: the laws' sz.. functions. -/
import Derived.Test.YtllmabgollkigaaGreatDoorGa
import Derived.Test.YtllmabgollkigaaGreatDoorMa
import Derived.Deep.LoopGhost
import Derived.Laws.MakeOwn
import Derived.Laws.AppendOwn
import Derived.Laws.OwnMore
namespace Go.Proofs.YtllmabgollkigaaGreatDoor
open Go.RowKit
set_option linter.unusedVariables false
theorem RowIs.one{α:Type}{W:World}{lo z:Nat}{R:α→List Value→Prop}{v:Value}{xs:List α}(h:RowIs W lo z R v xs):v.oneCell'=true:=by
 obtain ⟨a,cap,rfl,_⟩:=h;rfl
theorem NetIs.cells{W:World}{lo:Nat}:∀{m:Nat} {t:NetT} {cs:List Value},NetIs W lo m t cs→∃n0 n1 n2 n3,cs=[n0,n1,n2,n3]∧n0.oneCell'=true∧n1.oneCell'=true∧n2.oneCell'=true∧n3.oneCell'=true
 | 0,_,_,h=>h.elim
 | m+1,.mk k e kids,cs,h=>by
  obtain ⟨v,v',rfl,ha,hk⟩:=h
  exact ⟨_,_,_,_,rfl,rfl,rfl,ha.one,hk.one⟩
section
variable {P:Program}
end
theorem all_one(ds : List Value)(h : ∀ d ∈ ds, d.oneCell' = true) : ds.toArray.all (·.oneCell') = true := by simp; exact h
inductive Each {α:Type} (R:List Nat→α→List Value→Prop) (z:Nat):List Nat→List α→List Value→Prop
 | nil:Each R z [] [] []
 | add {F:List Nat} {xs:List α} {cs:List Value} {f:List Nat} {x:α} {c:List Value} (h:Each R z F xs cs) (hc:c.length=z) (hr:R f x c):Each R z (F++f) (xs++[x]) (cs++c)
theorem Each.len{α:Type}{R:List Nat→α→List Value→Prop}{z:Nat}{F:List Nat}{xs:List α}{cs:List Value}(h:Each R z F xs cs):cs.length=xs.length*z:=by
 induction h with
 | nil=>simp
 | add h hc hr ih=>simp [ih,hc,Nat.add_mul]
theorem Each.move{α:Type}{R R':List Nat→α→List Value→Prop}{z:Nat}{F:List Nat}{xs:List α}{cs:List Value}(h:Each R z F xs cs)(hR:∀f x c,f ⊆ F→R f x c→R' f x c):Each R' z F xs cs:=by
 induction h with
 | nil=>exact .nil
 | add h hc hr ih=>exact .add (ih fun f x c hf=>hR f x c (fun b hb=>List.mem_append_left _ (hf hb))) hc (hR _ _ _ (fun b hb=>List.mem_append_right _ hb) hr)
theorem Each.at{α:Type}{R:List Nat→α→List Value→Prop}{z:Nat}{F:List Nat}{xs:List α}{cs:List Value}(h:Each R z F xs cs):∀j x,xs[j]?=some x→∃f c F1 F2 cs1 cs2,F=F1++f++F2∧cs=cs1++c++cs2∧cs1.length=j*z∧c.length=z∧R f x c:=by
 induction h with
 | nil=>intro j x hx;simp at hx
 | @add F xs cs f y c h hc hr ih =>
  intro j x hx
  rcases Nat.lt_or_ge j xs.length with hj|hj
  ·rw [List.getElem?_append_left hj] at hx
   obtain ⟨f',c',F1,F2,cs1,cs2,h1,h2,h3,h4,h5⟩:=ih j x hx
   exact ⟨f',c',F1,F2++f,cs1,cs2++c,by rw [h1];simp,by rw [h2];simp,h3,h4,h5⟩
  ·rw [List.getElem?_append_right hj] at hx
   have hj0:j=xs.length:=by
    have:=(List.getElem?_eq_some_iff.1 hx).1
    simp at this
    omega
   subst hj0
   simp at hx
   subst hx
   exact ⟨f,c,F,[],cs,[],by simp,by simp,h.len,hc,hr⟩
def RowOwn{α:Type}(W:World)(base e z:Nat)(R:List Nat→α→List Value→Prop)(F:List Nat)(v:Value)(xs:List α):Prop :=
 ∃cs F',Each R z F' xs cs∧W.ownsRow base e z v xs.length cs∧F=v.ownBlock.toList++F'
theorem RowOwn.nil{α:Type}(W:World)(base e z:Nat)(R:List Nat→α→List Value→Prop):RowOwn W base e z R [] (.slice none 0 0) ([]:List α) :=
 ⟨[],[],.nil,⟨by simp,.inl ⟨rfl,rfl⟩⟩,rfl⟩
theorem RowOwn.move{α:Type}{W W':World}{base e z:Nat}{R R':List Nat→α→List Value→Prop}{F:List Nat}{v:Value}{xs:List α}{row:Option Nat}(h:RowOwn W base e z R F v xs)(hg:W.grownBy W' row)(hr:∀b∈F,some b≠row)
  (hR:∀f x c,(∀b∈f,some b≠row)→R f x c→R' f x c):RowOwn W' base e z R' F v xs:=by
 obtain ⟨cs,F',h1,h2,rfl⟩:=h
 refine ⟨cs,F',h1.move fun f x c hf=>hR f x c fun b hb=>hr b (List.mem_append_right _ (hf hb)),h2.kept hg ?_,rfl⟩
 cases hv:v.ownBlock with
 | none=>exact .inl rfl
 | some b=>exact .inr (hr b (by rw [hv];simp))
theorem RowOwn.lt{α:Type}{W:World}{base e z:Nat}{R:List Nat→α→List Value→Prop}{F:List Nat}{v:Value}{xs:List α}(h:RowOwn W base e z R F v xs)
  (hR:∀f x c,R f x c→∀b∈f,base≤b∧b<W.heap.size):∀b∈F,base≤b∧b<W.heap.size:=by
 obtain ⟨cs,F',h1,h2,rfl⟩:=h
 intro b hb
 rcases List.mem_append.1 hb with hb|hb
 ·exact h2.lt b (by simpa using hb)
 ·clear h2
  induction h1 with
  | nil=>simp at hb
  | add h hc hr ih =>
   rcases List.mem_append.1 hb with hb|hb
   ·exact ih (List.mem_append_right _ hb) hb
   ·exact hR _ _ _ hr b hb
def ArgO(f:List Nat)(x:ArgT)(c:List Value):Prop:=f=[]∧zgd x c
abbrev ArgsOwn(W:World)(base:Nat)(F:List Nat)(v:Value)(xs:List ArgT):Prop:=RowOwn W base 133 3 ArgO F v xs
def ElemOwn(W:World)(base:Nat)(F:List Nat)(e:ElemT)(c:List Value):Prop:=∃v,c=[.int .i64 e.op,v]∧ArgsOwn W base F v e.args
def NetOwn(W:World)(base:Nat):Nat→List Nat→NetT→List Value→Prop
 | 0,_,_,_=>False
 | n+1,F,.mk k e kids,c=>∃v v' F1 F2,c=[.int .i64 k,.int .i64 e.op,v,v']∧F=F1++F2∧ArgsOwn W base F1 v e.args∧RowOwn W base 53 4 (NetOwn W base n) F2 v' kids
def ArmOwn(W:World)(base:Nat):Nat→List Nat→ArmT→List Value→Prop
 | 0,_,_,_=>False
 | n+1,F,.mk net coils kids,c=>∃ns v v' F1 F2 F3,c=ns++[v,v']∧F=F1++(F2++F3)∧NetOwn W base n F1 net ns∧RowOwn W base 50 2 (ElemOwn W base) F2 v coils∧RowOwn W base 56 6 (ArmOwn W base n) F3 v' kids
theorem ArgsOwn.move{W W':World}{base:Nat}{F:List Nat}{v:Value}{xs:List ArgT}{row:Option Nat}(h:ArgsOwn W base F v xs)(hg:W.grownBy W' row)(hr:∀b∈F,some b≠row):ArgsOwn W' base F v xs:=RowOwn.move h hg hr fun _ _ _ _ h=>h
theorem ElemOwn.move{W W':World}{base:Nat}{F:List Nat}{e:ElemT}{c:List Value}{row:Option Nat}(h:ElemOwn W base F e c)(hg:W.grownBy W' row)(hr:∀b∈F,some b≠row):ElemOwn W' base F e c:=by
 obtain ⟨v,hc,h1⟩:=h
 exact ⟨v,hc,ArgsOwn.move h1 hg hr⟩
theorem NetOwn.move{W W':World}{base:Nat}{row:Option Nat}(hg:W.grownBy W' row):∀(n m:Nat),n≤m→∀(F:List Nat)(t:NetT)(c:List Value),(∀b∈F,some b≠row)→NetOwn W base n F t c→NetOwn W' base m F t c
 | 0,_,_,_,_,_,_,h=>h.elim
 | n+1,m+1,hm,F,.mk k e kids,c,hr,h=>by
  obtain ⟨v,v',F1,F2,hc,rfl,h1,h2⟩:=h
  exact ⟨v,v',F1,F2,hc,rfl,ArgsOwn.move h1 hg (fun b hb=>hr b (List.mem_append_left _ hb)),RowOwn.move h2 hg (fun b hb=>hr b (List.mem_append_right _ hb)) fun f x c hf h=>NetOwn.move hg n m (by omega) f x c hf h⟩
 | n+1,0,hm,_,_,_,_,_=>by omega
theorem ArmOwn.move{W W':World}{base:Nat}{row:Option Nat}(hg:W.grownBy W' row):∀(n m:Nat),n≤m→∀(F:List Nat)(t:ArmT)(c:List Value),(∀b∈F,some b≠row)→ArmOwn W base n F t c→ArmOwn W' base m F t c
 | 0,_,_,_,_,_,_,h=>h.elim
 | n+1,m+1,hm,F,.mk net coils kids,c,hr,h=>by
  obtain ⟨ns,v,v',F1,F2,F3,hc,rfl,h1,h2,h3⟩:=h
  exact ⟨ns,v,v',F1,F2,F3,hc,rfl,NetOwn.move hg n m (by omega) _ _ _ (fun b hb=>hr b (List.mem_append_left _ hb)) h1,
   RowOwn.move h2 hg (fun b hb=>hr b (List.mem_append_right _ (List.mem_append_left _ hb))) fun f x c hf h=>h.move hg hf,
   RowOwn.move h3 hg (fun b hb=>hr b (List.mem_append_right _ (List.mem_append_right _ hb))) fun f x c hf h=>ArmOwn.move hg n m (by omega) f x c hf h⟩
 | n+1,0,hm,_,_,_,_,_=>by omega
theorem ArgsOwn.lt{W:World}{base:Nat}{F:List Nat}{v:Value}{xs:List ArgT}(h:ArgsOwn W base F v xs):∀b∈F,base≤b∧b<W.heap.size:=RowOwn.lt h fun f x c hf b hb=>by rw [hf.1] at hb;simp at hb
theorem ElemOwn.lt{W:World}{base:Nat}{F:List Nat}{e:ElemT}{c:List Value}(h:ElemOwn W base F e c):∀b∈F,base≤b∧b<W.heap.size:=by
 obtain ⟨v,_,h1⟩:=h
 exact ArgsOwn.lt h1
theorem NetOwn.lt{W:World}{base:Nat}:∀(n:Nat)(F:List Nat)(t:NetT)(c:List Value),NetOwn W base n F t c→∀b∈F,base≤b∧b<W.heap.size
 | 0,_,_,_,h=>h.elim
 | n+1,F,.mk k e kids,c,h=>by
  obtain ⟨v,v',F1,F2,hc,rfl,h1,h2⟩:=h
  intro b hb
  rcases List.mem_append.1 hb with hb|hb
  ·exact ArgsOwn.lt h1 b hb
  ·exact RowOwn.lt h2 (fun f x c h=>NetOwn.lt n f x c h) b hb
theorem ArmOwn.lt{W:World}{base:Nat}:∀(n:Nat)(F:List Nat)(t:ArmT)(c:List Value),ArmOwn W base n F t c→∀b∈F,base≤b∧b<W.heap.size
 | 0,_,_,_,h=>h.elim
 | n+1,F,.mk net coils kids,c,h=>by
  obtain ⟨ns,v,v',F1,F2,F3,hc,rfl,h1,h2,h3⟩:=h
  intro b hb
  rcases List.mem_append.1 hb with hb|hb
  ·exact NetOwn.lt n _ _ _ h1 b hb
  ·rcases List.mem_append.1 hb with hb|hb
   ·exact RowOwn.lt h2 (fun f x c h=>h.lt) b hb
   ·exact RowOwn.lt h3 (fun f x c h=>ArmOwn.lt n f x c h) b hb
theorem RowOwn.is{α:Type}{W:World}{base e z lo:Nat}{R:List Nat→α→List Value→Prop}{R':α→List Value→Prop}{F:List Nat}{v:Value}{xs:List α}(h:RowOwn W base e z R F v xs)(hl:lo≤base)(hR:∀f x c,R f x c→R' x c):RowIs W lo z R' v xs:=by
 obtain ⟨cs,F',h1,h2,rfl⟩:=h
 rcases h2.2 with ⟨rfl,hn⟩|⟨g,cap,cur,rfl,hb,hg,hnc,hcm,hsz,hcur⟩
 ·have:xs=[]:=List.length_eq_zero_iff.1 hn
  subst this
  exact ⟨none,0,rfl,by simp,fun j x hj=>by simp at hj⟩
 ·refine ⟨some ⟨g,0,none⟩,cap,rfl,by unfold maxLen at hcm;omega,fun j x hj=>?_⟩
  obtain ⟨f,c,F1,F2,cs1,cs2,_,e2,e3,e4,hr⟩:=h1.at j x hj
  refine ⟨g,0,c,rfl,by omega,e4,fun i u hi=>?_,hR f x c hr⟩
  have hc:=h2.cells (g:=g) rfl (j*z+i) u (by
   rw [e2,List.append_assoc,List.getElem?_append_right (by omega),e3,List.getElem?_append_left (by have:=(List.getElem?_eq_some_iff.1 hi).1;omega)]
   rw [show j*z+i-j*z=i by omega]
   exact hi)
  have:(⟨g,0,none⟩:Addr).add (j*z+i)=⟨g,0+j*z+i,none⟩:=by simp [Addr.add];omega
  rw [this] at hc
  exact hc
theorem ArgsOwn.is{W:World}{base lo:Nat}{F:List Nat}{v:Value}{xs:List ArgT}(h:ArgsOwn W base F v xs)(hl:lo≤base):ArgsIs W lo v xs:=RowOwn.is h hl fun _ _ _ h=>h.2
theorem ElemOwn.is{W:World}{base lo:Nat}{F:List Nat}{e:ElemT}{c:List Value}(h:ElemOwn W base F e c)(hl:lo≤base):ElemIs W lo e c:=by
 obtain ⟨v,hc,h1⟩:=h
 exact ⟨v,hc,ArgsOwn.is h1 hl⟩
theorem NetOwn.is{W:World}{base lo:Nat}(hl:lo≤base):∀(n:Nat)(F:List Nat)(t:NetT)(c:List Value),NetOwn W base n F t c→NetIs W lo n t c
 | 0,_,_,_,h=>h.elim
 | n+1,F,.mk k e kids,c,h=>by
  obtain ⟨v,v',F1,F2,hc,rfl,h1,h2⟩:=h
  exact ⟨v,v',hc,ArgsOwn.is h1 hl,RowOwn.is h2 hl fun f x c h=>NetOwn.is hl n f x c h⟩
theorem ArmOwn.is{W:World}{base lo:Nat}(hl:lo≤base):∀(n:Nat)(F:List Nat)(t:ArmT)(c:List Value),ArmOwn W base n F t c→ArmIs W lo n t c
 | 0,_,_,_,h=>h.elim
 | n+1,F,.mk net coils kids,c,h=>by
  obtain ⟨ns,v,v',F1,F2,F3,hc,rfl,h1,h2,h3⟩:=h
  exact ⟨ns,v,v',hc,NetOwn.is hl n _ _ _ h1,RowOwn.is h2 hl fun f x c h=>h.is hl,RowOwn.is h3 hl fun f x c h=>ArmOwn.is hl n f x c h⟩
theorem RowOwn.push{α:Type}{W:World}{base e z g cap:Nat}{R:List Nat→α→List Value→Prop}{F f:List Nat}{xs:List α}{cs c:List Value}{x:α}(h1:Each R z F xs cs)(hc:c.length=z)(hr:R f x c)
  (ho:W.ownsRow base e z (.slice (some ⟨g,0,none⟩) (xs.length+1) cap) (xs.length+1) (cs++c)):RowOwn W base e z R (g::(F++f)) (.slice (some ⟨g,0,none⟩) (xs.length+1) cap) (xs++[x]) :=
 ⟨cs++c,F++f,.add h1 hc hr,by simpa using ho,rfl⟩
end Go.Proofs.YtllmabgollkigaaGreatDoor
