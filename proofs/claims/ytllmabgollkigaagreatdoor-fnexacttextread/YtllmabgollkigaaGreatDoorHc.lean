/- strings.Split at one sign: the pieces. -/
import Derived.Test.YtllmabgollkigaaGreatDoorHaM
import Derived.Lib.SplitLaws
namespace Go.Proofs.YtllmabgollkigaaGreatDoor
open Go.RowKit
set_option linter.unusedVariables false
theorem ziq(c:UInt8):∀s:List UInt8,Lib.index s [c]=-1→∀b∈s,b≠c
 | [],_,b,hb=>by simp at hb
 | a::s,h,b,hb=>by
  unfold Lib.index at h
  split at h
  ·exact absurd h (by decide)
  ·rename_i hp
   have hac:a≠c:=fun e=>hp (by subst e;simp [List.isPrefixOf])
   split at h
   ·rename_i h2
    rcases List.mem_cons.1 hb with rfl|hb
    ·exact hac
    ·exact ziq c s (beq_iff_eq.1 h2) b hb
   ·have:=Lib.index_ge s [c]
    omega
theorem index_hit(c:UInt8):∀(s:List UInt8)(i:Nat),Lib.index s [c]=(i:Int)→s=s.take i++c::s.drop (i+1)∧(∀b∈s.take i,b≠c)
 | [],i,h=>by
  unfold Lib.index at h
  simp at h
 | a::s,i,h=>by
  unfold Lib.index at h
  split at h
  ·rename_i hp
   have hac:c=a:=by simpa [List.isPrefixOf] using hp
   have:i=0:=by omega
   subst this
   subst hac
   simp
  ·rename_i hp
   have hac:a≠c:=fun e=>hp (by subst e;simp [List.isPrefixOf])
   split at h
   ·omega
   ·rename_i h2
    have hge:=Lib.index_ge s [c]
    have hne:Lib.index s [c]≠-1:=fun e=>h2 (beq_iff_eq.2 e)
    obtain ⟨j,rfl⟩:∃j,i=j+1:=⟨i-1,by omega⟩
    obtain ⟨e,hn⟩:=index_hit c s j (by omega)
    refine ⟨?_,?_⟩
    ·simp only [List.take_succ_cons,List.drop_succ_cons,List.cons_append]
     rw [←e]
    ·intro b hb
     simp only [List.take_succ_cons] at hb
     rcases List.mem_cons.1 hb with rfl|hb
     ·exact hac
     ·exact hn b hb
theorem zfw(c : UInt8) : ∀ (k : Nat) (s : ByteArray), Lib.countB s ⟨#[c]⟩ = k → (Lib.splitB ⟨#[c]⟩ 0 k s).map (·.data.toList) = pieces c s.data.toList
 | k,s,hk=>by
  have hB:Lib.indexB s ⟨#[c]⟩=Lib.index s.data.toList [c]:=rfl
  rcases (by omega:Lib.indexB s ⟨#[c]⟩<0∨0≤Lib.indexB s ⟨#[c]⟩) with hneg|hpos
  ·have hm:Lib.indexB s ⟨#[c]⟩=-1:=by have:=Lib.index_ge s.data.toList [c];rw [hB] at hneg ⊢;omega
   rw [Lib.splitB_miss _ _ _ _ hm]
   unfold pieces
   rw [zee c _ [] (ziq c _ (hB ▸ hm))]
   simp
  ·obtain ⟨i,hi⟩:=Int.eq_ofNat_of_zero_le hpos
   have h1:=Lib.countB_hit s ⟨#[c]⟩ i (Nat.le_refl 1) hi
   obtain ⟨j,rfl⟩:∃j,k=j+1:=⟨k-1,by omega⟩
   rw [Lib.splitB_hit _ _ _ _ i hi,List.map_cons]
   have hd:(s.extract (i+(⟨#[c]⟩:ByteArray).size) s.size).data.toList=s.data.toList.drop (i+1):=by
    rw [ByteArray.data_extract,Array.toList_extract,List.extract_eq_take_drop]
    rw [show (⟨#[c]⟩:ByteArray).size=1 from rfl]
    apply List.take_of_length_le
    simp
   have ht:(s.extract 0 (i+0)).data.toList=s.data.toList.take i:=by
    rw [ByteArray.data_extract,Array.toList_extract,List.extract_eq_take_drop]
    simp
   rw [zfw c j _ (by omega),hd,ht]
   obtain ⟨e,hn⟩:=index_hit c s.data.toList i (hB ▸ hi)
   unfold pieces
   conv=>rhs;rw [e,zfc c _ _ [] hn]
   simp
end Go.Proofs.YtllmabgollkigaaGreatDoor
