/- Which signs the text of an operand has. -/
import Derived.Test.YtllmabgollkigaaGreatDoorDqM
namespace Go.Proofs.YtllmabgollkigaaGreatDoor
open Go.RowKit
open Go.Lib (decDigits itoa)
set_option linter.unusedVariables false
def Sg(b:UInt8):Prop:=b.toNat=45∨b.toNat=46∨(48≤b.toNat∧b.toNat≤57)∨(65≤b.toNat∧b.toNat≤90)∨(97≤b.toNat∧b.toNat≤122)
theorem Sg.ne{b:UInt8}(h:Sg b):b≠32∧b≠43∧b≠44∧b≠47∧b≠58∧b≠60∧b≠61∧b≠62∧b≠10∧b≠33:=by
 unfold Sg at h
 refine ⟨?_,?_,?_,?_,?_,?_,?_,?_,?_,?_⟩<;>(intro e;subst e;revert h;decide)
theorem sg_nat(d:Nat)(h:d<10):Sg (UInt8.ofNat (48+d)):=by
 refine .inr (.inr (.inl ?_))
 have:(UInt8.ofNat (48+d)).toNat=48+d:=by simp;omega
 omega
theorem sg_dec(u:Nat):∀b∈decDigits u,Sg b:=by
 induction u using Nat.strongRecOn with
 | ind u ih =>
  intro b hb
  by_cases h:u<10
  ·unfold decDigits at hb
   rw [dif_pos h] at hb
   rw [List.mem_singleton.1 hb]
   exact sg_nat u h
  ·unfold decDigits at hb
   rw [dif_neg h] at hb
   rcases List.mem_append.1 hb with hb|hb
   ·exact ih (u / 10) (by omega) b hb
   ·rw [List.mem_singleton.1 hb]
    exact sg_nat (u % 10) (by omega)
theorem sg_itoa(n:Int):∀b∈itoa n,Sg b:=by
 unfold itoa
 split
 ·intro b hb
  rcases List.mem_cons.1 hb with rfl|hb
  ·exact .inl (by decide)
  ·exact sg_dec _ b hb
 ·exact sg_dec _
theorem sg_pad(u p:Nat):∀b∈pad u p,Sg b:=by
 intro b hb
 unfold pad at hb
 rcases List.mem_append.1 hb with hb|hb
 ·have:=(List.mem_replicate.1 hb).2
  subst this
  exact .inr (.inr (.inl (by decide)))
 ·exact sg_dec u b hb
theorem sg_cutp(u p:Nat):∀b∈cutp u p,Sg b:=by
 intro b hb
 unfold cutp at hb
 rcases List.mem_append.1 hb with hb|hb
 ·rcases List.mem_append.1 hb with hb|hb
  ·exact sg_pad u p b (List.mem_of_mem_take hb)
  ·simp at hb
   subst hb
   exact .inr (.inl (by decide))
 ·exact sg_pad u p b (List.mem_of_mem_drop hb)
theorem sg_decL(n:Int)(p:Nat):∀b∈decL n p,Sg b:=by
 unfold decL
 split
 ·intro b hb
  rcases List.mem_cons.1 hb with rfl|hb
  ·exact .inl (by decide)
  ·exact sg_cutp _ _ b hb
 ·exact sg_cutp _ _
theorem sg_kL(k:Int):∀b∈(kL k).data.toList,Sg b:=by
 have one:∀g:UInt8,(65≤g.toNat∧g.toNat≤90)→∀b∈(⟨#[g]⟩:ByteArray).data.toList,Sg b:=fun g hg b hb=>by
  have:b=g:=by simpa using hb
  subst this
  exact .inr (.inr (.inr (.inl hg)))
 unfold kL
 repeat (first|(split;· exact one _ (by decide))|(intro b hb;simp at hb))
theorem sg_wd(n:Int):∀b∈(wd n).data.toList,Sg b:=by
 have h1:∀b∈([110,97,110]:List UInt8),Sg b:=by unfold Sg;decide
 have h2:∀b∈([105,110,102]:List UInt8),Sg b:=by unfold Sg;decide
 have h3:∀b∈([45,105,110,102]:List UInt8),Sg b:=by unfold Sg;decide
 have h4:∀b∈([45,48,46,48]:List UInt8),Sg b:=by unfold Sg;decide
 unfold wd
 split
 ·exact h1
 ·split
  ·exact h2
  ·split
   ·exact h3
   ·exact h4
theorem zhs(k n p:Int):∀b∈(txt k n p).data.toList,Sg b:=by
 unfold txt
 split
 ·split
  ·intro b hb
   exact sg_decL _ _ b (by simpa [tx] using hb)
  ·split
   ·exact sg_wd n
   ·intro b hb
    rw [ByteArray.data_append,Array.toList_append] at hb
    rcases List.mem_append.1 hb with hb|hb
    ·exact sg_kL k b hb
    ·exact sg_itoa n b (by simpa [tx] using hb)
 ·intro b hb
  simp at hb
end Go.Proofs.YtllmabgollkigaaGreatDoor
