/- strconv.Itoa and strings.Repeat at this program; the table of powers of ten. -/
import Derived.Test.YtllmabgollkigaaGreatDoorDaM
import Derived.Test.YtllmabgollkigaaGreatDoorLy
namespace Go.Proofs.YtllmabgollkigaaGreatDoor
open Go.RowKit Go.Lib Go.Shelf
set_option linter.unusedVariables false
def PT (w : World) : Prop := Lib.TabIs Tryz.prog w "internal/strconv.uint64pow10" .u64 Lib.pow10Tab
theorem g2_named : Tryz.prog.globalNamed "internal/strconv.uint64pow10" = some 6 := by kernel_rfl
theorem g2_type : (Tryz.prog.globals[6]?).map (·.type) = some 284 := by kernel_rfl
theorem pt_of_reads {W : World} (h : VarReads Tryz.prog W "internal/strconv.uint64pow10" Rows.laid_internal_strconv_uint64pow10) : PT W := by
 obtain ⟨g,t,cs,fuel,p,hg,ht,hv,hd⟩:=h
 obtain rfl:=Option.some.inj (g2_named.symm.trans hg)
 obtain rfl:=Option.some.inj (g2_type.symm.trans ht)
 unfold PT Lib.TabIs
 rw [hv]
 congr 1
 have hd':DataW.trod (fun _=>()) Tryz.prog W 0 (fun _=>true) false fuel 284 cs.toList=some (tabData .u64 Lib.pow10Tab,p):=hd
 rw [←cells_of_tab Tryz.underlying284 Tryz.underlying228 (by kernel_rfl) (by kernel_rfl) hd']
theorem PT.later{w w':World}(h:PT w)(hb:Below w.heap.size w w'):PT w':=by
 have h' : w.var? Tryz.prog "internal/strconv.uint64pow10" = some (Lib.pow10Tab.map fun z => Value.int .u64 z).toArray := h
 show w'.var? Tryz.prog "internal/strconv.uint64pow10" = some (Lib.pow10Tab.map fun z => Value.int .u64 z).toArray
 unfold World.var? at h' ⊢
 rw [g2_named] at h' ⊢
 simp only [Option.bind_some] at h' ⊢
 have hg:6<w.heap.size:=by
  cases hh:w.heap[6]? with
  | none=>rw [hh] at h';cases h'
  | some o=>exact (Array.getElem?_eq_some_iff.1 hh).1
 rw [hb.block 6 hg];exact h'
theorem below_grow(w:World)(k:Nat)(os:Array Obj):Below w.heap.size w (Sort.grow (w.drewN k) os) :=
 ⟨rfl,rfl,rfl,by simp [Sort.grow,World.drewN],fun j hj=>by simp [Sort.grow,World.drewN,Array.getElem?_append,hj]⟩
theorem itoa_r(n:Int)(h0:-9223372036854775808≤n)(h1:n≤9223372036854775807)(w:World)(hP:PT w) :
  Calls Tryz.prog 179 #[.int .i64 n] w fun e w'=>e=.returned (.string ⟨(Lib.itoa n).toArray⟩)∧Below w.heap.size w w' :=
 (Any.strconv_Itoa Tryz.layI n h0 h1 w hP).mono fun e w' ⟨he,k,os,hw⟩=>⟨he,by rw [hw];exact below_grow w k os⟩
theorem repeat_r(s:ByteArray)(c:Nat)(w:World)(hc:c≤9223372036854775807)(hl:s.size*c≤140737488355328) :
  Calls Tryz.prog 211 #[.string s,.int .i64 c] w fun e w'=>e=.returned (.string ⟨(Lib.repeatL s.data.toList c).toArray⟩)∧Below w.heap.size w w' :=
 Any.strings_Repeat Tryz.layR Tryz.layR_extra s c w hc hl
end Go.Proofs.YtllmabgollkigaaGreatDoor
