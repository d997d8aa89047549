/- strings.Split at the ends of lines. -/
import Derived.Test.YtllmabgollkigaaGreatDoorHc
import Derived.Test.YtllmabgollkigaaGreatDoorLx
import Derived.Test.YtllmabgollkigaaGreatDoorJj
import Derived.Test.YtllmabgollkigaaGreatDoorWc
import Derived.Shelf.Strings.SplitShaped
namespace Go.Proofs.YtllmabgollkigaaGreatDoor
open Go.RowKit Go.Shelf
set_option linter.unusedVariables false
theorem info_sL:(Tryz.prog.info? (Tryz.laySp_ren.t 9)).map (fun i=>(i.zero,i.size,i.bytes))=some (some (.string ByteArray.empty),1,16):=by kernel_rfl
theorem lines_i(s : ByteArray)(hs : s.size ≤ 1048576)(W : World)(hW : ML W) : Calls Tryz.prog 73 #[.string s, .string ⟨#[10]⟩] W fun e w' => ∃ (g cap : Nat) (L : List ByteArray), e = .returned (.slice (some ⟨g, 0, none⟩) L.length cap) ∧ WdsAt w' g L ∧ (W.heap.size ≤ g ∧ g < w'.heap.size) ∧ Below W.heap.size W w' ∧ L.length ≤ cap ∧ L.map (·.data.toList) = pieces 10 s.data.toList := by
 obtain ⟨m,hm⟩:=hW
 refine (Any.strings_Split Tryz.laySp info_sL s ⟨#[10]⟩ m W (by omega) hm (by decide)).mono ?_
 rintro e w' ⟨rfl,rfl⟩
 have hl:=Lib.splitB_all ⟨#[10]⟩ (by decide) 0 _ s rfl
 refine ⟨W.heap.size,Lib.countB s ⟨#[10]⟩+1,Lib.splitB ⟨#[10]⟩ 0 (Lib.countB s ⟨#[10]⟩) s,by rw [hl],?_,⟨Nat.le_refl _,by simp⟩,(Below.refl _ _).alloc (Nat.le_refl _) _,by rw [hl];omega,zfw 10 _ s rfl⟩
 intro n x hx
 rw [cell_of_row _ _ _ _ _ _ (heap_alloc_last _ _),List.getElem?_toArray,List.getElem?_map,hx]
 rfl
end Go.Proofs.YtllmabgollkigaaGreatDoor
