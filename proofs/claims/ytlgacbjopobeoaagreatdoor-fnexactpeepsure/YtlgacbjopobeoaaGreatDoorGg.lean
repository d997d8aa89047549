/- Values held against each other by ==: operands of contacts and coils. -/
import Derived.Test.YtlgacbjopobeoaaGreatDoorGeM
import Derived.Test.YtlgacbjopobeoaaGreatDoorQbM
import Derived.ChangeKeysEq
import Derived.Laws.StructEq
namespace Go.Proofs.YtlgacbjopobeoaaGreatDoor
open Go.RowKit
set_option linter.unusedVariables false

section
variable {P : Program}
end

theorem arg_names : (Tryz.prog.fieldsOf 78).toList.all (fun f => f.name != "_") = true := by kernel_rfl
theorem arg_fields : (Tryz.prog.fieldsOf 78).toList.map (fun f => (f.type, f.offset)) = [(3, 0), (3, 1), (3, 2)] := by kernel_rfl
theorem eqD_arg (d : Nat) (k n p k' n' p' : Int) : EqD Tryz.prog (d + 1 + 1) 78 (.agg #[.int .i64 k, .int .i64 n, .int .i64 p]) (.agg #[.int .i64 k', .int .i64 n', .int .i64 p']) (((k, n, p) : ArgT) = (k', n', p')) := by
  refine (eqD_struct (d := d + 1) (Q := fun f => AgreeOn #[.int .i64 k, .int .i64 n, .int .i64 p] #[.int .i64 k', .int .i64 n', .int .i64 p'] f.offset 1) (by kernel_rfl) (by kernel_rfl) (names_ne arg_names) fun f hf => ?_).iff ?_
  · have hm : (f.type, f.offset) ∈ (Tryz.prog.fieldsOf 78).toList.map (fun f => (f.type, f.offset)) := List.mem_map.2 ⟨f, hf, rfl⟩
    rw [arg_fields] at hm
    simp only [List.mem_cons, Prod.mk.injEq, List.not_mem_nil, or_false] at hm
    rcases hm with ⟨e1, e2⟩ | ⟨e1, e2⟩ | ⟨e1, e2⟩
    all_goals (rw [e1, e2]; exact ⟨_, _, part_cell Tryz.underlying3 rfl rfl, part_cell Tryz.underlying3 rfl rfl, (eqD_int Tryz.underlying3).iff (agree_one rfl rfl)⟩)
  · have hm : ∀ o, o < 3 → ∃ f ∈ (Tryz.prog.fieldsOf 78).toList, f.offset = o := fun o ho => by
      have : o ∈ ((Tryz.prog.fieldsOf 78).toList.map (fun f => (f.type, f.offset))).map Prod.snd := by
        rw [arg_fields]; simp; omega
      simp only [List.map_map, List.mem_map, Function.comp] at this
      obtain ⟨f, hf, e⟩ := this
      exact ⟨f, hf, e⟩
    constructor
    · intro h
      have g : ∀ o, o < 3 → AgreeOn #[.int .i64 k, .int .i64 n, .int .i64 p] #[.int .i64 k', .int .i64 n', .int .i64 p'] o 1 := fun o ho => by
        obtain ⟨f, hf, e⟩ := hm o ho
        have := h f hf
        rwa [e] at this
      have g0 := g 0 (by omega) 0 (by omega) (by omega)
      have g1 := g 1 (by omega) 1 (by omega) (by omega)
      have g2 := g 2 (by omega) 2 (by omega) (by omega)
      simp at g0 g1 g2
      rw [g0, g1, g2]
    · intro h f hf i h1 h2
      simp only [Prod.mk.injEq] at h
      obtain ⟨rfl, rfl, rfl⟩ := h
      rfl
end Go.Proofs.YtlgacbjopobeoaaGreatDoor
