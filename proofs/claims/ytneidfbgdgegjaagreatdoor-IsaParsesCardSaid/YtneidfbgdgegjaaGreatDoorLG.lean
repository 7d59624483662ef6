/- Two instructions compared. -/
import Derived.Test.YtneidfbgdgegjaaGreatDoorLF
import Derived.Laws.StructEq
namespace Go.Proofs.YtneidfbgdgegjaaGreatDoor
open Go.RowKit
set_option linter.unusedVariables false
set_option linter.unusedSimpArgs false
/-- two instructions differ -/
def neB (i j : I6) : Bool := !(decide (i.op = j.op) && decide (i.dst = j.dst) && decide (i.a = j.a) && decide (i.b = j.b) && decide (i.c = j.c) && decide (i.imm = j.imm))
theorem neB_iff (i j : I6) : neB i j = false ↔ i = j := by
  obtain ⟨o, d, a, b, c, m⟩ := i
  obtain ⟨o', d', a', b', c', m'⟩ := j
  unfold neB
  simp only [I6.mk.injEq, Bool.not_eq_false', Bool.and_eq_true, decide_eq_true_eq]
  constructor
  · rintro ⟨⟨⟨⟨⟨h1, h2⟩, h3⟩, h4⟩, h5⟩, h6⟩; exact ⟨h1, h2, h3, h4, h5, h6⟩
  · rintro ⟨h1, h2, h3, h4, h5, h6⟩; exact ⟨⟨⟨⟨⟨h1, h2⟩, h3⟩, h4⟩, h5⟩, h6⟩
theorem guard54 : Tryz.prog.eqGuardType Tryz.prog.depth 42 = false := by kernel_rfl
theorem run_ne54 (i j : I6) (w : World) : (binOp .neq 42 (av i) (av j)).run Tryz.prog w = .ok (.bool (neB i j)) w := by
  have u3 := Tryz.underlying3
  have u44 := Tryz.underlying22
  have u52 := Tryz.underlying40
  have a3 := Tryz.isAgg3
  have a44 := Tryz.isAgg22
  have a52 := Tryz.isAgg40
  have z3 := Tryz.sizeOf3
  have z44 := Tryz.sizeOf22
  have z52 := Tryz.sizeOf40
  have hS : Tryz.prog.underlying 42 = some (.struct (Tryz.prog.fieldsOf 42)) := by kernel_rfl
  have hp : Tryz.prog.stoodInHeld 42 = false := by kernel_rfl
  unfold av
  rw [run_neq_struct, show (10000 : Nat) = 9999 + 1 from rfl, run_equalIn_agg w 9999 42 _ _ hS hp]
  simp only [Program.fieldsOf, Tryz.underlying42]
  go_simp
  obtain ⟨o, d, a, b, c, m⟩ := i
  obtain ⟨o', d', a', b', c', m'⟩ := j
  unfold neB
  by_cases h1 : o = o' <;> by_cases h2 : d = d' <;> by_cases h3 : a = a' <;> by_cases h4 : b = b' <;> by_cases h5 : c = c' <;> by_cases h6 : m = m' <;> simp [h1, h2, h3, h4, h5, h6]
theorem ne_ifs (i j : I6) (w : World) : (if i.op = j.op then if i.dst = j.dst then if i.a = j.a then if i.b = j.b then if i.c = j.c then if i.imm = j.imm then Result.ok (Next.value (Value.bool false)) w else Result.ok (Next.value (Value.bool true)) w else Result.ok (Next.value (Value.bool true)) w else Result.ok (Next.value (Value.bool true)) w else Result.ok (Next.value (Value.bool true)) w else Result.ok (Next.value (Value.bool true)) w else Result.ok (Next.value (Value.bool true)) w) = Result.ok (Next.value (Value.bool (neB i j))) w := by
  unfold neB
  (repeat' split) <;> simp [*]
end Go.Proofs.YtneidfbgdgegjaaGreatDoor
