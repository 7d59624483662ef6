/- strings.SplitSeq at a blank. -/
import Derived.Test.YtneidfbgdgegjaaGreatDoorDL
import Derived.Test.YtneidfbgdgegjaaGreatDoorDO
namespace Go.Proofs.YtneidfbgdgegjaaGreatDoor
open Go.RowKit Go.Shelf
set_option linter.unusedVariables false
set_option linter.unusedSimpArgs false
attribute [local go_sem] Oper.semAt_some
theorem idxb (c : UInt8) : ∀ l : List UInt8, (Lib.indexByte l c = -1 ∧ ∀ x ∈ l, x ≠ c) ∨ ∃ i : Nat, Lib.indexByte l c = (i : Int) ∧ i < l.length ∧ l = l.take i ++ c :: l.drop (i + 1) ∧ ∀ x ∈ l.take i, x ≠ c
  | [] => .inl ⟨rfl, by simp⟩
  | b :: l => by
    by_cases hb : b = c
    · subst hb
      right
      exact ⟨0, by simp [Lib.indexByte], by simp, by simp, by simp⟩
    · have hb' : (b == c) = false := by simpa using hb
      rcases idxb c l with ⟨h1, h2⟩ | ⟨i, h1, h2, h3, h4⟩
      · left
        refine ⟨by simp [Lib.indexByte, hb', h1], ?_⟩
        intro x hx
        rcases List.mem_cons.1 hx with rfl | hx
        · exact hb
        · exact h2 x hx
      · right
        refine ⟨i + 1, ?_, by simp; omega, ?_, ?_⟩
        · have : ((i : Int) == -1) = false := by rw [beq_eq_false_iff_ne]; omega
          simp [Lib.indexByte, hb', h1]
        · show b :: l = b :: (l.take i ++ c :: l.drop (i + 1))
          exact congrArg _ h3
        · intro x hx
          rcases List.mem_cons.1 (show x ∈ b :: l.take i from hx) with rfl | hx
          · exact hb
          · exact h4 x hx
theorem sp_at {l : List UInt8} {i : Nat} (h : l = l.take i ++ 32 :: l.drop (i + 1)) (h2 : ∀ x ∈ l.take i, x ≠ 32) : sp l = l.take i :: sp (l.drop (i + 1)) := by
  conv => lhs; rw [h]
  exact sp_cut _ h2
/-- what a round keeps: the iterator's own boxes -/
def Kb (b1 b2 b3 : Nat) (A B : World) : Prop := B.heap[b1]? = A.heap[b1]? ∧ B.heap[b2]? = A.heap[b2]? ∧ B.heap[b3]? = A.heap[b3]?
theorem Kb.trans {b1 b2 b3 : Nat} {A B C : World} (h : Kb b1 b2 b3 A B) (k : Kb b1 b2 b3 B C) : Kb b1 b2 b3 A C := ⟨k.1.trans h.1, k.2.1.trans h.2.1, k.2.2.trans h.2.2⟩
theorem Kb.put {b1 b2 b3 n : Nat} (h1 : b1 < n) (h2 : b2 < n) (h3 : b3 < n) (W : World) (l : Nat) (o : Obj) (hl : n ≤ l) : Kb b1 b2 b3 W (W.putObj l o) :=
  ⟨World.putObj_heap_other (by omega), World.putObj_heap_other (by omega), World.putObj_heap_other (by omega)⟩
theorem bx_set {W : World} {b b' : Nat} {t : TypeId} {v x : Value} (h : Boxed W b t v) (hn : b ≠ b') : Boxed (W.setCell ⟨b', 0, none⟩ x) b t v := (heap_setCell_other W ⟨b', 0, none⟩ b x (fun e => hn e)).trans h
def szOf (b : Nat) (w : World) : Nat := match w.cell? ⟨b, 0, none⟩ with | some (.string t) => t.size | _ => 0
theorem szOf_eq {b : Nat} {w : World} {t : ByteArray} (h : Boxed w b 9 (.string t)) : szOf b w = t.size := by unfold szOf; rw [h.cell]
/-- a piece, of a size that can be spoken of -/
abbrev BA := { x : ByteArray // x.size ≤ 100000 }
def encB (x : BA) : Array Value := #[.string x.1]
def bls (xs : List BA) : List (List UInt8) := xs.map fun x => bl x.1
theorem bls_snoc (xs : List BA) (x : BA) : bls (xs ++ [x]) = bls xs ++ [bl x.1] := by simp [bls]
theorem bls_len (xs : List BA) : (bls xs).length = xs.length := by simp [bls]
end Go.Proofs.YtneidfbgdgegjaaGreatDoor
