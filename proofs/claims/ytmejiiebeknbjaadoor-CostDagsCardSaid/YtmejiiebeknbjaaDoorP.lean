/- Terms as trees: the pure part. -/
import Derived.Lib.ItoaNum
namespace Go.Proofs.YtmejiiebeknbjaaDoor
set_option linter.unusedVariables false
set_option linter.unusedSimpArgs false
inductive T where
  | mk (op wd : Int) (vl : Nat) (nm : ByteArray) (ts : List T)
theorem T.ind {P : T → Prop} (h : ∀ op wd vl nm ts, (∀ t ∈ ts, P t) → P (.mk op wd vl nm ts)) (t : T) : P t :=
  T.rec (motive_1 := P) (motive_2 := fun l => ∀ t ∈ l, P t) (fun op wd vl nm ts hl => h op wd vl nm ts hl) (fun t ht => by cases ht) (fun a l ha hl t ht => by
    rcases List.mem_cons.1 ht with rfl | ht
    · exact ha
    · exact hl t ht) t
def T.op : T → Int | .mk op _ _ _ _ => op
def T.ts : T → List T | .mk _ _ _ _ ts => ts
mutual
def size : T → Nat
  | .mk _ _ _ _ ts => 1 + sizeL ts
def sizeL : List T → Nat
  | [] => 0
  | t :: ts => size t + sizeL ts
end
mutual
def leftT : T → Int → Int
  | .mk _ _ _ _ ts, m => leftL ts (m - 1)
def leftL : List T → Int → Int
  | [], m => m
  | t :: ts, m => if m < 0 then -1 else leftL ts (leftT t m)
end
theorem size_pos (t : T) : 1 ≤ size t := by cases t; unfold size; omega
theorem left_spec : (∀ t m, 0 ≤ m → leftT t m = if (size t : Int) ≤ m then m - size t else -1) := by
  intro t
  induction t using T.ind with
  | h op wd vl nm ts ih =>
    have hl : ∀ (l : List T), (∀ t ∈ l, ∀ m, 0 ≤ m → leftT t m = if (size t : Int) ≤ m then m - size t else -1) → ∀ m, -1 ≤ m → leftL l m = if (sizeL l : Int) ≤ m then m - sizeL l else -1 := by
      intro l
      induction l with
      | nil => intro _ m hm; unfold leftL sizeL; split <;> omega
      | cons a l ihl =>
        intro hs m hm
        unfold leftL sizeL
        by_cases h0 : m < 0
        · rw [if_pos h0, if_neg (by have := size_pos a; omega)]
        · rw [if_neg h0, hs a (by simp) m (by omega)]
          have := size_pos a
          by_cases h1 : (size a : Int) ≤ m
          · rw [if_pos h1, ihl (fun t ht => hs t (by simp [ht])) _ (by omega)]
            by_cases h2 : (sizeL l : Int) ≤ m - size a
            · rw [if_pos h2, if_pos (by omega)]; omega
            · rw [if_neg h2, if_neg (by omega)]
          · rw [if_neg h1, ihl (fun t ht => hs t (by simp [ht])) _ (by omega)]
            rw [if_neg (by omega), if_neg (by omega)]
    intro m hm
    unfold leftT size
    rw [hl ts ih (m - 1) (by omega)]
    by_cases h2 : (sizeL ts : Int) ≤ m - 1
    · rw [if_pos h2, if_pos (by omega)]; omega
    · rw [if_neg h2, if_neg (by omega)]
theorem left_bd (t : T) (m : Int) (h : 0 ≤ m) : -1 ≤ leftT t m ∧ leftT t m < m := by
  rw [left_spec t m h]
  have := size_pos t
  split <;> omega
/-- the cost of an operator -/
def nodeC (c : List Int) (op : Int) : Int := if op < 1 ∨ 26 < op then 1 else min (max (c.getD op.toNat 0) 1) 1048576
theorem node_bd (c : List Int) (op : Int) : 1 ≤ nodeC c op ∧ nodeC c op ≤ 1048576 := by unfold nodeC; split <;> omega
def inf : Int := 4611686018427387904
def cl (a : Int) : Int := min (max a 0) inf
def addC (a b : Int) : Int := min (cl a + cl b) inf
theorem cl_bd (a : Int) : 0 ≤ cl a ∧ cl a ≤ inf := by unfold cl inf; omega
theorem add_bd (a b : Int) : 0 ≤ addC a b ∧ addC a b ≤ inf := by have := cl_bd a; have := cl_bd b; unfold addC; omega
theorem cl_id {a : Int} (h : 0 ≤ a) (k : a ≤ inf) : cl a = a := by unfold cl; omega
mutual
def treeC (c : List Int) : T → Int
  | .mk op _ _ _ ts => treeL c (nodeC c op) ts
def treeL (c : List Int) : Int → List T → Int
  | a, [] => a
  | a, t :: ts => treeL c (addC a (treeC c t)) ts
end
/-- equality of trees, decided -/
noncomputable instance : DecidableEq T := fun a b => Classical.propDecidable _
mutual
noncomputable def subsT : List T → T → List T
  | l, .mk op wd vl nm ts => if T.mk op wd vl nm ts ∈ subsL l ts then subsL l ts else subsL l ts ++ [T.mk op wd vl nm ts]
noncomputable def subsL : List T → List T → List T
  | l, [] => l
  | l, t :: ts => subsL (subsT l t) ts
end
def sumC (c : List Int) (l : List T) : Int := l.foldl (fun a t => addC a (nodeC c t.op)) 0
end Go.Proofs.YtmejiiebeknbjaaDoor
