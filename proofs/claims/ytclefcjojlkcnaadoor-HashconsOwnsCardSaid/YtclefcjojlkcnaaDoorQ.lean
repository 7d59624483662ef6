/- Compare is a total order: the pure part. -/
import Derived.Test.YtclefcjojlkcnaaDoorM
namespace Go.Proofs.YtclefcjojlkcnaaDoor
theorem less_lt : ∀ (l m : List UInt8), Op.bytesLess l m = decide (l < m) := by
  intro l
  induction l with
  | nil => intro m; cases m <;> simp [Op.bytesLess]
  | cons a l ih =>
    intro m
    cases m with
    | nil => simp [Op.bytesLess]
    | cons b m =>
      rw [Op.bytesLess, ih, Bool.eq_iff_iff]
      simp [List.cons_lt_cons_iff]
/-- the comparisons of a with b, of b with c, and of a with c -/
def Tri (x y z : Int) : Prop := x ≤ 0 → y ≤ 0 → z ≤ 0 ∧ (z = 0 ↔ x = 0 ∧ y = 0)
def lex (x y : Int) : Int := if x = 0 then y else x
theorem tri_lex {x y z x' y' z' : Int} (h : Tri x y z) (k : Tri x' y' z') : Tri (lex x x') (lex y y') (lex z z') := by
  unfold Tri lex at *
  intro h1 h2
  split at h1 <;> split at h2 <;> split <;> omega
theorem tri_zero : Tri 0 0 0 := fun _ _ => by simp
theorem tri_ci (a b c : Int) : Tri (ci a b) (ci b c) (ci a c) := by
  unfold Tri ci
  repeat' split
  all_goals omega
theorem cs_spec (s t : ByteArray) : cs s t = if s.toList < t.toList then -1 else if s.toList = t.toList then 0 else 1 := by
  unfold cs; rw [less_lt]; simp
theorem tri_cs (a b c : ByteArray) : Tri (cs a b) (cs b c) (cs a c) := by
  rw [cs_spec, cs_spec, cs_spec]
  generalize a.toList = x
  generalize b.toList = y
  generalize c.toList = z
  intro h1 h2
  have k1 : x < y ∨ x = y := by
    by_cases h : x < y
    · exact .inl h
    · rw [if_neg h] at h1
      by_cases h' : x = y
      · exact .inr h'
      · rw [if_neg h'] at h1; omega
  have k2 : y < z ∨ y = z := by
    by_cases h : y < z
    · exact .inl h
    · rw [if_neg h] at h2
      by_cases h' : y = z
      · exact .inr h'
      · rw [if_neg h'] at h2; omega
  rcases k1 with k1 | rfl
  · have k3 : x < z := by
      rcases k2 with k2 | rfl
      · exact List.lt_trans k1 k2
      · exact k1
    rw [if_pos k1, if_pos k3]
    exact ⟨by omega, by omega⟩
  · have : ¬ x < x := List.lt_irrefl x
    rw [if_neg this, if_pos rfl]
    exact ⟨h2, by simp⟩
theorem anti_ci (a b : Int) : ci b a = - ci a b := by
  unfold ci
  repeat' split
  all_goals omega
theorem anti_cs (a b : ByteArray) : cs b a = - cs a b := by
  rw [cs_spec, cs_spec]
  generalize a.toList = x
  generalize b.toList = y
  by_cases h : x < y
  · have h' : ¬ y < x := List.lt_asymm h
    have hn : ¬ y = x := fun e => by rw [e] at h; exact List.lt_irrefl x h
    rw [if_pos h, if_neg h', if_neg hn]; rfl
  · by_cases e : x = y
    · subst e
      rw [if_neg h, if_pos rfl]; rfl
    · have h' : y < x := by
        rcases Decidable.em (y < x) with k | k
        · exact k
        · exact absurd (List.le_antisymm (List.not_lt.1 k) (List.not_lt.1 h)) e
      rw [if_neg h, if_neg e, if_pos h']; try rfl
theorem bd_ci (a b : Int) : -1 ≤ ci a b ∧ ci a b ≤ 1 := by
  unfold ci
  repeat' split
  all_goals omega
theorem bd_cs (a b : ByteArray) : -1 ≤ cs a b ∧ cs a b ≤ 1 := by
  unfold cs
  repeat' split
  all_goals omega
theorem sl_cons (x y : Int) (l m : List Int) : sl (x :: l) (y :: m) = lex (ci x y) (sl l m) := rfl
theorem tri_sl : ∀ (l m n : List Int), Tri (sl l m) (sl m n) (sl l n)
  | [], [], [] => by simp [sl, Tri]
  | [], [], _ :: _ => by simp [sl, Tri]
  | [], _ :: _, [] => by simp [sl, Tri]
  | [], _ :: _, _ :: _ => by simp [sl, Tri]
  | _ :: _, [], _ => by simp [sl, Tri]
  | _ :: _, _ :: _, [] => by simp [sl, Tri]
  | x :: l, y :: m, z :: n => by
    rw [sl_cons, sl_cons, sl_cons]
    exact tri_lex (tri_ci x y z) (tri_sl l m n)
theorem anti_lex {x y x' y' : Int} (h : y = - x) (h' : y' = - x') : lex y y' = - lex x x' := by
  unfold lex; split <;> split <;> omega
theorem bd_lex {x y : Int} (h : -1 ≤ x ∧ x ≤ 1) (k : -1 ≤ y ∧ y ≤ 1) : -1 ≤ lex x y ∧ lex x y ≤ 1 := by
  unfold lex; split <;> omega
theorem anti_sl : ∀ (l m : List Int), sl m l = - sl l m
  | [], [] => rfl
  | [], _ :: _ => rfl
  | _ :: _, [] => rfl
  | x :: l, y :: m => by
    rw [sl_cons, sl_cons]
    exact anti_lex (anti_ci x y) (anti_sl l m)
theorem bd_sl : ∀ (l m : List Int), -1 ≤ sl l m ∧ sl l m ≤ 1
  | [], [] => by simp [sl]
  | [], _ :: _ => by simp [sl]
  | _ :: _, [] => by simp [sl]
  | x :: l, y :: m => by
    rw [sl_cons]
    exact bd_lex (bd_ci x y) (bd_sl l m)
theorem cmpN_lex (op wd vl op' wd' vl' : Int) (nm nm' : ByteArray) (zs ys : List Int) : cmpN op wd vl op' wd' vl' nm nm' zs ys = lex (ci op op') (lex (ci wd wd') (lex (ci vl vl') (lex (cs nm nm') (lex (ci zs.length ys.length) (lex (sl zs ys) 0))))) := rfl
theorem tri_N (op wd vl op' wd' vl' op'' wd'' vl'' : Int) (nm nm' nm'' : ByteArray) (zs ys xs : List Int) :
    Tri (cmpN op wd vl op' wd' vl' nm nm' zs ys) (cmpN op' wd' vl' op'' wd'' vl'' nm' nm'' ys xs) (cmpN op wd vl op'' wd'' vl'' nm nm'' zs xs) := by
  simp only [cmpN_lex]
  exact tri_lex (tri_ci _ _ _) (tri_lex (tri_ci _ _ _) (tri_lex (tri_ci _ _ _) (tri_lex (tri_cs _ _ _) (tri_lex (tri_ci _ _ _) (tri_lex (tri_sl _ _ _) tri_zero)))))
theorem anti_N (op wd vl op' wd' vl' : Int) (nm nm' : ByteArray) (zs ys : List Int) : cmpN op' wd' vl' op wd vl nm' nm ys zs = - cmpN op wd vl op' wd' vl' nm nm' zs ys := by
  simp only [cmpN_lex]
  exact anti_lex (anti_ci _ _) (anti_lex (anti_ci _ _) (anti_lex (anti_ci _ _) (anti_lex (anti_cs _ _) (anti_lex (anti_ci _ _) (anti_lex (anti_sl _ _) rfl)))))
theorem bd_N (op wd vl op' wd' vl' : Int) (nm nm' : ByteArray) (zs ys : List Int) : -1 ≤ cmpN op wd vl op' wd' vl' nm nm' zs ys ∧ cmpN op wd vl op' wd' vl' nm nm' zs ys ≤ 1 := by
  simp only [cmpN_lex]
  exact bd_lex (bd_ci _ _) (bd_lex (bd_ci _ _) (bd_lex (bd_ci _ _) (bd_lex (bd_cs _ _) (bd_lex (bd_ci _ _) (bd_lex (bd_sl _ _) (by omega))))))
theorem self_N (op wd vl : Int) (nm : ByteArray) (zs : List Int) : cmpN op wd vl op wd vl nm nm zs zs = 0 := by
  have := anti_N op wd vl op wd vl nm nm zs zs
  omega
end Go.Proofs.YtclefcjojlkcnaaDoor
