/- S-expressions, without memory: what a text reads as. -/
namespace Go.Proofs.Ytgiheheakgigkaa
set_option linter.unusedVariables false
set_option linter.unusedSimpArgs false
/-- an s-expression: an atom's bytes and a list's elements -/
inductive T where
  | mk (a : ByteArray) (ts : List T)
theorem T.ind {P : T → Prop} (h : ∀ a ts, (∀ t ∈ ts, P t) → P (.mk a ts)) (t : T) : P t :=
  T.rec (motive_1 := P) (motive_2 := fun l => ∀ t ∈ l, P t) (fun a ts hl => h a ts hl) (fun t ht => by cases ht) (fun a l ha hl t ht => by
    rcases List.mem_cons.1 ht with rfl | ht
    · exact ha
    · exact hl t ht) t
/-- a text: its length, and its bytes by place -/
structure X where
  n : Nat
  f : Nat → Nat
  s : Nat → Nat → ByteArray
/-- a byte of atoms -/
def ab (c : Nat) : Bool := if 33 ≤ c ∧ c ≤ 126 ∧ c ≠ 40 ∧ c ≠ 41 ∧ c ≠ 59 then true else false
/-- a blank, a line feed aside -/
def bl (c : Nat) : Bool := if c = 32 ∨ c = 9 ∨ c = 13 then true else false
def skF (x : X) : Nat → Bool → Nat → Nat
  | 0, cm, i => i
  | k + 1, cm, i => if i < x.n then (if x.f i = 10 then skF x k false (i + 1) else if x.f i = 59 then skF x k true (i + 1) else if cm = false ∧ bl (x.f i) = false then i else skF x k cm (i + 1)) else i
/-- behind blanks and comments -/
def sk (x : X) (cm : Bool) (i : Nat) : Nat := skF x (x.n - i) cm i
theorem sk_end {x : X} {cm : Bool} {i : Nat} (h : x.n ≤ i) : sk x cm i = i := by
  unfold sk; rw [show x.n - i = 0 by omega]; rfl
theorem sk_step {x : X} {cm : Bool} {i : Nat} (h : i < x.n) : sk x cm i = (if x.f i = 10 then sk x false (i + 1) else if x.f i = 59 then sk x true (i + 1) else if cm = false ∧ bl (x.f i) = false then i else sk x cm (i + 1)) := by
  unfold sk
  obtain ⟨k, hk⟩ : ∃ k, x.n - i = k + 1 := ⟨x.n - i - 1, by omega⟩
  have e : x.n - (i + 1) = k := by omega
  rw [hk, e, skF, if_pos h]
theorem skF_ge (x : X) : ∀ k cm i, i ≤ skF x k cm i ∧ (i ≤ x.n → skF x k cm i ≤ x.n)
  | 0, cm, i => ⟨Nat.le_refl _, fun h => h⟩
  | k + 1, cm, i => by
    unfold skF
    by_cases h : i < x.n
    · rw [if_pos h]
      split
      · have := skF_ge x k false (i + 1); exact ⟨by omega, fun _ => this.2 (by omega)⟩
      · split
        · have := skF_ge x k true (i + 1); exact ⟨by omega, fun _ => this.2 (by omega)⟩
        · split
          · exact ⟨Nat.le_refl _, fun h => h⟩
          · have := skF_ge x k cm (i + 1); exact ⟨by omega, fun _ => this.2 (by omega)⟩
    · rw [if_neg h]; exact ⟨Nat.le_refl _, fun h => h⟩
theorem sk_ge (x : X) (cm : Bool) (i : Nat) : i ≤ sk x cm i := (skF_ge x _ cm i).1
theorem sk_le (x : X) (cm : Bool) {i : Nat} (h : i ≤ x.n) : sk x cm i ≤ x.n := (skF_ge x _ cm i).2 h
def aeF (x : X) : Nat → Nat → Nat
  | 0, i => i
  | k + 1, i => if i < x.n then (if ab (x.f i) = true then aeF x k (i + 1) else i) else i
/-- behind an atom's bytes -/
def ae (x : X) (i : Nat) : Nat := aeF x (x.n - i) i
theorem ae_end {x : X} {i : Nat} (h : x.n ≤ i) : ae x i = i := by
  unfold ae; rw [show x.n - i = 0 by omega]; rfl
theorem ae_step {x : X} {i : Nat} (h : i < x.n) : ae x i = (if ab (x.f i) = true then ae x (i + 1) else i) := by
  unfold ae
  obtain ⟨k, hk⟩ : ∃ k, x.n - i = k + 1 := ⟨x.n - i - 1, by omega⟩
  have e : x.n - (i + 1) = k := by omega
  rw [hk, e, aeF, if_pos h]
theorem aeF_ge (x : X) : ∀ k i, i ≤ aeF x k i ∧ (i ≤ x.n → aeF x k i ≤ x.n)
  | 0, i => ⟨Nat.le_refl _, fun h => h⟩
  | k + 1, i => by
    unfold aeF
    by_cases h : i < x.n
    · rw [if_pos h]
      split
      · have := aeF_ge x k (i + 1); exact ⟨by omega, fun _ => this.2 (by omega)⟩
      · exact ⟨Nat.le_refl _, fun h => h⟩
    · rw [if_neg h]; exact ⟨Nat.le_refl _, fun h => h⟩
theorem ae_ge (x : X) (i : Nat) : i ≤ ae x i := (aeF_ge x _ i).1
theorem ae_le (x : X) {i : Nat} (h : i ≤ x.n) : ae x i ≤ x.n := (aeF_ge x _ i).2 h
/-- what is read: a value and the place behind it, or an error's place and its number -/
inductive R (A : Type) where
  | ok (a : A) (i : Nat)
  | err (i c : Nat)
/-- the elements up to the closing bracket -/
def elF (x : X) (ex : Nat → R T) : Nat → List T → Nat → R (List T)
  | 0, acc, i => .err x.n 6
  | k + 1, acc, i => if sk x false i < x.n then (if x.f (sk x false i) = 41 then .ok acc (sk x false i + 1) else match ex (sk x false i) with
      | .ok e j => elF x ex k (acc ++ [e]) j
      | .err j c => .err j c) else .err x.n 6
/-- an s-expression, within so many levels -/
def exR (x : X) : Nat → Nat → R T
  | 0, i => if x.f i ≠ 40 ∧ ab (x.f i) = false then .err i 6 else .err i 7
  | k + 1, i => if x.f i ≠ 40 ∧ ab (x.f i) = false then .err i 6 else if x.f i ≠ 40 then .ok (.mk (x.s i (ae x i)) []) (ae x i) else match elF x (exR x k) (x.n - i) [] (i + 1) with
      | .ok l j => .ok (.mk ⟨#[]⟩ l) j
      | .err j c => .err j c
/-- all of a text -/
def alF (x : X) : Nat → List T → Nat → R (List T)
  | 0, acc, i => .ok acc 0
  | k + 1, acc, i => if sk x false i < x.n then (match exR x 64 (sk x false i) with
      | .ok e j => alF x k (acc ++ [e]) j
      | .err j c => .err j c) else .ok acc 0
def allR (x : X) : R (List T) := alF x (x.n + 1) [] 0
/-- reading goes on -/
theorem elF_gt {x : X} {ex : Nat → R T} (h : ∀ i e j, i < x.n → ex i = .ok e j → i < j ∧ j ≤ x.n) : ∀ k acc i l j, elF x ex k acc i = .ok l j → i < j ∧ j ≤ x.n
  | 0, acc, i, l, j, q => by cases q
  | k + 1, acc, i, l, j, q => by
    unfold elF at q
    have h1 := sk_ge x false i
    split at q
    · rename_i hlt
      split at q
      · cases q; exact ⟨by omega, by omega⟩
      · split at q
        · rename_i e j' he
          have h2 := h _ _ _ hlt he
          have h3 := elF_gt h k _ _ _ _ q
          exact ⟨by omega, h3.2⟩
        · cases q
    · cases q
theorem exR_gt {x : X} : ∀ k i e j, i < x.n → exR x k i = .ok e j → i < j ∧ j ≤ x.n
  | 0, i, e, j, hi, q => by unfold exR at q; split at q <;> cases q
  | k + 1, i, e, j, hi, q => by
    unfold exR at q
    split at q
    · cases q
    · rename_i hc
      split at q
      · rename_i h4
        cases q
        have ha : ab (x.f i) = true := by
          cases h : ab (x.f i) with
          | true => rfl
          | false => exact absurd ⟨h4, h⟩ hc
        have h5 := ae_step hi
        rw [if_pos ha] at h5
        have := ae_ge x (i + 1)
        exact ⟨by omega, ae_le x (by omega)⟩
      · split at q
        · rename_i l j' he
          cases q
          have := elF_gt (fun i e j hi h => exR_gt k i e j hi h) _ _ _ _ _ he
          exact ⟨by omega, this.2⟩
        · cases q
/-- the place of an error lies in the text, or at its end -/
theorem elF_err {x : X} {ex : Nat → R T} (h : ∀ i j c, i < x.n → ex i = .err j c → j ≤ x.n) : ∀ k acc i j c, elF x ex k acc i = .err j c → j ≤ x.n
  | 0, acc, i, j, c, q => by cases q; exact Nat.le_refl _
  | k + 1, acc, i, j, c, q => by
    unfold elF at q
    split at q
    · rename_i hlt
      split at q
      · cases q
      · split at q
        · exact elF_err h k _ _ _ _ q
        · rename_i j' c' he
          cases q
          exact h _ _ _ hlt he
    · cases q; exact Nat.le_refl _
theorem exR_err {x : X} : ∀ k i j c, i < x.n → exR x k i = .err j c → j ≤ x.n
  | 0, i, j, c, hi, q => by unfold exR at q; split at q <;> cases q <;> omega
  | k + 1, i, j, c, hi, q => by
    unfold exR at q
    split at q
    · cases q; omega
    · split at q
      · cases q
      · split at q
        · cases q
        · rename_i j' c' he
          cases q
          exact elF_err (fun i j c hi h => exR_err k i j c hi h) _ _ _ _ _ he
theorem alF_pre {x : X} : ∀ k acc i l j, alF x k acc i = .ok l j → ∃ r, l = acc ++ r
  | 0, acc, i, l, j, q => by cases q; exact ⟨[], by simp⟩
  | k + 1, acc, i, l, j, q => by
    unfold alF at q
    split at q
    · split at q
      · rename_i e j' he
        obtain ⟨r, h⟩ := alF_pre k _ _ _ _ q
        exact ⟨e :: r, by rw [h]; simp⟩
      · cases q
    · cases q; exact ⟨[], by simp⟩
theorem alF_err {x : X} : ∀ k acc i j c, alF x k acc i = .err j c → j ≤ x.n
  | 0, acc, i, j, c, q => by cases q
  | k + 1, acc, i, j, c, q => by
    unfold alF at q
    split at q
    · rename_i hlt
      split at q
      · exact alF_err k _ _ _ _ q
      · rename_i he
        cases q
        exact exR_err 64 _ _ _ hlt he
    · cases q
def zeroT : T := .mk ⟨#[]⟩ []
/-- where the second one begins -/
def second (x : X) : Nat := match exR x 64 (sk x false 0) with | .ok _ j => sk x false j | .err j _ => j
/-- the only s-expression of a text: it, a place, an error's number -/
def parseR (x : X) : T × Nat × Nat := match allR x with
  | .err j c => (zeroT, j, c)
  | .ok [] _ => (zeroT, x.n, 6)
  | .ok [e] _ => (e, 0, 0)
  | .ok (_ :: _ :: _) _ => (zeroT, second x, 6)
theorem all_first {x : X} {e : T} {t : List T} {i : Nat} (h : allR x = .ok (e :: t) i) : sk x false 0 < x.n ∧ ∃ j, exR x 64 (sk x false 0) = .ok e j := by
  unfold allR alF at h
  split at h
  · rename_i hlt
    refine ⟨hlt, ?_⟩
    split at h
    · rename_i e' j he
      obtain ⟨r, hr⟩ := alF_pre _ _ _ _ _ h
      simp at hr
      exact ⟨j, by rw [he, hr.1]⟩
    · cases h
  · cases h
end Go.Proofs.Ytgiheheakgigkaa
