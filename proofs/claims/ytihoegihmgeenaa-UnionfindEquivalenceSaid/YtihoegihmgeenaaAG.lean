/- One call on both, whatever it is. -/
import Derived.Test.YtihoegihmgeenaaAF
namespace Go.Proofs.Ytihoegihmgeenaa
open Go.RowKit
set_option linter.unusedVariables false
set_option linter.unusedSimpArgs false
theorem has_cases (h : List HOp) (x : Int) : (∃ n : Nat, x = n ∧ n < nE h) ∨ hasB h x = false := by
  by_cases g : 0 ≤ x ∧ x < nE h
  · obtain ⟨n, rfl⟩ := Int.eq_ofNat_of_zero_le g.1
    exact .inl ⟨n, rfl, by omega⟩
  · exact .inr (by simp [hasB]; omega)
theorem find_no {h : List HOp} {x : Int} (hx : hasB h x = false) : findI h x = -1 := by unfold findI; rw [if_neg]; simp [hasB] at hx; omega
def memI (h : List HOp) (x : Int) : List Int := if hasB h x = true then ints (mem h (R h x.toNat)) else []
theorem memI_yes {h : List HOp} {n : Nat} (hx : n < nE h) : memI h n = ints (mem h (R h n)) := by unfold memI; rw [if_pos (has_nat hx)]; rfl
theorem memI_no {h : List HOp} {x : Int} (hx : hasB h x = false) : memI h x = [] := by unfold memI; rw [if_neg (by rw [hx]; simp)]
theorem mem_len (h : List HOp) (x : Nat) : (mem h x).length ≤ nE h := Nat.le_trans (List.length_filter_le _ _) (by simp)
theorem looks (B b : Nat) (h : List HOp) (F : Nat → Prop) (lv : Value) (l : List ROp) (x y : Int) (w0 : World) (k0 : Both w0 B b h F lv l) (hs : h.length ≤ 1000) :
    Looks w0 b lv x y (findI h) (sameB h x y) (memI h x) := by
  have hn := nE_le h
  refine ⟨?_, ?_, ?_, ?_, ?_, ?_⟩
  · intro wc hb
    refine (find_any B b h F x wc (k0.u.below hb) hs).mono ?_
    rintro e w' ⟨he, q, rfl⟩
    exact ⟨he, below_drawn (B := w0.heap.size) (a := w0) (b := wc) hb q⟩
  · intro wc z hb
    refine (rfind_any B lv l h z wc (k0.o.below hb) hs).mono ?_
    rintro e w' ⟨he, hb'⟩
    exact ⟨he, below_chain hb hb'⟩
  · intro wc hb
    refine (same_any B b h F x y wc (k0.u.below hb) hs).mono ?_
    rintro e w' ⟨he, rfl⟩
    exact ⟨he, hb⟩
  · intro wc hb
    rcases has_cases h x with ⟨n, rfl, hx⟩ | hx
    · refine (members_yes B b h F n wc (k0.u.below hb) hs hx).mono ?_
      rintro e w' ⟨v, he, ov, hb'⟩
      exact ⟨v, he, below_chain hb hb', by rw [memI_yes hx]; exact Rd.own ov⟩
    · refine (members_no B b h F x wc (k0.u.below hb) hx).mono ?_
      rintro e w' ⟨v, he, ov, hb'⟩
      exact ⟨v, he, below_chain hb hb', by rw [memI_no hx]; exact Rd.own ov⟩
  · intro wc v hb hr
    rcases has_cases h x with ⟨n, rfl, hx⟩ | hx
    · refine (rmem_yes B lv l h n wc (k0.o.below hb) hs hx).mono ?_
      rintro e w' ⟨v2, he, ov, hb'⟩
      have := Rd.own ov
      rw [show fl (isMem h (lab h n)) (nE h) = mem h (R h n) from (mem_lab h k0.u.ok n hx).symm] at this
      exact ⟨v2, he, below_chain hb hb', hr.below hb', by rw [memI_yes hx]; exact this⟩
    · refine (rmem_no B lv l h x wc (k0.o.below hb) hs hx).mono ?_
      rintro e w' ⟨v2, he, ov, hb'⟩
      exact ⟨v2, he, below_chain hb hb', hr.below hb', by rw [memI_no hx]; exact Rd.own ov⟩
  · intro wc v v2 hb h1 h2
    have hl : (memI h x).length ≤ 100000 := by
      rcases has_cases h x with ⟨n, rfl, hx⟩ | hx
      · rw [memI_yes hx, len_ints]; have := mem_len h (R h n); omega
      · rw [memI_no hx]; simp
    refine (rsame_any v v2 _ _ wc h1 h2 hl).mono ?_
    rintro e w' ⟨he, q, rfl⟩
    rw [show eqB (memI h x) (memI h x) = true by simp [eqB]] at he
    exact ⟨he, below_drawn (B := w0.heap.size) (a := w0) (b := wc) hb q⟩
theorem step_look (B b : Nat) (h : List HOp) (F : Nat → Prop) (lv : Value) (l : List ROp) (kd x y : Int) (w : World) (k : Both w B b h F lv l) (hs : h.length ≤ 1000) (h1 : kd ≠ 1) (h2 : kd ≠ 2) (h3 : kd ≠ 3) :
    Calls Try.prog 21 #[.pointer (some ⟨b, 0, none⟩), lv, .agg #[.int .i64 kd, .int .i64 x, .int .i64 y]] w (StepPost w B b h) := by
  have L := looks B b h F lv l x y _ (k.below (below_alloc w (.cells #[.int .i64 kd, .int .i64 x, .int .i64 y] 33))) hs
  have hB := k.u.base
  have e1 : (kd == 1) = false := by rw [beq_eq_false_iff_ne]; exact h1
  have e2 : (kd == 2) = false := by rw [beq_eq_false_iff_ne]; exact h2
  have e3 : (kd == 3) = false := by rw [beq_eq_false_iff_ne]; exact h3
  have fin : ∀ e w', (e = .returned (.tuple #[lv, .bool true]) ∧ Below w.heap.size w w') → StepPost w B b h e w' := by
    rintro e w' ⟨rfl, hb⟩
    exact ⟨lv, l, h, F, rfl, k.below hb, by omega, below_mono hb hB⟩
  obtain ⟨p, c, rfl⟩ := own_shape k.o.own
  rcases has_cases h x with ⟨n, rfl, hx⟩ | hx
  · have hf := find_nat h n hx
    refine (look_pos b p _ c kd n y (findI h) _ _ w e1 e2 e3 (by rw [hf]; omega) ?_ L).mono fin
    rw [hf]
    rcases has_cases h y with ⟨m, rfl, hy⟩ | hy
    · rw [find_nat h m hy, Bool.eq_iff_iff]
      simp only [beq_iff_eq, sameB, decide_eq_true_eq, Int.toNat_natCast]
      have := lab_iff h k.u.ok n m hx hy
      constructor
      · intro e; exact ⟨by omega, by omega, by omega, by omega, this.1 (by omega)⟩
      · intro e; have := this.2 e.2.2.2.2; omega
    · rw [find_no hy]
      have : sameB h n y = false := by simp [sameB]; simp [hasB] at hy; omega
      rw [this, beq_eq_false_iff_ne]; omega
  · have hsb : sameB h x y = false := by simp [sameB]; simp [hasB] at hx; omega
    rw [hsb] at L
    exact (look_neg b p _ c kd x y (findI h) _ w e1 e2 e3 (find_no hx) L).mono fin
theorem step_any (B b : Nat) (h : List HOp) (F : Nat → Prop) (lv : Value) (l : List ROp) (kd x y : Int) (w : World) (k : Both w B b h F lv l) (hs : h.length ≤ 60) :
    Calls Try.prog 21 #[.pointer (some ⟨b, 0, none⟩), lv, .agg #[.int .i64 kd, .int .i64 x, .int .i64 y]] w (StepPost w B b h) := by
  by_cases h1 : kd = 1
  · subst h1; exact step_make B b h F lv l x y w k (by omega)
  by_cases h2 : kd = 2
  · subst h2
    rcases has_cases h x with ⟨n, rfl, hx⟩ | hx
    · rcases has_cases h y with ⟨m, rfl, hy⟩ | hy
      · by_cases he : R h n = R h m
        · exact step_same B b h F lv l n m w k (by omega) hx hy he
        · exact step_join B b h F lv l n m w k (by omega) hx hy he
      · exact step_none B b h F lv l n y w k (by omega) (by rw [hy]; simp)
    · exact step_none B b h F lv l x y w k (by omega) (by rw [hx]; simp)
  by_cases h3 : kd = 3
  · subst h3
    by_cases hx : x < 0 ∨ h.length < x
    · exact step_undo_no B b h F lv l x y w k (by omega) hx
    · obtain ⟨n, rfl⟩ := Int.eq_ofNat_of_zero_le (show 0 ≤ x by omega)
      exact step_undo_yes B b h F lv l n y w k (by omega) (by omega)
  exact step_look B b h F lv l kd x y w k (by omega) h1 h2 h3
end Go.Proofs.Ytihoegihmgeenaa
