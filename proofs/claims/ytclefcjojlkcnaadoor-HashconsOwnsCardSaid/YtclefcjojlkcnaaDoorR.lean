/- A key determines its node: the pure part. -/
import Derived.Test.YtclefcjojlkcnaaDoorC
namespace Go.Proofs.YtclefcjojlkcnaaDoor
/-- what digits denote -/
def dv : List UInt8 → Nat → Nat
  | [], a => a
  | c :: l, a => dv l (10 * a + (c.toNat - 48))
theorem dv_app (l m : List UInt8) : ∀ a, dv (l ++ m) a = dv m (dv l a) := by
  induction l with
  | nil => intro a; rfl
  | cons c l ih => intro a; exact ih _
theorem dg_nat {i : Nat} (h : i < 10) : (UInt8.ofNat (48 + i)).toNat = 48 + i := by
  rw [UInt8.toNat_ofNat']; omega
theorem dv_dec (u : Nat) : dv (Lib.decDigits u) 0 = u := by
  induction u using Nat.strongRecOn with
  | _ u ih =>
    by_cases h : u < 10
    · rw [Lib.decDigits, dif_pos h]
      show 10 * 0 + ((UInt8.ofNat (48 + u)).toNat - 48) = u
      rw [dg_nat h]; omega
    · rw [Lib.decDigits, dif_neg h, dv_app, ih _ (by omega)]
      show 10 * (u / 10) + ((UInt8.ofNat (48 + u % 10)).toNat - 48) = u
      rw [dg_nat (by omega)]; omega
theorem dec_inj {u v : Nat} (h : Lib.decDigits u = Lib.decDigits v) : u = v := by
  rw [← dv_dec u, h, dv_dec]
theorem dec_mem (u : Nat) : ∀ c ∈ Lib.decDigits u, 48 ≤ c.toNat := by
  induction u using Nat.strongRecOn with
  | _ u ih =>
    intro c hc
    by_cases h : u < 10
    · rw [Lib.decDigits, dif_pos h] at hc
      simp only [List.mem_singleton] at hc
      rw [hc, dg_nat h]; omega
    · rw [Lib.decDigits, dif_neg h] at hc
      rcases List.mem_append.1 hc with hc | hc
      · exact ih _ (by omega) c hc
      · simp only [List.mem_singleton] at hc
        rw [hc, dg_nat (by omega)]; omega
theorem itoa_mem (n : Int) : ∀ c ∈ Lib.itoa n, c ≠ 32 := by
  intro c hc e
  subst e
  unfold Lib.itoa at hc
  split at hc
  · rcases List.mem_cons.1 hc with hc | hc
    · exact absurd hc (by decide)
    · exact absurd (dec_mem _ _ hc) (by decide)
  · exact absurd (dec_mem _ _ hc) (by decide)
theorem dec_mem' (u : Nat) : ∀ c ∈ Lib.decDigits u, c ≠ 32 := by
  intro c hc e
  subst e
  exact absurd (dec_mem _ _ hc) (by decide)
theorem itoa_inj {n m : Int} (h : Lib.itoa n = Lib.itoa m) : n = m := by
  have ne : ∀ u v l, Lib.decDigits u ≠ 45 :: Lib.decDigits v ++ l := by
    intro u v l e
    have := dec_mem u 45 (by rw [e]; simp)
    exact absurd this (by decide)
  unfold Lib.itoa at h
  split at h <;> split at h
  · have := dec_inj (List.cons.inj h).2
    omega
  · exact absurd h.symm (by simpa using ne _ _ [])
  · exact absurd h (by simpa using ne _ _ [])
  · have := dec_inj h
    omega
/-- the first blank -/
theorem cut32 : ∀ {l m r s : List UInt8}, (∀ c ∈ l, c ≠ 32) → (∀ c ∈ m, c ≠ 32) → l ++ 32 :: r = m ++ 32 :: s → l = m ∧ r = s
  | [], [], r, s, _, _, h => ⟨rfl, (List.cons.inj h).2⟩
  | [], d :: m, r, s, _, hm, h => absurd (List.cons.inj h).1.symm (hm d (by simp))
  | c :: l, [], r, s, hl, _, h => absurd (List.cons.inj h).1 (hl c (by simp))
  | c :: l, d :: m, r, s, hl, hm, h => by
    obtain ⟨h1, h2⟩ := List.cons.inj h
    obtain ⟨h3, h4⟩ := cut32 (fun c hc => hl c (by simp [hc])) (fun c hc => hm c (by simp [hc])) h2
    exact ⟨by rw [h1, h3], h4⟩
/-- the same from the front -/
def fl : List Int → List UInt8
  | [] => []
  | z :: l => 32 :: Lib.itoa z ++ fl l
theorem fl_app (l m : List Int) : fl (l ++ m) = fl l ++ fl m := by
  induction l with
  | nil => rfl
  | cons z l ih => show 32 :: Lib.itoa z ++ fl (l ++ m) = _; rw [ih]; simp [fl]
theorem flat_fl (zs : List Int) : ∀ k, k ≤ zs.length → flat zs k = fl (zs.take k) := by
  intro k
  induction k with
  | zero => intro _; simp [flat, fl]
  | succ k ih =>
    intro h
    rw [flat_succ, ih (by omega), List.take_succ_eq_append_getElem (by omega), fl_app]
    have : zs.getD k 0 = zs[k] := by simp [List.getD_eq_getElem?_getD, show k < zs.length by omega]
    rw [this]
    simp [fl]
theorem fl_inj : ∀ {l m : List Int} {r s : List UInt8}, l.length = m.length → fl l ++ 32 :: r = fl m ++ 32 :: s → l = m ∧ r = s
  | [], [], r, s, _, h => ⟨rfl, (List.cons.inj h).2⟩
  | [], _ :: _, r, s, hl, h => by simp at hl
  | _ :: _, [], r, s, hl, h => by simp at hl
  | z :: l, y :: m, r, s, hl, h => by
    have h2 := (List.cons.inj (show 32 :: (Lib.itoa z ++ fl l ++ 32 :: r) = 32 :: (Lib.itoa y ++ fl m ++ 32 :: s) from by simpa [fl] using h)).2
    have nf : ∀ (l : List Int) (r : List UInt8), ∃ t, fl l ++ 32 :: r = 32 :: t := fun l r => by
      cases l with
      | nil => exact ⟨r, rfl⟩
      | cons a l => exact ⟨Lib.itoa a ++ fl l ++ 32 :: r, by simp [fl]⟩
    obtain ⟨t, ht⟩ := nf l r
    obtain ⟨t', ht'⟩ := nf m s
    rw [List.append_assoc, List.append_assoc, ht, ht'] at h2
    obtain ⟨e1, e2⟩ := cut32 (itoa_mem z) (itoa_mem y) h2
    have h3 : fl l ++ 32 :: r = fl m ++ 32 :: s := by rw [ht, ht', e2]
    obtain ⟨e3, e4⟩ := fl_inj (by simpa using hl) h3
    exact ⟨by rw [itoa_inj e1, e3], e4⟩
theorem key_inj {op wd op' wd' : Int} {vl vl' : Nat} {nm nm' : ByteArray} {zs ys : List Int} (h : keyL op wd vl nm zs = keyL op' wd' vl' nm' ys) : op = op' ∧ wd = wd' ∧ vl = vl' ∧ nm = nm' ∧ zs = ys := by
  unfold keyL headL at h
  rw [flat_fl _ _ (Nat.le_refl _), flat_fl _ _ (Nat.le_refl _), List.take_length, List.take_length] at h
  have h1 : Lib.itoa op ++ 32 :: (Lib.itoa wd ++ 32 :: (Lib.decDigits vl ++ 32 :: (Lib.itoa zs.length ++ (fl zs ++ 32 :: nm.data.toList)))) = Lib.itoa op' ++ 32 :: (Lib.itoa wd' ++ 32 :: (Lib.decDigits vl' ++ 32 :: (Lib.itoa ys.length ++ (fl ys ++ 32 :: nm'.data.toList)))) := by simpa using h
  obtain ⟨e1, h2⟩ := cut32 (itoa_mem _) (itoa_mem _) h1
  obtain ⟨e2, h3⟩ := cut32 (itoa_mem _) (itoa_mem _) h2
  obtain ⟨e3, h4⟩ := cut32 (dec_mem' _) (dec_mem' _) h3
  have nf : ∀ (l : List Int) (r : List UInt8), ∃ t, fl l ++ 32 :: r = 32 :: t := fun l r => by
    cases l with
    | nil => exact ⟨r, rfl⟩
    | cons a l => exact ⟨Lib.itoa a ++ fl l ++ 32 :: r, by simp [fl]⟩
  obtain ⟨t, ht⟩ := nf zs nm.data.toList
  obtain ⟨t', ht'⟩ := nf ys nm'.data.toList
  rw [ht, ht'] at h4
  obtain ⟨e4, e5⟩ := cut32 (itoa_mem _) (itoa_mem _) h4
  have hlen : zs.length = ys.length := by have := itoa_inj e4; omega
  obtain ⟨e6, e7⟩ := fl_inj hlen (by rw [ht, ht', e5])
  refine ⟨itoa_inj e1, itoa_inj e2, dec_inj e3, ?_, e6⟩
  obtain ⟨⟨d⟩⟩ := nm
  obtain ⟨⟨d'⟩⟩ := nm'
  simp at e7
  rw [e7]
end Go.Proofs.YtclefcjojlkcnaaDoor
