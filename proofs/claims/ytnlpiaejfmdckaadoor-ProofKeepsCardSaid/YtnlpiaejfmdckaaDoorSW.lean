/- What Trim and Join keep: pure facts. -/
import Derived.Test.YtnlpiaejfmdckaaDoorSO
import Derived.Test.YtnlpiaejfmdckaaDoorSP
namespace Go.Proofs.YtnlpiaejfmdckaaDoor
set_option linter.unusedVariables false
set_option linter.unusedSimpArgs false
theorem allB_of : ∀ {zs : List Int} {i : Int}, (∀ r ∈ zs, 0 ≤ r ∧ r < i) → allB i zs = true
  | [], i, _ => rfl
  | z :: zs, i, h => by rw [allB_cons, if_pos (h z (by simp))]; exact allB_of fun r hr => h r (by simp [hr])
theorem well_iff {s : S} {i : Nat} : wellB s i = true ↔ okN s = true ∧ ∀ r ∈ s.rf, 0 ≤ r ∧ r < (i : Int) := by
  constructor
  · intro h
    refine ⟨?_, well_mem h⟩
    unfold wellB at h
    split at h
    · assumption
    · cases h
  · rintro ⟨h1, h2⟩
    unfold wellB
    rw [if_pos h1]
    exact allB_of h2
theorem okN_map (s : S) (f : Int → Int) : okN (sMap s f) = okN s := by
  unfold okN sMap
  simp only [List.length_map]
theorem fb_all : ∀ {ss : List S} {i : Nat}, (∀ k (h : k < ss.length), wellB ss[k] (i + k) = true) → fb i ss = (0, 0)
  | [], i, _ => rfl
  | s :: ss, i, h => by
    have h0 : wellB s (i + 0) = true := h 0 (by simp)
    rw [fb_cons, if_pos (show wellB s i = true from h0)]
    exact fb_all fun k hk => by
      have := h (k + 1) (by simpa using hk)
      rw [show i + 1 + k = i + (k + 1) by omega]
      exact this
theorem vld_of {ss : List S} (h1 : ss.length ≤ 65536) (h2 : 0 < ss.length) (h3 : ∀ k (h : k < ss.length), wellB ss[k] k = true) : vld ss = true := by
  unfold vld chk
  rw [if_neg (show ¬ 65536 < ss.length by omega), if_neg (show ¬ ss.length = 0 by omega), fb_all (fun k hk => by rw [Nat.zero_add]; exact h3 k hk)]
  rfl
/-- the step at a number -/
def gd (ss : List S) (a : Int) : S := ss.getD a.toNat s0
theorem gd_at {ss : List S} {k : Nat} (h : k < ss.length) : gd ss (k : Int) = ss[k] := by unfold gd; rw [Int.toNat_natCast, List.getD_eq_getElem?_getD, List.getElem?_eq_getElem h]; rfl
theorem vld_gd {ss : List S} (h : vld ss = true) : ∀ a : Int, 0 ≤ a → a < (ss.length : Int) → okN (gd ss a) = true ∧ ∀ r ∈ (gd ss a).rf, 0 ≤ r ∧ r < a := by
  intro a h0 h1
  obtain ⟨k, rfl⟩ : ∃ k : Nat, a = (k : Int) := ⟨a.toNat, by omega⟩
  have := (vld_ok h).2.2 k (by omega)
  rw [gd_at (by omega)]
  exact well_iff.1 this
/-- why something is needed -/
theorem mkB_why : ∀ (rs : List Int) (nb : List Bool) (j : Nat), (∀ r ∈ rs, 0 ≤ r) → (mkB nb rs).getD j false = true → nb.getD j false = true ∨ (j : Int) ∈ rs
  | [], nb, j, _, h => .inl h
  | r :: rs, nb, j, h0, h => by
    rw [mkB_cons] at h
    rcases mkB_why rs _ j (fun x hx => h0 x (by simp [hx])) h with q | q
    · by_cases e : r.toNat = j
      · have := h0 r (by simp)
        exact .inr (by rw [show (j : Int) = r by omega]; simp)
      · rw [List.getD_eq_getElem?_getD, List.getElem?_set_ne e, ← List.getD_eq_getElem?_getD] at q
        exact .inl q
    · exact .inr (by simp [q])
theorem rB_why (ss : List S) : ∀ (k : Nat) (nb : List Bool) (j : Nat), (∀ i, i < k → ∀ r ∈ rfs ss i, 0 ≤ r ∧ r < (i : Int)) → (rB ss k nb).getD j false = true → nb.getD j false = true ∨ ∃ b, b < k ∧ (rB ss k nb).getD b false = true ∧ (j : Int) ∈ rfs ss b
  | 0, nb, j, _, h => .inl h
  | k + 1, nb, j, hr, h => by
    rw [rB_succ] at h ⊢
    by_cases hb : nb.getD k false = true
    · rw [if_pos hb] at h ⊢
      rcases rB_why ss k _ j (fun i hi => hr i (by omega)) h with q | ⟨b, h1, h2, h3⟩
      · rcases mkB_why _ _ _ (fun r hx => (hr k (by omega) r hx).1) q with q | q
        · exact .inl q
        · exact .inr ⟨k, by omega, rB_mono ss k _ _ (mkB_mono _ _ _ hb), q⟩
      · exact .inr ⟨b, by omega, h2, h3⟩
    · rw [if_neg hb] at h ⊢
      rcases rB_why ss k _ j (fun i hi => hr i (by omega)) h with q | ⟨b, h1, h2, h3⟩
      · exact .inl q
      · exact .inr ⟨b, by omega, h2, h3⟩
theorem ndd_last {ss : List S} (h : vld ss = true) : (ss.length : Int) - 1 ∈ ndd ss := by
  obtain ⟨h1, h2, h3⟩ := vld_ok h
  rw [ndd_flt ss h]
  refine (flt_mem _ _ _).2 ⟨by omega, by omega, ?_⟩
  rw [show ((ss.length : Int) - 1).toNat = ss.length - 1 by omega]
  exact rB_mono ss _ _ _ (by rw [List.getD_eq_getElem?_getD, List.getElem?_set_self (by simp; omega)]; rfl)
theorem ndd_why {ss : List S} (h : vld ss = true) {a : Int} (ha : a ∈ ndd ss) : a = (ss.length : Int) - 1 ∨ ∃ b ∈ ndd ss, a < b ∧ a ∈ (gd ss b).rf := by
  obtain ⟨h1, h2, h3⟩ := vld_ok h
  have hf : ∀ i, i < ss.length → ∀ r ∈ rfs ss i, 0 ≤ r ∧ r < (i : Int) := fun i hi r hr => by
    unfold rfs at hr
    rw [List.getElem?_eq_getElem hi] at hr
    have := h3 i hi
    exact well_mem this r hr
  rw [ndd_flt ss h] at ha ⊢
  obtain ⟨a0, a1, a2⟩ := (flt_mem _ _ _).1 ha
  rcases rB_why ss ss.length _ a.toNat hf a2 with q | ⟨b, b1, b2, b3⟩
  · left
    rw [List.getD_eq_getElem?_getD] at q
    by_cases e : ss.length - 1 = a.toNat
    · omega
    · rw [List.getElem?_set_ne e] at q
      have : a.toNat < ss.length := by omega
      simp [this] at q
  · right
    rw [show ((a.toNat : Nat) : Int) = a by omega] at b3
    have := hf b b1 a b3
    refine ⟨(b : Int), (flt_mem _ _ _).2 ⟨by omega, by omega, by rw [Int.toNat_natCast]; exact b2⟩, this.2, ?_⟩
    rw [gd_at b1]
    unfold rfs at b3
    rw [List.getElem?_eq_getElem b1] at b3
    exact b3
/-- two increasing lists with the same members -/
theorem sorted_ext : ∀ {xs ys : List Int}, xs.Pairwise (· < ·) → ys.Pairwise (· < ·) → (∀ z, z ∈ xs ↔ z ∈ ys) → xs = ys
  | [], [], _, _, _ => rfl
  | [], y :: ys, _, _, h => by have := (h y).2 (by simp); cases this
  | x :: xs, [], _, _, h => by have := (h x).1 (by simp); cases this
  | x :: xs, y :: ys, hx, hy, h => by
    have hx' := List.pairwise_cons.1 hx
    have hy' := List.pairwise_cons.1 hy
    have e : x = y := by
      have h1 := (h x).1 (by simp)
      have h2 := (h y).2 (by simp)
      rcases List.mem_cons.1 h1 with q | q
      · exact q
      · rcases List.mem_cons.1 h2 with r | r
        · exact r.symm
        · have := hx'.1 y r; have := hy'.1 x q; omega
    subst e
    rw [sorted_ext hx'.2 hy'.2 fun z => ?_]
    constructor
    · intro hz
      have := hx'.1 z hz
      rcases List.mem_cons.1 ((h z).1 (by simp [hz])) with q | q
      · omega
      · exact q
    · intro hz
      have := hy'.1 z hz
      rcases List.mem_cons.1 ((h z).2 (by simp [hz])) with q | q
      · omega
      · exact q
/-- the depth of a step -/
def dp (ss : List S) (k : Nat) : Int := (dps [] ss).getD k 0
theorem dps_pre : ∀ (ss : List S) (acc : List Int) (k : Nat), k < acc.length → (dps acc ss).getD k 0 = acc.getD k 0
  | [], acc, k, _ => rfl
  | s :: ss, acc, k, h => by
    rw [dps_cons, dps_pre ss _ k (by simp; omega), List.getD_eq_getElem?_getD, List.getElem?_append_left h, ← List.getD_eq_getElem?_getD]
theorem dpR_congr {xs ys : List Int} (f : Int → Int) : ∀ (rs : List Int) (m : Int), (∀ r ∈ rs, xs.getD r.toNat 0 = ys.getD (f r).toNat 0) → dpR xs m rs = dpR ys m (rs.map f)
  | [], m, _ => rfl
  | r :: rs, m, h => by
    rw [List.map_cons, dpR_cons, dpR_cons, h r (by simp)]
    exact dpR_congr f rs _ fun x hx => h x (by simp [hx])
theorem dps_at : ∀ (ss : List S) (acc : List Int) (k : Nat) (h : k < ss.length), (∀ i (h : i < ss.length), ∀ r ∈ ss[i].rf, 0 ≤ r ∧ r < ((acc.length + i : Nat) : Int)) → (dps acc ss).getD (acc.length + k) 0 = dpR (dps acc ss) 0 ss[k].rf + 1
  | s :: ss, acc, 0, h, hr => by
    rw [dps_cons, Nat.add_zero, dps_pre ss _ acc.length (by simp), List.getD_eq_getElem?_getD, List.getElem?_append_right (Nat.le_refl _), Nat.sub_self]
    show dpR acc 0 s.rf + 1 = _
    have h0 : ∀ r ∈ s.rf, 0 ≤ r ∧ r < ((acc.length + 0 : Nat) : Int) := hr 0 (by simp)
    have := dpR_congr (xs := acc) (ys := dps (acc ++ [dpR acc 0 s.rf + 1]) ss) (fun r => r) s.rf 0 (fun r hx => by
      have := h0 r hx
      rw [dps_pre ss _ r.toNat (by simp; omega), List.getD_eq_getElem?_getD, List.getD_eq_getElem?_getD, List.getElem?_append_left (by omega)])
    rw [List.map_id'] at this
    exact congrArg (· + 1) this
  | s :: ss, acc, k + 1, h, hr => by
    have hk : k < ss.length := by simpa using h
    have := dps_at ss (acc ++ [dpR acc 0 s.rf + 1]) k hk (fun i hi r hx => by
      have := hr (i + 1) (by simpa using hi) r hx
      rw [List.length_append, List.length_singleton]
      omega)
    rw [List.length_append, List.length_singleton, show acc.length + 1 + k = acc.length + (k + 1) by omega] at this
    rw [dps_cons]
    exact this
theorem dp_at {ss : List S} (h : vld ss = true) {k : Nat} (hk : k < ss.length) : dp ss k = dpR (dps [] ss) 0 ss[k].rf + 1 := by
  have := dps_at ss [] k hk (fun i hi r hr => by
    have := well_mem ((vld_ok h).2.2 i hi) r hr
    simpa using this)
  simpa [dp] using this
theorem dpt_dp {ss : List S} (h : vld ss = true) : dpt ss = dp ss (ss.length - 1) := by
  unfold dpt dp
  rw [if_pos h]
/-- depths agree along a map of the steps -/
theorem dp_map {ss tt : List S} (hs : vld ss = true) (ht : vld tt = true) (F : Int → Int) (G : Nat → Prop)
    (h : ∀ k, k < ss.length → G k → 0 ≤ F k ∧ F k < (tt.length : Int) ∧ (gd tt (F k)).rf = (gd ss k).rf.map F ∧ ∀ r ∈ (gd ss k).rf, G r.toNat) : ∀ k, k < ss.length → G k → dp tt (F k).toNat = dp ss k := by
  intro k
  induction k using Nat.strongRecOn with
  | ind k ih =>
    intro hk hG
    obtain ⟨f0, f1, f2, f3⟩ := h k hk hG
    obtain ⟨m, hm⟩ : ∃ m : Nat, F k = (m : Int) := ⟨(F k).toNat, by omega⟩
    have hml : m < tt.length := by omega
    rw [hm] at f2 ⊢
    rw [gd_at hml, gd_at hk] at f2
    rw [gd_at hk] at f3
    rw [Int.toNat_natCast, dp_at ht hml, dp_at hs hk, f2]
    congr 1
    refine (dpR_congr F _ _ fun r hr => ?_).symm
    have hw := well_mem ((vld_ok hs).2.2 k hk) r hr
    have := ih r.toNat (by omega) (by omega) (f3 r hr)
    rw [show ((r.toNat : Nat) : Int) = r by omega] at this
    exact this.symm
end Go.Proofs.YtnlpiaejfmdckaaDoor
