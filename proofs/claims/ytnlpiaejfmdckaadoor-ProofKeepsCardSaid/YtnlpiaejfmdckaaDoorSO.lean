/- Trim: the program's places are the positions in the list of what is needed. -/
import Derived.Test.YtnlpiaejfmdckaaDoorSN
import Derived.Test.YtnlpiaejfmdckaaDoorM
namespace Go.Proofs.YtnlpiaejfmdckaaDoor
set_option linter.unusedVariables false
set_option linter.unusedSimpArgs false
theorem lsN_app (x : Int) : ∀ (xs bs : List Int), lsN x (xs ++ bs) = lsN x xs + lsN x bs
  | [], bs => by rw [List.nil_append, show lsN x [] = 0 from rfl, Nat.zero_add]
  | a :: xs, bs => by rw [List.cons_append, lsN_cons, lsN_cons, lsN_app x xs bs]; omega
theorem lsN_all (x : Int) : ∀ (xs : List Int), (∀ a ∈ xs, a < x) → lsN x xs = xs.length
  | [], _ => rfl
  | a :: xs, h => by rw [lsN_cons, if_pos (h a (by simp)), lsN_all x xs (fun b hb => h b (by simp [hb])), List.length_cons]; omega
theorem lsN_none (x : Int) : ∀ (xs : List Int), (∀ a ∈ xs, ¬ a < x) → lsN x xs = 0
  | [], _ => rfl
  | a :: xs, h => by rw [lsN_cons, if_neg (h a (by simp)), lsN_none x xs (fun b hb => h b (by simp [hb]))]
theorem lsN_at {pre l : List Int} {a : Int} (h : (pre ++ a :: l).Pairwise (· < ·)) : lsN a (pre ++ a :: l) = pre.length := by
  have h1 := List.pairwise_append.1 h
  have h2 := List.pairwise_cons.1 h1.2.1
  rw [lsN_app, lsN_all a pre (fun z hz => h1.2.2 z hz a (by simp)), lsN_none a (a :: l) (fun z hz => by
    rcases List.mem_cons.1 hz with rfl | hz
    · exact Int.lt_irrefl _
    · have := h2.1 z hz; omega)]
  rfl
def tG (ss : List S) (L : List Int) (a : Int) : S := sMap (ss.getD a.toNat s0) (fun r => (lsN r L : Int))
theorem sMap_congr {s : S} {f g : Int → Int} (h : ∀ r ∈ s.rf, f r = g r) : sMap s f = sMap s g := by
  unfold sMap; rw [List.map_congr_left h]
theorem trP_run (ss : List S) (L : List Int) (hs : L.Pairwise (· < ·)) (hb : ∀ a ∈ L, 0 ≤ a ∧ a < (ss.length : Int)) (hc : ∀ a ∈ L, ∀ r ∈ (ss.getD a.toNat s0).rf, r ∈ L ∧ r < a) :
    ∀ (l pre pa : List Int), L = pre ++ l → pa.length = ss.length → (∀ x ∈ pre, pa.getD x.toNat 0 = (lsN x L : Int)) → trP ss l pa (pre.map (tG ss L)) = L.map (tG ss L)
  | [], pre, pa, e, _, _ => by
    rw [List.append_nil] at e
    subst e
    rfl
  | a :: l, pre, pa, e, hpl, hp => by
    have hs' := hs
    rw [e] at hs'
    have h1 := List.pairwise_append.1 hs'
    have h2 := List.pairwise_cons.1 h1.2.1
    have hm : a ∈ L := by rw [e]; simp
    have ha := hb a hm
    have hl : lsN a L = pre.length := by rw [e]; exact lsN_at hs'
    have hset : ∀ x ∈ pre, (pa.set a.toNat (pre.length : Int)).getD x.toNat 0 = (lsN x L : Int) := fun x hx => by
      have hx0 := hb x (by rw [e]; simp [hx])
      have hlt := h1.2.2 x hx a (by simp)
      rw [List.getD_eq_getElem?_getD, List.getElem?_set_ne (by omega), ← List.getD_eq_getElem?_getD]
      exact hp x hx
    have hself : (pa.set a.toNat (pre.length : Int)).getD a.toNat 0 = (lsN a L : Int) := by
      rw [List.getD_eq_getElem?_getD, List.getElem?_set_self (by omega), hl]; rfl
    rw [trP_cons, List.length_map]
    have hg : sMap (ss.getD a.toNat s0) (fun r => (pa.set a.toNat (pre.length : Int)).getD r.toNat 0) = tG ss L a := sMap_congr fun r hr => by
      obtain ⟨hrL, hra⟩ := hc a hm r hr
      rw [e] at hrL
      rcases List.mem_append.1 hrL with q | q
      · exact hset r q
      · rcases List.mem_cons.1 q with rfl | q
        · omega
        · have := h2.1 r q; omega
    rw [hg, show pre.map (tG ss L) ++ [tG ss L a] = (pre ++ [a]).map (tG ss L) from by simp]
    refine trP_run ss L hs hb hc l (pre ++ [a]) _ (by rw [e]; simp) (by rw [List.length_set]; exact hpl) fun x hx => ?_
    rcases List.mem_append.1 hx with q | q
    · exact hset x q
    · rw [List.mem_singleton.1 q]; exact hself
/-! what is marked -/
theorem mkB_mono : ∀ (rs : List Int) (nb : List Bool) (j : Nat), nb.getD j false = true → (mkB nb rs).getD j false = true
  | [], nb, j, h => h
  | r :: rs, nb, j, h => by
    rw [mkB_cons]
    refine mkB_mono rs _ j ?_
    rw [List.getD_eq_getElem?_getD] at h ⊢
    by_cases e : r.toNat = j
    · subst e
      have hlt : r.toNat < nb.length := by
        rcases Nat.lt_or_ge r.toNat nb.length with q | q
        · exact q
        · rw [List.getElem?_eq_none q] at h; cases h
      rw [List.getElem?_set_self hlt]; rfl
    · rw [List.getElem?_set_ne e]; exact h
theorem mkB_mem : ∀ (rs : List Int) (nb : List Bool), (∀ r ∈ rs, r.toNat < nb.length) → ∀ r ∈ rs, (mkB nb rs).getD r.toNat false = true
  | [], nb, _, r, hr => by cases hr
  | x :: rs, nb, h, r, hr => by
    rw [mkB_cons]
    rcases List.mem_cons.1 hr with rfl | hr
    · exact mkB_mono rs _ _ (by rw [List.getD_eq_getElem?_getD, List.getElem?_set_self (h r (by simp))]; rfl)
    · exact mkB_mem rs _ (fun y hy => by rw [List.length_set]; exact h y (by simp [hy])) r hr
theorem rB_mono (ss : List S) : ∀ (k : Nat) (nb : List Bool) (j : Nat), nb.getD j false = true → (rB ss k nb).getD j false = true
  | 0, nb, j, h => h
  | k + 1, nb, j, h => by
    rw [rB_succ]
    refine rB_mono ss k _ j ?_
    split
    · exact mkB_mono _ _ _ h
    · exact h
theorem rB_closed (ss : List S) : ∀ (k : Nat) (nb : List Bool), (∀ i, i < k → ∀ r ∈ rfs ss i, 0 ≤ r ∧ r < (i : Int)) → k ≤ nb.length → ∀ j, j < k → (rB ss k nb).getD j false = true → ∀ r ∈ rfs ss j, (rB ss k nb).getD r.toNat false = true
  | 0, nb, _, _, j, hj, _, _, _ => by omega
  | k + 1, nb, h, hl, j, hj, hm, r, hr => by
    rw [rB_succ] at hm ⊢
    by_cases e : j = k
    · subst e
      rw [rB_at ss j _ j (fun i hi => h i (by omega)) (Nat.le_refl _)] at hm
      by_cases hb : nb.getD j false = true
      · rw [if_pos hb] at hm ⊢
        exact rB_mono ss j _ _ (mkB_mem _ _ (fun y hy => by have := h j (by omega) y hy; omega) r hr)
      · rw [if_neg hb] at hm; exact absurd hm hb
    · refine rB_closed ss k _ (fun i hi => h i (by omega)) ?_ j (by omega) hm r hr
      split
      · rw [mkB_len]; omega
      · omega
theorem flt_mem (nb : List Bool) : ∀ (k : Nat) (a : Int), a ∈ flt nb k ↔ 0 ≤ a ∧ a < (k : Int) ∧ nb.getD a.toNat false = true
  | 0, a => by
    constructor
    · intro h; cases h
    · rintro ⟨h1, h2, _⟩; omega
  | k + 1, a => by
    rw [flt_succ, List.mem_append, flt_mem nb k a]
    constructor
    · rintro (⟨h1, h2, h3⟩ | h)
      · exact ⟨h1, by omega, h3⟩
      · split at h
        · rename_i hb
          rw [List.mem_singleton.1 h]
          exact ⟨by omega, by omega, by rw [Int.toNat_natCast]; exact hb⟩
        · cases h
    · rintro ⟨h1, h2, h3⟩
      by_cases e : a < (k : Int)
      · exact .inl ⟨h1, e, h3⟩
      · obtain rfl : a = (k : Int) := by omega
        rw [Int.toNat_natCast] at h3
        rw [if_pos h3]
        exact .inr (by simp)
theorem flt_sorted (nb : List Bool) : ∀ (k : Nat), (flt nb k).Pairwise (· < ·)
  | 0 => List.Pairwise.nil
  | k + 1 => by
    rw [flt_succ, List.pairwise_append]
    refine ⟨flt_sorted nb k, ?_, fun a ha b hb => ?_⟩
    · split
      · exact List.pairwise_singleton _ _
      · exact List.Pairwise.nil
    · have := (flt_mem nb k a).1 ha
      split at hb
      · rw [List.mem_singleton.1 hb]; omega
      · cases hb
theorem ndd_facts (ss : List S) (h : vld ss = true) : (ndd ss).Pairwise (· < ·) ∧ (∀ a ∈ ndd ss, 0 ≤ a ∧ a < (ss.length : Int)) ∧ (∀ a ∈ ndd ss, ∀ r ∈ (ss.getD a.toNat s0).rf, r ∈ ndd ss ∧ r < a) ∧ 0 < (ndd ss).length := by
  obtain ⟨h1, h2, h3⟩ := vld_ok h
  have hf : ∀ i, i < ss.length → ∀ r ∈ rfs ss i, 0 ≤ r ∧ r < (i : Int) := fun i hi r hr => by
    unfold rfs at hr
    rw [List.getElem?_eq_getElem hi] at hr
    have := h3 i hi
    exact well_mem this r hr
  rw [ndd_flt ss h]
  obtain ⟨nb0, hnb⟩ : ∃ nb0, nb0 = (List.replicate ss.length false).set (ss.length - 1) true := ⟨_, rfl⟩
  rw [← hnb]
  have hl : nb0.length = ss.length := by rw [hnb]; simp
  have hlast : nb0.getD (ss.length - 1) false = true := by rw [hnb, List.getD_eq_getElem?_getD, List.getElem?_set_self (by simp; omega)]; rfl
  refine ⟨flt_sorted _ _, fun a ha => by have := (flt_mem _ _ a).1 ha; omega, fun a ha r hr => ?_, ?_⟩
  · obtain ⟨a0, a1, a2⟩ := (flt_mem _ _ a).1 ha
    have hr' : r ∈ rfs ss a.toNat := by
      unfold rfs
      rw [List.getD_eq_getElem?_getD, List.getElem?_eq_getElem (by omega)] at hr
      rw [List.getElem?_eq_getElem (by omega)]
      exact hr
    have hb := hf a.toNat (by omega) r hr'
    refine ⟨(flt_mem _ _ r).2 ⟨hb.1, by omega, ?_⟩, by omega⟩
    exact rB_closed ss ss.length nb0 hf (by omega) a.toNat (by omega) a2 r hr'
  · have : (((ss.length - 1 : Nat)) : Int) ∈ flt (rB ss ss.length nb0) ss.length := (flt_mem _ _ _).2 ⟨by omega, by omega, by rw [Int.toNat_natCast]; exact rB_mono ss _ _ _ hlast⟩
    exact List.length_pos_of_mem this
theorem trm_eq (ss : List S) (h : vld ss = true) : trm ss = (ndd ss).map (tG ss (ndd ss)) := by
  obtain ⟨h1, h2, h3, h4⟩ := ndd_facts ss h
  unfold trm
  rw [if_pos h]
  exact trP_run ss (ndd ss) h1 h2 h3 (ndd ss) [] _ rfl (by simp) (fun x hx => by cases hx)
theorem shS_zero (s : S) : shS 0 s = s := by
  unfold shS sMap
  rw [show (fun r : Int => r + 0) = id from by funext r; simp, List.map_id]
theorem trm_no (ss : List S) (h : vld ss = false) : trm ss = ss := by
  unfold trm
  rw [if_neg (by rw [h]; decide)]
  exact (List.map_congr_left (fun s _ => shS_zero s)).trans (List.map_id' ss)
theorem okQ_map {s : S} {f : Int → Int} (h : okQ s) : okQ (sMap s f) := ⟨by show (s.rf.map f).length ≤ _; rw [List.length_map]; exact h.1, h.2⟩
theorem trm_ok (ss : List S) (hok : ∀ s ∈ ss, okQ s) : ∀ s ∈ trm ss, okQ s := by
  cases h : vld ss with
  | false => rw [trm_no ss h]; exact hok
  | true =>
    obtain ⟨h1, h2, h3, h4⟩ := ndd_facts ss h
    rw [trm_eq ss h]
    intro s hs
    obtain ⟨a, ha, rfl⟩ := List.mem_map.1 hs
    have := h2 a ha
    refine okQ_map ?_
    rw [List.getD_eq_getElem?_getD, List.getElem?_eq_getElem (by omega)]
    exact hok _ (List.getElem_mem _)
theorem trm_len (ss : List S) : (trm ss).length ≤ ss.length := by
  cases h : vld ss with
  | false => rw [trm_no ss h]; exact Nat.le_refl _
  | true => rw [trm_eq ss h, List.length_map]; exact ndd_len ss
end Go.Proofs.YtnlpiaejfmdckaaDoor
