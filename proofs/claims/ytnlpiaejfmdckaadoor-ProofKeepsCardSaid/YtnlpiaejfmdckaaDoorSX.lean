/- What Trim and Join keep: the trimmed proof, the joined proof. -/
import Derived.Test.YtnlpiaejfmdckaaDoorSW
namespace Go.Proofs.YtnlpiaejfmdckaaDoor
open Go.RowKit
set_option linter.unusedVariables false
set_option linter.unusedSimpArgs false
theorem lsN_idx {L : List Int} (hs : L.Pairwise (· < ·)) {j : Nat} (h : j < L.length) : lsN L[j] L = j := by
  have e : L.take j ++ L[j] :: L.drop (j + 1) = L := by
    rw [← List.drop_eq_getElem_cons h, List.take_append_drop]
  have := lsN_at (pre := L.take j) (l := L.drop (j + 1)) (a := L[j]) (by rw [e]; exact hs)
  rw [e] at this
  rw [this, List.length_take]
  omega
theorem idx_lt {L : List Int} (hs : L.Pairwise (· < ·)) {i j : Nat} (hi : i < L.length) (hj : j < L.length) (h : L[i] < L[j]) : i < j := by
  rcases Nat.lt_or_ge i j with q | q
  · exact q
  · rcases Nat.eq_or_lt_of_le q with e | q
    · subst e; omega
    · have := (List.pairwise_iff_getElem.1 hs) j i hj hi q; omega
theorem idx_of {L : List Int} {r : Int} (h : r ∈ L) : ∃ (j : Nat) (hj : j < L.length), L[j] = r := by
  obtain ⟨j, hj, e⟩ := List.mem_iff_getElem.1 h
  exact ⟨j, hj, e⟩
theorem sMap_self {s : S} {f : Int → Int} (h : ∀ r ∈ s.rf, f r = r) : sMap s f = s := by
  unfold sMap
  rw [List.map_congr_left (g := fun r => r) h, List.map_id']
section trim
variable {ss : List S} (h : vld ss = true)
include h
theorem t_gd {k : Nat} (hk : k < (ndd ss).length) : gd (trm ss) (k : Int) = sMap (gd ss (ndd ss)[k]) (fun r => (lsN r (ndd ss) : Int)) := by
  have hl : (trm ss).length = (ndd ss).length := by rw [trm_eq ss h, List.length_map]
  rw [gd_at (by omega)]
  simp only [trm_eq ss h, List.getElem_map]
  rfl
theorem t_ref {k : Nat} (hk : k < (ndd ss).length) : ∀ r ∈ (gd ss (ndd ss)[k]).rf, ∃ (j : Nat) (hj : j < (ndd ss).length), (ndd ss)[j] = r ∧ lsN r (ndd ss) = j ∧ j < k := by
  obtain ⟨n1, n2, n3, n4⟩ := ndd_facts ss h
  intro r hr
  obtain ⟨m1, m2⟩ := n3 _ (List.getElem_mem hk) r hr
  obtain ⟨j, hj, e⟩ := idx_of m1
  refine ⟨j, hj, e, by rw [← e]; exact lsN_idx n1 hj, idx_lt n1 hj hk (by rw [e]; exact m2)⟩
theorem t_vld : vld (trm ss) = true := by
  have hl : (trm ss).length = (ndd ss).length := by rw [trm_eq ss h, List.length_map]
  obtain ⟨n1, n2, n3, n4⟩ := ndd_facts ss h
  refine vld_of (by have := ndd_len ss; have := (vld_ok h).1; omega) (by omega) fun k hk => ?_
  rw [← gd_at hk, t_gd h (by omega), well_iff, okN_map]
  have hb := n2 _ (List.getElem_mem (show k < (ndd ss).length by omega))
  refine ⟨(vld_gd h _ hb.1 hb.2).1, fun r hr => ?_⟩
  obtain ⟨x, hx, rfl⟩ := List.mem_map.1 hr
  obtain ⟨j, hj, e1, e2, e3⟩ := t_ref h (by omega) x hx
  rw [e2]
  omega
theorem t_all : ∀ (d i : Nat), i + d + 1 = (ndd ss).length → (i : Int) ∈ ndd (trm ss) := by
  have hl : (trm ss).length = (ndd ss).length := by rw [trm_eq ss h, List.length_map]
  have tv := t_vld h
  obtain ⟨n1, n2, n3, n4⟩ := ndd_facts ss h
  intro d
  induction d using Nat.strongRecOn with
  | ind d ih =>
    intro i hi
    by_cases hd : d = 0
    · have := ndd_last tv
      rw [hl] at this
      rwa [show (((ndd ss).length : Nat) : Int) - 1 = (i : Int) by omega] at this
    · have hil : i < (ndd ss).length := by omega
      rcases ndd_why h (List.getElem_mem hil) with e | ⟨b, hb, hlt, hm⟩
      · have h2 := (List.pairwise_iff_getElem.1 n1) i (i + 1) hil (by omega) (by omega)
        have h3 := n2 _ (List.getElem_mem (show i + 1 < (ndd ss).length by omega))
        omega
      · obtain ⟨j, hj, rfl⟩ := idx_of hb
        have hij := idx_lt n1 hil hj hlt
        have hjm := ih ((ndd ss).length - 1 - j) (by omega) j (by omega)
        have hr : (i : Int) ∈ (gd (trm ss) (j : Int)).rf := by
          rw [t_gd h hj]
          refine List.mem_map.2 ⟨_, hm, ?_⟩
          rw [lsN_idx n1 hil]
        exact ((ndd_facts _ tv).2.2.1 _ hjm _ hr).1
theorem t_ndd : ndd (trm ss) = (List.range (ndd ss).length).map (fun i : Nat => (i : Int)) := by
  have hl : (trm ss).length = (ndd ss).length := by rw [trm_eq ss h, List.length_map]
  obtain ⟨n1, n2, n3, n4⟩ := ndd_facts _ (t_vld h)
  refine sorted_ext n1 ?_ fun z => ?_
  · rw [List.pairwise_map]
    exact List.Pairwise.imp (fun h => by omega) List.pairwise_lt_range
  · constructor
    · intro hz
      have := n2 z hz
      exact List.mem_map.2 ⟨z.toNat, List.mem_range.2 (by omega), by omega⟩
    · intro hz
      obtain ⟨i, hi, rfl⟩ := List.mem_map.1 hz
      have := List.mem_range.1 hi
      exact t_all h ((ndd ss).length - 1 - i) i (by omega)
theorem t_len : (ndd (trm ss)).length = (trm ss).length := by
  rw [t_ndd h, List.length_map, List.length_range, trm_eq ss h, List.length_map]
theorem t_idem : trm (trm ss) = trm ss := by
  have hl : (trm ss).length = (ndd ss).length := by rw [trm_eq ss h, List.length_map]
  have tv := t_vld h
  rw [trm_eq _ tv]
  have hn := t_ndd h
  have hs := (ndd_facts _ tv).1
  refine List.ext_getElem (by rw [List.length_map, t_len h]) fun k h1 h2 => ?_
  rw [List.getElem_map]
  have hk : (ndd (trm ss))[k]'(by simpa using h1) = (k : Int) := by simp [hn]
  rw [hk]
  show sMap (gd (trm ss) (k : Int)) _ = _
  rw [gd_at h2]
  refine sMap_self fun r hr => ?_
  have := well_mem ((vld_ok tv).2.2 k h2) r hr
  have hj : r.toNat < (ndd (trm ss)).length := by rw [t_len h]; omega
  have e : (ndd (trm ss))[r.toNat] = r := by simp [hn]; omega
  have := lsN_idx hs hj
  rw [e] at this
  omega
theorem t_dpt : dpt (trm ss) = dpt ss := by
  have hl : (trm ss).length = (ndd ss).length := by rw [trm_eq ss h, List.length_map]
  have tv := t_vld h
  obtain ⟨n1, n2, n3, n4⟩ := ndd_facts ss h
  rw [dpt_dp tv, dpt_dp h]
  have key := dp_map tv h (fun r => (ndd ss).getD r.toNat 0) (fun _ => True) (fun k hk _ => by
    have hk' : k < (ndd ss).length := by omega
    have e : (ndd ss).getD ((k : Int)).toNat 0 = (ndd ss)[k] := by rw [Int.toNat_natCast, List.getD_eq_getElem?_getD, List.getElem?_eq_getElem hk']; rfl
    simp only [e]
    have hb := n2 _ (List.getElem_mem hk')
    refine ⟨hb.1, hb.2, ?_, fun _ _ => trivial⟩
    rw [t_gd h hk']
    show _ = ((gd ss (ndd ss)[k]).rf.map _).map _
    rw [List.map_map]
    refine (List.map_id' _).symm.trans (List.map_congr_left fun r hr => ?_)
    obtain ⟨j, hj, e1, e2, e3⟩ := t_ref h hk' r hr
    show r = (ndd ss).getD (((lsN r (ndd ss) : Nat) : Int)).toNat 0
    rw [e2, Int.toNat_natCast, List.getD_eq_getElem?_getD, List.getElem?_eq_getElem hj]
    exact e1.symm)
  have hm : (trm ss).length - 1 < (ndd ss).length := by omega
  have := key ((trm ss).length - 1) (by omega) trivial
  have e : (ndd ss)[(trm ss).length - 1] = (ss.length : Int) - 1 := by
    obtain ⟨j, hj, e⟩ := idx_of (ndd_last h)
    have hb := n2 _ (List.getElem_mem hm)
    rcases Nat.lt_or_ge j ((trm ss).length - 1) with q | q
    · have := (List.pairwise_iff_getElem.1 n1) j _ hj hm q
      omega
    · have : j = (trm ss).length - 1 := by omega
      subst this
      exact e
  rw [← this]
  congr 1
  show ((ndd ss).getD (((((trm ss).length - 1 : Nat)) : Int)).toNat 0).toNat = _
  rw [Int.toNat_natCast, List.getD_eq_getElem?_getD, List.getElem?_eq_getElem hm]
  show (ndd ss)[(trm ss).length - 1].toNat = _
  rw [e]
  omega
end trim
theorem lsN_shift (x n : Int) : ∀ (zs : List Int), lsN (x + n) (zs.map (fun r => r + n)) = lsN x zs
  | [] => rfl
  | z :: zs => by
    rw [List.map_cons, lsN_cons, lsN_cons, lsN_shift x n zs]
    congr 1
    by_cases h : z < x
    · rw [if_pos h, if_pos (by omega)]
    · rw [if_neg h, if_neg (by omega)]
/-- the joined proof -/
def jn (ss tt : List S) : List S := ss ++ tt.map (shW (ss.length : Int))
section join
variable {ss tt : List S} (hs : vld ss = true) (ht : vld tt = true) (l1 : ss.length ≤ 60) (l2 : tt.length ≤ 60)
theorem j_len : (jn ss tt).length = ss.length + tt.length := by unfold jn; rw [List.length_append, List.length_map]
include ht l1 l2
theorem j_gd {a : Int} (h0 : 0 ≤ a) (h1 : a < (tt.length : Int)) : gd (jn ss tt) (a + (ss.length : Int)) = sMap (gd tt a) (fun r => r + (ss.length : Int)) := by
  obtain ⟨k, rfl⟩ : ∃ k : Nat, a = (k : Int) := ⟨a.toNat, by omega⟩
  rw [show (k : Int) + (ss.length : Int) = ((ss.length + k : Nat) : Int) by omega, gd_at (by rw [j_len]; omega), gd_at (by omega)]
  unfold jn
  rw [List.getElem_append_right (by omega), List.getElem_map]
  simp only [Nat.add_sub_cancel_left]
  refine sMap_congr fun r hr => ?_
  have := well_mem ((vld_ok ht).2.2 k (by omega)) r hr
  unfold wrap64
  omega
include hs
theorem j_vld : vld (jn ss tt) = true := by
  have h1 := vld_ok hs
  have h2 := vld_ok ht
  refine vld_of (by rw [j_len]; omega) (by rw [j_len]; omega) fun k hk => ?_
  rw [j_len] at hk
  by_cases q : k < ss.length
  · have : (jn ss tt)[k]'(by rw [j_len]; exact hk) = ss[k] := by unfold jn; rw [List.getElem_append_left q]
    rw [this]
    exact h1.2.2 k q
  · rw [← gd_at (by rw [j_len]; exact hk)]
    have := j_gd (ss := ss) ht l1 l2 (a := ((k - ss.length : Nat) : Int)) (by omega) (by omega)
    rw [show ((k - ss.length : Nat) : Int) + (ss.length : Int) = (k : Int) by omega] at this
    rw [this, well_iff, okN_map]
    have hv := vld_gd ht ((k - ss.length : Nat) : Int) (by omega) (by omega)
    refine ⟨hv.1, fun r hr => ?_⟩
    obtain ⟨x, hx, rfl⟩ := List.mem_map.1 hr
    have := hv.2 x hx
    omega
theorem j_in : ∀ (d : Nat) (a : Int), a + (d : Int) + 1 = (tt.length : Int) → a ∈ ndd tt → a + (ss.length : Int) ∈ ndd (jn ss tt) := by
  intro d
  induction d using Nat.strongRecOn with
  | ind d ih =>
    intro a hd ha
    have hb := (ndd_facts tt ht).2.1 a ha
    rcases ndd_why ht ha with e | ⟨b, hb2, hlt, hm⟩
    · have := ndd_last (j_vld hs ht l1 l2)
      rw [j_len] at this
      rwa [show ((ss.length + tt.length : Nat) : Int) - 1 = a + (ss.length : Int) by omega] at this
    · have hb3 := (ndd_facts tt ht).2.1 b hb2
      have := ih (tt.length - 1 - b.toNat) (by omega) b (by omega) hb2
      refine ((ndd_facts _ (j_vld hs ht l1 l2)).2.2.1 _ this _ ?_).1
      show _ ∈ (gd (jn ss tt) (b + (ss.length : Int))).rf
      rw [j_gd ht l1 l2 hb3.1 hb3.2]
      exact List.mem_map.2 ⟨a, hm, rfl⟩
theorem j_out : ∀ (d : Nat) (z : Int), z + (d : Int) + 1 = ((jn ss tt).length : Int) → z ∈ ndd (jn ss tt) → ∃ a ∈ ndd tt, z = a + (ss.length : Int) := by
  have jv := j_vld hs ht l1 l2
  intro d
  induction d using Nat.strongRecOn with
  | ind d ih =>
    intro z hd hz
    have hb := (ndd_facts _ jv).2.1 z hz
    rcases ndd_why jv hz with e | ⟨b, hb2, hlt, hm⟩
    · refine ⟨(tt.length : Int) - 1, ndd_last ht, ?_⟩
      rw [j_len] at e
      omega
    · have hb3 := (ndd_facts _ jv).2.1 b hb2
      obtain ⟨b0, hb0, rfl⟩ := ih ((jn ss tt).length - 1 - b.toNat) (by omega) b (by omega) hb2
      have hb4 := (ndd_facts tt ht).2.1 b0 hb0
      rw [j_gd ht l1 l2 hb4.1 hb4.2] at hm
      obtain ⟨r, hr, rfl⟩ := List.mem_map.1 hm
      exact ⟨r, ((ndd_facts tt ht).2.2.1 b0 hb0 r hr).1, rfl⟩
theorem j_ndd : ndd (jn ss tt) = (ndd tt).map (fun r => r + (ss.length : Int)) := by
  have jv := j_vld hs ht l1 l2
  obtain ⟨n1, n2, n3, n4⟩ := ndd_facts _ jv
  refine sorted_ext n1 ?_ fun z => ?_
  · rw [List.pairwise_map]
    exact List.Pairwise.imp (fun h => by omega) (ndd_facts tt ht).1
  · constructor
    · intro hz
      have := n2 z hz
      obtain ⟨a, h1, h2⟩ := j_out hs ht l1 l2 ((jn ss tt).length - 1 - z.toNat) z (by omega) hz
      exact List.mem_map.2 ⟨a, h1, h2.symm⟩
    · intro hz
      obtain ⟨a, h1, rfl⟩ := List.mem_map.1 hz
      have := (ndd_facts tt ht).2.1 a h1
      exact j_in hs ht l1 l2 (tt.length - 1 - a.toNat) a (by omega) h1
theorem j_trm : trm (jn ss tt) = trm tt := by
  rw [trm_eq _ (j_vld hs ht l1 l2), trm_eq _ ht, j_ndd hs ht l1 l2, List.map_map]
  refine List.map_congr_left fun a ha => ?_
  have hb := (ndd_facts tt ht).2.1 a ha
  show sMap (gd (jn ss tt) (a + (ss.length : Int))) _ = sMap (gd tt a) _
  rw [j_gd ht l1 l2 hb.1 hb.2]
  unfold sMap
  simp only [List.map_map]
  congr 1
  refine List.map_congr_left fun r hr => ?_
  show ((lsN (r + (ss.length : Int)) _ : Nat) : Int) = _
  rw [lsN_shift]
theorem j_dpt : dpt (jn ss tt) = dpt tt := by
  have jv := j_vld hs ht l1 l2
  rw [dpt_dp jv, dpt_dp ht]
  have key := dp_map ht jv (fun r => r + (ss.length : Int)) (fun _ => True) (fun k hk _ => by
    refine ⟨by omega, by rw [j_len]; omega, ?_, fun _ _ => trivial⟩
    rw [j_gd ht l1 l2 (by omega) (by omega)]
    rfl)
  have h0 := (vld_ok ht).2.1
  have := key (tt.length - 1) (by omega) trivial
  rw [← this, j_len]
  congr 1
  omega
end join
end Go.Proofs.YtnlpiaejfmdckaaDoor
