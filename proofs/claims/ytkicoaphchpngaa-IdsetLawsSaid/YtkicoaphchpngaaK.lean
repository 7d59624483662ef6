/- Functions that only read lists, the second part. -/
import Derived.Test.YtkicoaphchpngaaJ
namespace Go.Proofs.Ytkicoaphchpngaa
open Go.RowKit Go.Lib Go.Sort
set_option linter.unusedVariables false
def validB (zs : List Int) : Bool := decide (SS zs)
def SSTo (zs : List Int) (k : Nat) : Prop := SS (zs.take k)
theorem ssto_one (zs : List Int) : SSTo zs (0 + 1) := by
  unfold SSTo; cases zs <;> simp [SS]
theorem ssto_snoc {zs : List Int} {m : Nat} (hm : m + 1 < zs.length) (h : SSTo zs (m + 1)) (hlt : zs.getD m 0 < zs.getD (m + 1) 0) : SSTo zs (m + 1 + 1) := by
  unfold SSTo at *
  have e1 := List.take_succ_eq_append_getElem (show m < zs.length by omega)
  rw [List.take_succ_eq_append_getElem hm]
  refine List.pairwise_append.2 ⟨h, by simp, fun a ha b hb => ?_⟩
  simp at hb; subst hb
  rw [e1] at h ha
  have h3 := List.pairwise_append.1 h
  simp [List.getD_eq_getElem?_getD, hm, show m < zs.length by omega] at hlt
  rcases List.mem_append.1 ha with ha | ha
  · have := h3.2.2 a ha zs[m] (by simp); omega
  · simp at ha; subst ha; exact hlt
theorem ssto_no {zs : List Int} {m : Nat} (hm : m + 1 < zs.length) (h : ¬ zs.getD m 0 < zs.getD (m + 1) 0) : validB zs = false := by
  unfold validB; apply decide_eq_false; intro hs
  apply h
  simp [List.getD_eq_getElem?_getD, hm, show m < zs.length by omega]
  exact List.pairwise_iff_getElem.1 hs m (m + 1) _ _ (by omega)
set_option maxHeartbeats 1000000 in
theorem valid_some (b off c : Nat) (zs : List Int) (w : World) (hl : zs.length ≤ 100000) (h0 : 0 < zs.length) (hc : ∀ k, k < zs.length → w.cell? ⟨b, off + k, none⟩ = some (.int .i64 (zs.getD k 0))) :
    Calls Try.prog 14 #[.slice (some ⟨b, off, none⟩) zs.length c] w fun e w' => e = .returned (.bool (validB zs)) ∧ Drawn w w' := by
  go_enter Try.func14, Try.ntmps14
  go_wp2_with fail
  go_loopw [3] (fun i wr => ∃ m q : Nat, m + 1 ≤ zs.length ∧ i = .int .i64 ((m : Int) + 1) ∧ SSTo zs (m + 1) ∧ wr = w.drewN q) (fun i _ => zs.length + 1 - (intOf i).toNat)
  case atStart => exact ⟨0, 0, h0, rfl, ssto_one zs, rfl⟩
  case round =>
    obtain ⟨m, q, hk, rfl, hs, hwr⟩ := hrel
    have hs' := Lib.hid hs
    clear hs
    by_cases hlt : m + 1 < zs.length
    · have h1 : wr.cell? ⟨b, off + m, none⟩ = some (.int .i64 (zs.getD m 0)) := by rw [hwr]; exact hc m (by omega)
      have h2 : wr.cell? ⟨b, off + (m + 1), none⟩ = some (.int .i64 (zs.getD (m + 1) 0)) := by rw [hwr]; exact hc (m + 1) hlt
      have hsn := Lib.hid (@ssto_snoc zs m hlt)
      have hno := Lib.hid (@ssto_no zs m hlt)
      have hwr' := Lib.hid hwr
      clear hwr hc
      generalize zs.getD m 0 = x at h1 hsn hno
      generalize zs.getD (m + 1) 0 = y at h2 hsn hno
      by_cases hxy : x < y
      · go_wp2_with fail
        go_quiet (fail)
        go_wp2_with fail
        go_roundw
        case rel => exact ⟨m + 1, q + nq, by omega, by go_num, hsn.out hs'.out hxy, by rw [hwr'.out, drewN_add]⟩
        case measure => simp [intOf]; omega
      · go_wp2_with fail
        go_quiet (fail)
        go_wp2_with fail
        go_ret
        exact ⟨ret_bool (hno.out hxy).symm, q + nq, by rw [hwr'.out, drewN_add]⟩
    · have hwr' := Lib.hid hwr
      clear hwr
      go_wp2_with fail
      go_ret
      refine ⟨ret_bool ?_, q, hwr'.out⟩
      have hs := hs'.out
      unfold SSTo at hs
      rw [List.take_of_length_le (by omega)] at hs
      unfold validB; symm; exact decide_eq_true hs
set_option maxHeartbeats 1000000 in
theorem valid_zero (a : Option Addr) (c : Nat) (w : World) :
    Calls Try.prog 14 #[.slice a 0 c] w fun e w' => e = .returned (.bool true) ∧ w = w' := by
  go_enter Try.func14, Try.ntmps14
  go_wp2_with fail
  go_loop [3] (fun i => i = .int .i64 1) (fun i => 0)
  case atStart => rfl
  case round =>
    subst hrel
    go_wp2_with fail
    go_ret
    exact ⟨rfl, rfl⟩
theorem valid_any (sv : Value) (zs : List Int) (w : World) (h : Rd w sv zs) (hl : zs.length ≤ 100000) :
    Calls Try.prog 14 #[sv] w fun e w' => e = .returned (.bool (validB zs)) ∧ Drawn w w' := by
  rcases h with ⟨a, cap, rfl, rfl⟩ | ⟨b, off, cap, rfl, h1, _, _, h4⟩
  · exact (valid_zero a cap w).mono fun e w' ⟨e1, e2⟩ => ⟨e1, e2 ▸ Drawn.refl w⟩
  · exact valid_some b off cap zs w hl h1 h4
set_option maxHeartbeats 1000000 in
theorem rvalid_some (b off c : Nat) (zs : List Int) (w : World) (hl : zs.length ≤ 100000) (h0 : 0 < zs.length) (hc : ∀ k, k < zs.length → w.cell? ⟨b, off + k, none⟩ = some (.int .i64 (zs.getD k 0))) :
    Calls Try.prog 15 #[.slice (some ⟨b, off, none⟩) zs.length c] w fun e w' => e = .returned (.bool (validB zs)) ∧ Drawn w w' := by
  go_enter Try.func15, Try.ntmps15
  go_wp2_with fail
  go_loopw [3] (fun i wr => ∃ m q : Nat, m + 1 ≤ zs.length ∧ i = .int .i64 ((m : Int) + 1) ∧ SSTo zs (m + 1) ∧ wr = w.drewN q) (fun i _ => zs.length + 1 - (intOf i).toNat)
  case atStart => exact ⟨0, 0, h0, rfl, ssto_one zs, rfl⟩
  case round =>
    obtain ⟨m, q, hk, rfl, hs, hwr⟩ := hrel
    have hs' := Lib.hid hs
    clear hs
    by_cases hlt : m + 1 < zs.length
    · have h1 : wr.cell? ⟨b, off + m, none⟩ = some (.int .i64 (zs.getD m 0)) := by rw [hwr]; exact hc m (by omega)
      have h2 : wr.cell? ⟨b, off + (m + 1), none⟩ = some (.int .i64 (zs.getD (m + 1) 0)) := by rw [hwr]; exact hc (m + 1) hlt
      have hsn := Lib.hid (@ssto_snoc zs m hlt)
      have hno := Lib.hid (@ssto_no zs m hlt)
      have hwr' := Lib.hid hwr
      clear hwr hc
      generalize zs.getD m 0 = x at h1 hsn hno
      generalize zs.getD (m + 1) 0 = y at h2 hsn hno
      by_cases hxy : x < y
      · go_wp2_with fail
        go_quiet (fail)
        go_wp2_with fail
        go_roundw
        case rel => exact ⟨m + 1, q + nq, by omega, by go_num, hsn.out hs'.out hxy, by rw [hwr'.out, drewN_add]⟩
        case measure => simp [intOf]; omega
      · go_wp2_with fail
        go_quiet (fail)
        go_wp2_with fail
        go_ret
        exact ⟨ret_bool (hno.out hxy).symm, q + nq, by rw [hwr'.out, drewN_add]⟩
    · have hwr' := Lib.hid hwr
      clear hwr
      go_wp2_with fail
      go_ret
      refine ⟨ret_bool ?_, q, hwr'.out⟩
      have hs := hs'.out
      unfold SSTo at hs
      rw [List.take_of_length_le (by omega)] at hs
      unfold validB; symm; exact decide_eq_true hs
set_option maxHeartbeats 1000000 in
theorem rvalid_zero (a : Option Addr) (c : Nat) (w : World) :
    Calls Try.prog 15 #[.slice a 0 c] w fun e w' => e = .returned (.bool true) ∧ w = w' := by
  go_enter Try.func15, Try.ntmps15
  go_wp2_with fail
  go_loop [3] (fun i => i = .int .i64 1) (fun i => 0)
  case atStart => rfl
  case round =>
    subst hrel
    go_wp2_with fail
    go_ret
    exact ⟨rfl, rfl⟩
theorem rvalid_any (sv : Value) (zs : List Int) (w : World) (h : Rd w sv zs) (hl : zs.length ≤ 100000) :
    Calls Try.prog 15 #[sv] w fun e w' => e = .returned (.bool (validB zs)) ∧ Drawn w w' := by
  rcases h with ⟨a, cap, rfl, rfl⟩ | ⟨b, off, cap, rfl, h1, _, _, h4⟩
  · exact (rvalid_zero a cap w).mono fun e w' ⟨e1, e2⟩ => ⟨e1, e2 ▸ Drawn.refl w⟩
  · exact rvalid_some b off cap zs w hl h1 h4
def memB (zs : List Int) (x : Int) : Bool := decide (x ∈ zs)
def NotTo (zs : List Int) (x : Int) (k : Nat) : Prop := ¬ x ∈ zs.take k
theorem notto_snoc {zs : List Int} {x : Int} {k : Nat} (hk : k < zs.length) (h : NotTo zs x k) (hne : (zs[k] == x) = false) : NotTo zs x (k + 1) := by
  unfold NotTo at *
  rw [List.take_succ_eq_append_getElem hk, List.mem_append]
  rintro (h1 | h1)
  · exact h h1
  · simp at h1; rw [beq_eq_false_iff_ne] at hne; exact hne h1.symm
theorem mem_hit {zs : List Int} {x : Int} {k : Nat} (hk : k < zs.length) (he : (zs[k] == x) = true) : memB zs x = true := by
  unfold memB; apply decide_eq_true; rw [beq_iff_eq] at he; exact he ▸ List.getElem_mem hk
set_option maxHeartbeats 1000000 in
theorem rhas_some (b off c : Nat) (x : Int) (zs : List Int) (w : World) (hl : zs.length ≤ 100000) (hc : ∀ k, k < zs.length → w.cell? ⟨b, off + k, none⟩ = some (.int .i64 (zs.getD k 0))) :
    Calls Try.prog 17 #[.slice (some ⟨b, off, none⟩) zs.length c, .int .i64 x] w fun e w' => e = .returned (.bool (memB zs x)) ∧ w = w' := by
  go_enter Try.func17, Try.ntmps17
  go_wp2_with fail
  go_loop [5] (fun i => ∃ k : Nat, k ≤ zs.length ∧ i = .int .i64 k ∧ NotTo zs x k) (fun i => zs.length - (intOf i).toNat)
  case atStart => exact ⟨0, Nat.zero_le _, rfl, by unfold NotTo; simp⟩
  case round =>
    obtain ⟨k, hk, rfl, hs⟩ := hrel
    have hs' := Lib.hid hs
    clear hs
    by_cases hlt : k < zs.length
    · have hcell := hc k hlt
      go_wp2_with fail
      · have h : (zs[k] == x) = true := by assumption
        go_ret
        exact ⟨ret_bool (mem_hit hlt h).symm, rfl⟩
      · have h : (zs[k] == x) = false := by assumption
        go_round
        case rel => exact ⟨k + 1, by omega, by go_num, notto_snoc hlt hs'.out h⟩
        case measure => simp [intOf]; omega
    · go_wp2_with fail
      go_ret
      refine ⟨ret_bool ?_, rfl⟩
      have hs := hs'.out
      unfold NotTo at hs
      rw [List.take_of_length_le (by omega)] at hs
      unfold memB; symm; exact decide_eq_false hs
set_option maxHeartbeats 1000000 in
theorem rhas_zero (a : Option Addr) (c : Nat) (x : Int) (w : World) :
    Calls Try.prog 17 #[.slice a 0 c, .int .i64 x] w fun e w' => e = .returned (.bool false) ∧ w = w' := by
  go_enter Try.func17, Try.ntmps17
  go_wp2_with fail
  go_loop [5] (fun i => i = .int .i64 0) (fun i => 0)
  case atStart => rfl
  case round =>
    subst hrel
    go_wp2_with fail
    go_ret
    exact ⟨rfl, rfl⟩
theorem rhas_any (sv : Value) (x : Int) (zs : List Int) (w : World) (h : Rd w sv zs) (hl : zs.length ≤ 100000) :
    Calls Try.prog 17 #[sv, .int .i64 x] w fun e w' => e = .returned (.bool (memB zs x)) ∧ w = w' := by
  rcases h with ⟨a, cap, rfl, rfl⟩ | ⟨b, off, cap, rfl, h1, _, _, h4⟩
  · exact rhas_zero a cap x w
  · exact rhas_some b off cap x zs w hl h4
theorem has_any (sv : Value) (x : Int) (zs : List Int) (w : World) (h : Rd w sv zs) (hl : zs.length ≤ 100000) :
    Calls Try.prog 16 #[sv, .int .i64 x] w fun e w' => e = .returned (.bool (memB zs x)) ∧ w = w' := by
  rcases h with ⟨a, cap, rfl, rfl⟩ | ⟨b, off, cap, rfl, h1, _, _, h4⟩
  · have hc := Lib.hid (Try.slices_Contains_int_empty a cap x w)
    go_enter Try.func16, Try.ntmps16
    go_wp2_with fail
    refine hc.out.mono ?_
    rintro e w1 ⟨rfl, rfl⟩
    go_wp2_with fail
    go_ret
    exact ⟨rfl, rfl⟩
  · have hc := Lib.hid (Try.slices_Contains_int b off zs.length cap zs x w (Nat.le_refl _) (by omega) h4)
    go_enter Try.func16, Try.ntmps16
    go_wp2_with fail
    refine hc.out.mono ?_
    rintro e w1 ⟨rfl, rfl⟩
    go_wp2_with fail
    go_ret
    exact ⟨ret_bool rfl, rfl⟩
theorem cnt_snoc {zs : List Int} {x : Int} {k : Nat} (hk : k < zs.length) : cnt (zs.take (k + 1)) x = cnt (zs.take k) x + if zs[k] < x then 1 else 0 := by
  unfold cnt
  rw [List.take_succ_eq_append_getElem hk, List.countP_append]
  by_cases h : zs[k] < x <;> simp [h]
theorem cnt_le (zs : List Int) (x : Int) : cnt zs x ≤ zs.length := List.countP_le_length
set_option maxHeartbeats 1000000 in
theorem rindex_some (b off c : Nat) (x : Int) (zs : List Int) (w : World) (hl : zs.length ≤ 100000) (hc : ∀ k, k < zs.length → w.cell? ⟨b, off + k, none⟩ = some (.int .i64 (zs.getD k 0))) :
    Calls Try.prog 19 #[.slice (some ⟨b, off, none⟩) zs.length c, .int .i64 x] w fun e w' => e = .returned (.int .i64 (cnt zs x)) ∧ w = w' := by
  go_enter Try.func19, Try.ntmps19
  go_wp2_with fail
  go_loop [5, 6] (fun n i => ∃ k : Nat, k ≤ zs.length ∧ i = .int .i64 k ∧ n = .int .i64 (cnt (zs.take k) x)) (fun _ i => zs.length - (intOf i).toNat)
  case atStart => exact ⟨0, Nat.zero_le _, rfl, rfl⟩
  case round =>
    obtain ⟨k, hk, rfl, rfl⟩ := hrel
    by_cases hlt : k < zs.length
    · have hcell := hc k hlt
      have hsn := Lib.hid (@cnt_snoc zs x k hlt)
      have hle : cnt (zs.take k) x ≤ k := Nat.le_trans (cnt_le _ _) (List.length_take_le _ _)
      go_wp2_with fail
      · have h : zs[k] < x := by assumption
        go_round
        case rel => exact ⟨k + 1, by omega, by go_num, by rw [hsn.out, if_pos h]; go_num⟩
        case measure => simp [intOf]; omega
      · have h : x ≤ zs[k] := by assumption
        go_round
        case rel => exact ⟨k + 1, by omega, by go_num, by rw [hsn.out, if_neg (by omega)]; go_num⟩
        case measure => simp [intOf]; omega
    · go_wp2_with fail
      go_ret
      exact ⟨ret_int (by rw [List.take_of_length_le (by omega)]), rfl⟩
set_option maxHeartbeats 1000000 in
theorem rindex_zero (a : Option Addr) (c : Nat) (x : Int) (w : World) :
    Calls Try.prog 19 #[.slice a 0 c, .int .i64 x] w fun e w' => e = .returned (.int .i64 0) ∧ w = w' := by
  go_enter Try.func19, Try.ntmps19
  go_wp2_with fail
  go_loop [5, 6] (fun n i => i = .int .i64 0 ∧ n = .int .i64 0) (fun _ _ => 0)
  case atStart => exact ⟨rfl, rfl⟩
  case round =>
    obtain ⟨rfl, rfl⟩ := hrel
    go_wp2_with fail
    go_ret
    exact ⟨rfl, rfl⟩
theorem rindex_any (sv : Value) (x : Int) (zs : List Int) (w : World) (h : Rd w sv zs) (hl : zs.length ≤ 100000) :
    Calls Try.prog 19 #[sv, .int .i64 x] w fun e w' => e = .returned (.int .i64 (cnt zs x)) ∧ w = w' := by
  rcases h with ⟨a, cap, rfl, rfl⟩ | ⟨b, off, cap, rfl, h1, _, _, h4⟩
  · exact rindex_zero a cap x w
  · exact rindex_some b off cap x zs w hl h4
end Go.Proofs.Ytkicoaphchpngaa
