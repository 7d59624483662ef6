/- The reference's table: Del of a node that is there. -/
import Derived.Test.YtclefcjojlkcnaaDoorAK
namespace Go.Proofs.YtclefcjojlkcnaaDoor.G
open Go.RowKit
set_option linter.unusedVariables false
set_option linter.unusedSimpArgs false
theorem rt_mid {S : Nat → Prop} {w : World} {mb : Nat} {v : Value} {j : Nat} {n k : Nat} {P : EP} {q : Option Addr} {d : Nat} (hP : Mono P) (hg : GL 0 26 5 w (.slice q n d) n P) (hne : ∀ g, (Value.slice q n d).ownBlock = some g → g ≠ mb) (hPn : ∀ cs k, P (memO 0 w (.slice q n d)) w k cs → P (memO 0 (w.setCell ⟨mb, j, none⟩ v) (.slice q n d)) (w.setCell ⟨mb, j, none⟩ v) k cs) : GL 0 26 5 (w.setCell ⟨mb, j, none⟩ v) (.slice q n d) n P := by
  obtain ⟨xs, h1, h2⟩ := hg.own
  refine ⟨xs, own_at h1 (fun k hk => Below.heap_setCell _ _ _ _ (hne k hk)), fun k hk => ?_⟩
  obtain ⟨cs, a1, a2, a3⟩ := h2 k hk
  exact ⟨cs, a1, a2, hPn cs k a3⟩
theorem pn_set {S : Nat → Prop} {w : World} {mb j : Nat} {v u : Value} {ms : List Nn} (hnS : ¬ S mb) : ∀ cs k, PN S ms (memO 0 w u) w k cs → PN S ms (memO 0 (w.setCell ⟨mb, j, none⟩ v) u) (w.setCell ⟨mb, j, none⟩ v) k cs := fun cs k ⟨m, q, d, h1, h2, h3⟩ =>
  ⟨m, q, d, h1, h2, h3.keep (fun i hi => ⟨Below.heap_setCell _ _ _ _ (fun e => hnS (by have h2 := hi.2; rw [show i = mb from e] at h2; exact h2)), ⟨hi.1.1, by simpa [World.setCell] using hi.1.2.1, hi.1.2.2⟩, hi.2⟩)⟩
theorem set_same {w : World} {b j : Nat} {v : Value} (h : w.cell? ⟨b, j, none⟩ = some v) : w.setCell ⟨b, j, none⟩ v = w := by
  have hlt := World.block_lt_of_cell? w _ h
  obtain ⟨hp, tp, dr, os, out⟩ := w
  simp only [World.setCell, World.mk.injEq, and_true]
  refine Array.ext_getElem? fun k => ?_
  rw [Array.getElem?_modify]
  by_cases e : b = k
  · subst e
    rw [if_pos rfl]
    simp only [World.cell?] at h
    cases ho : hp[b]? with
    | none => rfl
    | some o =>
      rw [ho] at h
      cases o with
      | cells cs t f =>
        obtain ⟨f1, f2⟩ := f
        have h' : cs[j]? = some v := by simpa using h
        obtain ⟨hj, hv⟩ := Array.getElem?_eq_some_iff.1 h'
        simp [← hv, hj]
        refine Array.ext_getElem? fun i => ?_
        rw [Array.getElem?_setIfInBounds]
        split
        · rename_i e; subst e; simp [hj]
        · rfl
      | _ => cases h
  · rw [if_neg e]
set_option maxRecDepth 100000 in
set_option maxHeartbeats 2000000 in
theorem rdel28_some (S : Nat → Prop) (ms : List Nn) (ids : List Int) (n : Nn) (hl : ms.length ≤ 1000) (hi : ids.length = ms.length) (okl : ∀ m ∈ ms, m.zs.length ≤ 1000) (hn : n.zs.length ≤ 1000) (w : World) (mb : Nat) (hT : RT S w mb ms ids) (p : Option Addr) (c : Nat) (hA : Ra w p n.zs) (hS : ∀ b, w.heap.size ≤ b → S b) (hno : isA n ms = true) :
    Calls Tryd.prog 28 #[.pointer (some ⟨mb, 0, none⟩), .agg #[.int .i64 n.op, .int .i64 n.wd, .int .u64 n.vl, .string n.nm, .slice p n.zs.length c]] w fun e w' => e = .returned (.bool true) ∧ RT S w' mb (delM n ms) (ids.take (atI n ms) ++ ids.drop (atI n ms + 1)) ∧ Step w w' (fun k => k = mb) (fun k => k = mb) := by
  obtain ⟨q, cap, q', cap', ⟨c0, c1⟩, ⟨f0, f1⟩, ⟨hmb, hnS⟩, hM, hI⟩ := hT
  have C47 := Lib.hid (fun wc (hb : BK w wc) => rat47 ms n hl okl hn wc mb q cap (cell_bk c0 hb) ((hM.keep (bk_dom hb)).rowN) p c (hA.keep hb))
  have hlt := isA_lt hno
  rw [hno] at C47
  have e1 : delM n ms = ms.take (atI n ms) ++ ms.drop (atI n ms + 1) := rfl
  rw [e1]
  have hta : (ms.take (atI n ms)).length = atI n ms := by rw [List.length_take]; omega
  have hms : ms.length = (ms.take (atI n ms)).length + ((ms.drop (atI n ms + 1)).length + 1) := by rw [hta, List.length_drop]; omega
  have hia : (ids.take (atI n ms)).length = atI n ms := by rw [List.length_take]; omega
  have hib : (ids.drop (atI n ms + 1)).length = (ms.drop (atI n ms + 1)).length := by rw [List.length_drop, List.length_drop, hi]
  have hRA := hM.take (atI n ms)
  have hRB := hM.drop (atI n ms + 1) (by omega)
  have hIA := hI.take (atI n ms)
  have hIB := hI.drop (atI n ms + 1) (by omega)
  have hcm := hM.le
  have hci := hI.le
  have hmn := hM.nil
  have hin := hI.nil
  generalize ms.take (atI n ms) = A at *
  generalize ms.drop (atI n ms + 1) = B at *
  generalize ids.take (atI n ms) = A' at *
  generalize ids.drop (atI n ms + 1) = B' at *
  generalize atI n ms = at_ at *
  subst hta
  rw [hi] at c1 hci
  rw [hms] at c0 c1 hcm hci hl
  obtain ⟨M, hM0⟩ : ∃ M, M = A.length + (B.length + 1) := ⟨_, rfl⟩
  obtain ⟨J, hJ0⟩ : ∃ J, J = A.length + 1 := ⟨_, rfl⟩
  rw [← hM0] at c0 c1 hcm hci hl
  rw [← hJ0] at hRB hIB
  have s6 := fun w => slc_to 43 (.inl rfl) q M cap A.length (by omega) hmn w
  have s17 := fun w => slc_from43 q M cap J (by omega) hcm hmn w
  have r6 := fun w => slc_to 24 (.inr rfl) q' M cap' A.length (by omega) hin w
  have r16 := fun w => slc_from24 q' M cap' J (by omega) hci hin w
  rw [show M - J = B.length by omega] at s17 r16
  have ei : IntKind.i64.wrap ((A.length : Int) + 1) = (J : Int) := by rw [hJ0, Int.natCast_add]; exact IntWalk.i64_in _ (by omega)
  have KA := Lib.hid (bk_alloc (BK.refl w) (.cells #[.int .i64 n.op, .int .i64 n.wd, .int .u64 n.vl, .string n.nm, .slice p n.zs.length c] 26))
  have BX := b5_new w (.int .i64 n.op) (.int .i64 n.wd) (.int .u64 n.vl) (.string n.nm) (.slice p n.zs.length c) 26
  have NS := Lib.hid hnS
  have HMW := Lib.hid hmb
  have HC := Lib.hid (And.intro c0 c1)
  have HF := Lib.hid (And.intro f0 f1)
  have H1 := Lib.hid (And.intro hRA hRB)
  have H2 := Lib.hid (And.intro hIA hIB)
  have HLA := Lib.hid (show A.length ≤ 100000 from by omega)
  have HLB := Lib.hid (show B.length ≤ 100000 from by omega)
  clear hM0 hJ0
  have HSS0 := Lib.hid hS
  have HIA := Lib.hid (And.intro hia hib)
  clear hl hi okl hn hM hI hA hno c0 c1 f0 f1 hmb hnS hRA hRB hIA hIB hlt e1 hms hia hib hcm hci hmn hin hS
  obtain ⟨x0, x1, x2, x3, x4⟩ := BX
  go_enter Tryd.func28, Tryd.ntmps28
  go_wp2_with fail
  refine (C47.out _ KA.out).mono ?_
  rintro e w2 ⟨rfl, hb0⟩
  have K2 := Lib.hid (bk_tr KA.out hb0)
  clear hb0 x0 x1 x2 x3 x4 KA
  go_wp2_with fail
  have HRA := Lib.hid (H1.out.1.keep (bk_dom K2.out))
  have HRB := Lib.hid (H1.out.2.keep (bk_dom K2.out))
  refine wp_region_held_drew (S := fun _ => True) (by kernel_rfl) trivial (fun hHeld => ?_)
  have HK0 := Lib.hid (bk_drew (BK.refl w2))
  generalize w2.drew = wI0 at HK0 ⊢
  refine wpAnyH_take (i := 0) (v := .pointer (some ⟨mb, 0, none⟩)) rfl (by kernel_rfl) (by kernel_rfl) (by kernel_rfl) (fun _ _ _ h => h) (Or.inl ⟨by kernel_rfl, fun w hSw => by (go_simp)⟩) hHeld ?_
  try simp only [Act.put, List.setIfInBounds_toArray, List.set_cons_zero, List.set_cons_succ, List.getElem_toArray, List.getElem_cons_zero, List.getElem_cons_succ]
  refine wpAnyH_take (i := 1) (v := .slice none 0 0) rfl (by kernel_rfl) (by kernel_rfl) (by kernel_rfl) (fun _ _ _ h => h) (Or.inl ⟨by kernel_rfl, fun w hSw => by (go_simp)⟩) hHeld ?_
  try simp only [Act.put, List.setIfInBounds_toArray, List.set_cons_zero, List.set_cons_succ, List.getElem_toArray, List.getElem_cons_zero, List.getElem_cons_succ]
  refine wpAnyH_take (i := 2) (v := .pointer (some ⟨mb, 0, none⟩)) rfl (by kernel_rfl) (by kernel_rfl) (by kernel_rfl) (fun _ _ _ h => h) (Or.inl ⟨by kernel_rfl, fun w hSw => by (go_simp)⟩) hHeld ?_
  try simp only [Act.put, List.setIfInBounds_toArray, List.set_cons_zero, List.set_cons_succ, List.getElem_toArray, List.getElem_cons_zero, List.getElem_cons_succ]
  refine wpAnyH_take (i := 3) (v := .pointer (some ⟨mb, 0, none⟩)) rfl (by kernel_rfl) (by kernel_rfl) (by kernel_rfl) (fun _ _ _ h => h) (Or.inl ⟨by kernel_rfl, fun w hSw => by (go_simp)⟩) hHeld ?_
  try simp only [Act.put, List.setIfInBounds_toArray, List.set_cons_zero, List.set_cons_succ, List.getElem_toArray, List.getElem_cons_zero, List.getElem_cons_succ]
  refine wpAnyH_take (i := 4) (v := .pointer (some ⟨mb, 0, none⟩)) rfl (by kernel_rfl) (by kernel_rfl) (by kernel_rfl) (fun _ _ _ h => h) (Or.inl ⟨by kernel_rfl, fun w hSw => by (go_simp)⟩) hHeld ?_
  try simp only [Act.put, List.setIfInBounds_toArray, List.set_cons_zero, List.set_cons_succ, List.getElem_toArray, List.getElem_cons_zero, List.getElem_cons_succ]
  refine wpAnyH_take (i := 6) (v := .int .i64 (A.length : Int)) rfl (by kernel_rfl) (by kernel_rfl) (by kernel_rfl) (fun _ _ _ h => h) (Or.inl ⟨by kernel_rfl, fun w hSw => by (go_simp)⟩) hHeld ?_
  try simp only [Act.put, List.setIfInBounds_toArray, List.set_cons_zero, List.set_cons_succ, List.getElem_toArray, List.getElem_cons_zero, List.getElem_cons_succ]
  refine wpAnyH_take (i := 9) (v := .pointer (some ⟨mb, 0, none⟩)) rfl (by kernel_rfl) (by kernel_rfl) (by kernel_rfl) (fun _ _ _ h => h) (Or.inl ⟨by kernel_rfl, fun w hSw => by (go_simp)⟩) hHeld ?_
  try simp only [Act.put, List.setIfInBounds_toArray, List.set_cons_zero, List.set_cons_succ, List.getElem_toArray, List.getElem_cons_zero, List.getElem_cons_succ]
  refine wpAnyH_take (i := 10) (v := .pointer (some ⟨mb, 0, none⟩)) rfl (by kernel_rfl) (by kernel_rfl) (by kernel_rfl) (fun _ _ _ h => h) (Or.inl ⟨by kernel_rfl, fun w hSw => by (go_simp)⟩) hHeld ?_
  try simp only [Act.put, List.setIfInBounds_toArray, List.set_cons_zero, List.set_cons_succ, List.getElem_toArray, List.getElem_cons_zero, List.getElem_cons_succ]
  refine wpAnyH_take (i := 11) (v := .pointer (some ⟨mb, 0, none⟩)) rfl (by kernel_rfl) (by kernel_rfl) (by kernel_rfl) (fun _ _ _ h => h) (Or.inl ⟨by kernel_rfl, fun w hSw => by (go_simp)⟩) hHeld ?_
  try simp only [Act.put, List.setIfInBounds_toArray, List.set_cons_zero, List.set_cons_succ, List.getElem_toArray, List.getElem_cons_zero, List.getElem_cons_succ]
  refine wpAnyH_take (i := 13) (v := .int .i64 (A.length : Int)) rfl (by kernel_rfl) (by kernel_rfl) (by kernel_rfl) (fun _ _ _ h => h) (Or.inl ⟨by kernel_rfl, fun w hSw => by (go_simp)⟩) hHeld ?_
  try simp only [Act.put, List.setIfInBounds_toArray, List.set_cons_zero, List.set_cons_succ, List.getElem_toArray, List.getElem_cons_zero, List.getElem_cons_succ]
  refine wpAnyH_take (i := 14) (v := .int .i64 (J : Int)) rfl (by kernel_rfl) (by kernel_rfl) (by kernel_rfl) (fun _ _ _ h => h) (Or.inl ⟨by kernel_rfl, fun w hSw => by (go_simp)⟩) hHeld ?_
  try simp only [Act.put, List.setIfInBounds_toArray, List.set_cons_zero, List.set_cons_succ, List.getElem_toArray, List.getElem_cons_zero, List.getElem_cons_succ]
  refine wpAnyH_ready (rs := [5, 12]) (by kernel_rfl) (by simp) ?_
  refine AllReadyH.cons (o := _) rfl (fun K9 hK9 => ?_) (AllReadyH.cons (o := _) rfl (fun K9 hK9 => ?_) AllReadyH.nil)
  · have z11 := cell_bk HC.out.1 (bk_tr K2.out HK0.out)
    go_simp
    refine hK9.out _ _ trivial (fun hHeld => ?_)
    clear z11
    clear hK9 K9
    try simp only [Act.put, List.setIfInBounds_toArray, List.set_cons_zero, List.set_cons_succ, List.getElem_toArray, List.getElem_cons_zero, List.getElem_cons_succ]
    refine wpAnyH_take (i := 7) (v := .slice q A.length cap) rfl (by kernel_rfl) (by kernel_rfl) (by kernel_rfl) (fun _ _ _ h => h) (Or.inl ⟨by kernel_rfl, fun w hSw => by (go_simp)⟩) hHeld ?_
    try simp only [Act.put, List.setIfInBounds_toArray, List.set_cons_zero, List.set_cons_succ, List.getElem_toArray, List.getElem_cons_zero, List.getElem_cons_succ]
    refine wpAnyH_ready (rs := [8, 12]) (by kernel_rfl) (by simp) ?_
    refine AllReadyH.cons (o := _) rfl (fun K9 hK9 => ?_) (AllReadyH.cons (o := _) rfl (fun K9 hK9 => ?_) AllReadyH.nil)
    · refine Eq.mpr (if_pos (by kernel_rfl)) ?_
      refine gl_app0 _ _ rfl S A (by kernel_rfl) q cap (by kernel_rfl) (part_row HRA.out HK0.out (fun g hg => by cases hg)) HLA.out ?_
      intro q1 d1 w12 hg12 hs12
      have G12 := Lib.hid hg12
      have O12 := Lib.hid (show ∀ g, (Value.slice q1 A.length d1).ownBlock = some g → w2.heap.size ≤ g from fun g hg => Nat.le_trans (bk_size HK0.out) (new_of_nil hs12 g hg))
      have K12 := Lib.hid (show BK w2 w12 from bk_tr HK0.out (bk_step_nil hs12))
      refine hK9.out _ _ trivial (fun hHeld => ?_)
      clear hg12 hs12
      clear hK9 K9
      try simp only [Act.put, List.setIfInBounds_toArray, List.set_cons_zero, List.set_cons_succ, List.getElem_toArray, List.getElem_cons_zero, List.getElem_cons_succ]
      refine wpAnyH_ready (rs := [12]) (by kernel_rfl) (by simp) ?_
      refine AllReadyH.cons (o := _) rfl (fun K9 hK9 => ?_) AllReadyH.nil
      have z13 := cell_bk HC.out.1 (bk_tr K2.out K12.out)
      go_simp
      refine hK9.out _ _ trivial (fun hHeld => ?_)
      clear z13
      clear hK9 K9
      try simp only [Act.put, List.setIfInBounds_toArray, List.set_cons_zero, List.set_cons_succ, List.getElem_toArray, List.getElem_cons_zero, List.getElem_cons_succ]
      refine wpAnyH_take (i := 15) (v := .slice (qF q cap J 5) B.length (cap - J)) rfl (by kernel_rfl) (by kernel_rfl) (by kernel_rfl) (fun _ _ _ h => h) (Or.inl ⟨by kernel_rfl, fun w hSw => by (go_simp)⟩) hHeld ?_
      try simp only [Act.put, List.setIfInBounds_toArray, List.set_cons_zero, List.set_cons_succ, List.getElem_toArray, List.getElem_cons_zero, List.getElem_cons_succ]
      refine wpAnyH_ready (rs := [16]) (by kernel_rfl) (by simp) ?_
      refine AllReadyH.cons (o := _) rfl (fun K9 hK9 => ?_) AllReadyH.nil
      refine Eq.mpr (if_pos (by kernel_rfl)) ?_
      refine gl_appN _ _ rfl S 0 (.slice q1 A.length d1) A.length B.length (A.length + B.length) A B rfl rfl rfl (by kernel_rfl) G12.out (qF q cap J 5) (cap - J) (by kernel_rfl) (part_row HRB.out K12.out O12.out) (Nat.zero_le _) HLA.out HLB.out ?_
      intro q2 d2 w14 hg14 hs14
      have G14 := Lib.hid hg14
      have K14 := Lib.hid (show BK w2 w14 from bk_own K12.out hs14 O12.out)
      have O14 := Lib.hid (show ∀ g, (Value.slice q2 (A.length + B.length) d2).ownBlock = some g → w2.heap.size ≤ g from own_keep hs14 O12.out (bk_size K12.out))
      refine hK9.out _ _ trivial (fun hHeld => ?_)
      clear hg14 hs14
      clear hK9 K9
      try simp only [Act.put, List.setIfInBounds_toArray, List.set_cons_zero, List.set_cons_succ, List.getElem_toArray, List.getElem_cons_zero, List.getElem_cons_succ]
      refine wpAnyH_take (i := 17) (v := .pointer (some ⟨mb, 0, none⟩)) rfl (by kernel_rfl) (by kernel_rfl) (by kernel_rfl) (fun _ _ _ h => h) (Or.inl ⟨by kernel_rfl, fun w hSw => by (go_simp)⟩) hHeld ?_
      try simp only [Act.put, List.setIfInBounds_toArray, List.set_cons_zero, List.set_cons_succ, List.getElem_toArray, List.getElem_cons_zero, List.getElem_cons_succ]
      refine wpAnyH_take (i := 18) (v := .pointer (some ⟨mb, 0, none⟩)) rfl (by kernel_rfl) (by kernel_rfl) (by kernel_rfl) (fun _ _ _ h => h) (Or.inl ⟨by kernel_rfl, fun w hSw => by (go_simp)⟩) hHeld ?_
      try simp only [Act.put, List.setIfInBounds_toArray, List.set_cons_zero, List.set_cons_succ, List.getElem_toArray, List.getElem_cons_zero, List.getElem_cons_succ]
      refine wpAnyH_ready (rs := [19]) (by kernel_rfl) (by simp) ?_
      refine AllReadyH.cons (o := _) rfl (fun K9 hK9 => ?_) AllReadyH.nil
      have z15 := cell_bk HC.out.1 (bk_tr K2.out K14.out)
      have y15 := (bk_frozen (bk_tr K2.out K14.out) HMW.out 0).trans HF.out.1
      go_simp
      refine hK9.out _ _ trivial (fun hHeld => ?_)
      clear z15 y15
      clear hK9 K9
      try simp only [Act.put, List.setIfInBounds_toArray, List.set_cons_zero, List.set_cons_succ, List.getElem_toArray, List.getElem_cons_zero, List.getElem_cons_succ]
      refine wpAnyH_done (by kernel_rfl) ?_ _
      have K6 := Lib.hid (bk_tr K2.out K14.out)
      have G6 := Lib.hid G14.out
      have O6 := Lib.hid O14.out
      generalize w14 = w6 at *
      have L6 := Lib.hid (show w.heap.size ≤ w6.heap.size from bk_size K6.out)
      have ST := Lib.hid (show Step w (w6.setCell ⟨mb, 0, none⟩ (.slice q2 (A.length + B.length) d2)) (fun k => k = mb) (fun k => k = mb) from ⟨K6.out.bl'.os, K6.out.bl'.tape, K6.out.bl'.output, by simpa [World.setCell] using bk_size K6.out, fun k hk hne => by rw [Below.heap_setCell _ _ _ _ hne]; exact bk_block K6.out hk, fun k h => .inl h⟩)
      have G7 := Lib.hid (show GL 0 26 5 (w6.setCell ⟨mb, 0, none⟩ (.slice q2 (A.length + B.length) d2)) (.slice q2 (A.length + B.length) d2) (A.length + B.length) (PN S (A ++ B)) from rt_mid (S := S) (k := 0) (PN.mono S _) G6.out (fun g hg e => by have := O6.out g hg; have := bk_size K2.out; have := HMW.out; omega) (pn_set NS.out))
      have C7 := Lib.hid (show (w6.setCell ⟨mb, 0, none⟩ (.slice q2 (A.length + B.length) d2)).cell? ⟨mb, 0, none⟩ = some (.slice q2 (A.length + B.length) d2) from World.cell?_setCell_same _ _ _ (cell_bk HC.out.1 K6.out))
      have D7 := Lib.hid (show (w6.setCell ⟨mb, 0, none⟩ (.slice q2 (A.length + B.length) d2)).cell? ⟨mb, 1, none⟩ = some (.slice q' M cap') from by rw [World.cell?_setCell_other _ _ _ _ (by simp)]; exact cell_bk HC.out.2 K6.out)
      have F7 := Lib.hid (show (w6.setCell ⟨mb, 0, none⟩ (.slice q2 (A.length + B.length) d2)).frozen? ⟨mb, 0, none⟩ = false ∧ (w6.setCell ⟨mb, 0, none⟩ (.slice q2 (A.length + B.length) d2)).frozen? ⟨mb, 1, none⟩ = false from ⟨by rw [World.frozen?_setCell]; exact (bk_frozen K6.out HMW.out 0).trans HF.out.1, by rw [World.frozen?_setCell]; exact (bk_frozen K6.out HMW.out 1).trans HF.out.2⟩)
      have O7 := Lib.hid (show ∀ g, (Value.slice q2 (A.length + B.length) d2).ownBlock = some g → w.heap.size ≤ g from fun g hg => Nat.le_trans (bk_size K2.out) (O6.out g hg))
      have S7 := Lib.hid (show w.heap.size ≤ (w6.setCell ⟨mb, 0, none⟩ (.slice q2 (A.length + B.length) d2)).heap.size from ST.out.size)
      clear hHeld G6 O6 K6 L6
      generalize w6.setCell ⟨mb, 0, none⟩ (.slice q2 (A.length + B.length) d2) = w7 at *
      obtain ⟨q5, hq5⟩ : ∃ x, x = q2 := ⟨_, rfl⟩
      obtain ⟨d5, hd5⟩ : ∃ x, x = d2 := ⟨_, rfl⟩
      rw [← hq5, ← hd5] at G7 C7 O7 ⊢
      clear hq5 hd5
      have RF7 := Lib.hid (BK.refl w7)
      have PA7 := Lib.hid (H2.out.1.keep (ST.out.dom (fun k hk e => NS.out (e ▸ hk))))
      have PB7 := Lib.hid (H2.out.2.keep (ST.out.dom (fun k hk e => NS.out (e ▸ hk))))
      have FZ1 := Lib.hid (fun wc (hb : BK w7 wc) => (bk_frozen hb (Nat.lt_of_lt_of_le HMW.out S7.out) 1).trans F7.out.2)
      go_wp2_with fail
      refine wp_region_held_drew (S := fun _ => True) (by kernel_rfl) trivial (fun hHeld => ?_)
      have HK1 := Lib.hid (bk_drew (BK.refl w7))
      generalize w7.drew = wI1 at HK1 ⊢
      refine wpAnyH_take (i := 0) (v := .pointer (some ⟨mb, 0, none⟩)) rfl (by kernel_rfl) (by kernel_rfl) (by kernel_rfl) (fun _ _ _ h => h) (Or.inl ⟨by kernel_rfl, fun w hSw => by (go_simp)⟩) hHeld ?_
      try simp only [Act.put, List.setIfInBounds_toArray, List.set_cons_zero, List.set_cons_succ, List.getElem_toArray, List.getElem_cons_zero, List.getElem_cons_succ]
      refine wpAnyH_take (i := 1) (v := .slice none 0 0) rfl (by kernel_rfl) (by kernel_rfl) (by kernel_rfl) (fun _ _ _ h => h) (Or.inl ⟨by kernel_rfl, fun w hSw => by (go_simp)⟩) hHeld ?_
      try simp only [Act.put, List.setIfInBounds_toArray, List.set_cons_zero, List.set_cons_succ, List.getElem_toArray, List.getElem_cons_zero, List.getElem_cons_succ]
      refine wpAnyH_take (i := 2) (v := .pointer (some ⟨mb, 0, none⟩)) rfl (by kernel_rfl) (by kernel_rfl) (by kernel_rfl) (fun _ _ _ h => h) (Or.inl ⟨by kernel_rfl, fun w hSw => by (go_simp)⟩) hHeld ?_
      try simp only [Act.put, List.setIfInBounds_toArray, List.set_cons_zero, List.set_cons_succ, List.getElem_toArray, List.getElem_cons_zero, List.getElem_cons_succ]
      refine wpAnyH_take (i := 3) (v := .pointer (some ⟨mb, 0, none⟩)) rfl (by kernel_rfl) (by kernel_rfl) (by kernel_rfl) (fun _ _ _ h => h) (Or.inl ⟨by kernel_rfl, fun w hSw => by (go_simp)⟩) hHeld ?_
      try simp only [Act.put, List.setIfInBounds_toArray, List.set_cons_zero, List.set_cons_succ, List.getElem_toArray, List.getElem_cons_zero, List.getElem_cons_succ]
      refine wpAnyH_take (i := 4) (v := .pointer (some ⟨mb, 1, none⟩)) rfl (by kernel_rfl) (by kernel_rfl) (by kernel_rfl) (fun _ _ _ h => h) (Or.inl ⟨by kernel_rfl, fun w hSw => by (go_simp)⟩) hHeld ?_
      try simp only [Act.put, List.setIfInBounds_toArray, List.set_cons_zero, List.set_cons_succ, List.getElem_toArray, List.getElem_cons_zero, List.getElem_cons_succ]
      refine wpAnyH_take (i := 6) (v := .int .i64 (A.length : Int)) rfl (by kernel_rfl) (by kernel_rfl) (by kernel_rfl) (fun _ _ _ h => h) (Or.inl ⟨by kernel_rfl, fun w hSw => by (go_simp)⟩) hHeld ?_
      try simp only [Act.put, List.setIfInBounds_toArray, List.set_cons_zero, List.set_cons_succ, List.getElem_toArray, List.getElem_cons_zero, List.getElem_cons_succ]
      refine wpAnyH_take (i := 9) (v := .pointer (some ⟨mb, 0, none⟩)) rfl (by kernel_rfl) (by kernel_rfl) (by kernel_rfl) (fun _ _ _ h => h) (Or.inl ⟨by kernel_rfl, fun w hSw => by (go_simp)⟩) hHeld ?_
      try simp only [Act.put, List.setIfInBounds_toArray, List.set_cons_zero, List.set_cons_succ, List.getElem_toArray, List.getElem_cons_zero, List.getElem_cons_succ]
      refine wpAnyH_take (i := 10) (v := .pointer (some ⟨mb, 0, none⟩)) rfl (by kernel_rfl) (by kernel_rfl) (by kernel_rfl) (fun _ _ _ h => h) (Or.inl ⟨by kernel_rfl, fun w hSw => by (go_simp)⟩) hHeld ?_
      try simp only [Act.put, List.setIfInBounds_toArray, List.set_cons_zero, List.set_cons_succ, List.getElem_toArray, List.getElem_cons_zero, List.getElem_cons_succ]
      refine wpAnyH_take (i := 11) (v := .pointer (some ⟨mb, 1, none⟩)) rfl (by kernel_rfl) (by kernel_rfl) (by kernel_rfl) (fun _ _ _ h => h) (Or.inl ⟨by kernel_rfl, fun w hSw => by (go_simp)⟩) hHeld ?_
      try simp only [Act.put, List.setIfInBounds_toArray, List.set_cons_zero, List.set_cons_succ, List.getElem_toArray, List.getElem_cons_zero, List.getElem_cons_succ]
      refine wpAnyH_take (i := 13) (v := .int .i64 (A.length : Int)) rfl (by kernel_rfl) (by kernel_rfl) (by kernel_rfl) (fun _ _ _ h => h) (Or.inl ⟨by kernel_rfl, fun w hSw => by (go_simp)⟩) hHeld ?_
      try simp only [Act.put, List.setIfInBounds_toArray, List.set_cons_zero, List.set_cons_succ, List.getElem_toArray, List.getElem_cons_zero, List.getElem_cons_succ]
      refine wpAnyH_take (i := 14) (v := .int .i64 (J : Int)) rfl (by kernel_rfl) (by kernel_rfl) (by kernel_rfl) (fun _ _ _ h => h) (Or.inl ⟨by kernel_rfl, fun w hSw => by (go_simp)⟩) hHeld ?_
      try simp only [Act.put, List.setIfInBounds_toArray, List.set_cons_zero, List.set_cons_succ, List.getElem_toArray, List.getElem_cons_zero, List.getElem_cons_succ]
      refine wpAnyH_ready (rs := [5, 12]) (by kernel_rfl) (by simp) ?_
      refine AllReadyH.cons (o := _) rfl (fun K9 hK9 => ?_) (AllReadyH.cons (o := _) rfl (fun K9 hK9 => ?_) AllReadyH.nil)
      · have z17 := cell_bk D7.out (bk_tr RF7.out HK1.out)
        go_simp
        refine hK9.out _ _ trivial (fun hHeld => ?_)
        clear z17
        clear hK9 K9
        try simp only [Act.put, List.setIfInBounds_toArray, List.set_cons_zero, List.set_cons_succ, List.getElem_toArray, List.getElem_cons_zero, List.getElem_cons_succ]
        refine wpAnyH_take (i := 7) (v := .slice q' A.length cap') rfl (by kernel_rfl) (by kernel_rfl) (by kernel_rfl) (fun _ _ _ h => h) (Or.inl ⟨by kernel_rfl, fun w hSw => by (go_simp)⟩) hHeld ?_
        try simp only [Act.put, List.setIfInBounds_toArray, List.set_cons_zero, List.set_cons_succ, List.getElem_toArray, List.getElem_cons_zero, List.getElem_cons_succ]
        refine wpAnyH_ready (rs := [8, 12]) (by kernel_rfl) (by simp) ?_
        refine AllReadyH.cons (o := _) rfl (fun K9 hK9 => ?_) (AllReadyH.cons (o := _) rfl (fun K9 hK9 => ?_) AllReadyH.nil)
        · refine Eq.mpr (if_pos (by kernel_rfl)) ?_
          refine li_appN _ _ rfl w7.heap.size (.slice none 0 0) 0 A.length [] A' rfl HIA.out.1 (by kernel_rfl) (World.ownsRow_nil _ _ _ _) q' cap' (by kernel_rfl) (dom S wI1) (RowI.keep PA7.out (bk_dom HK1.out)) (bk_size HK1.out) (Nat.zero_le _) HLA.out A.length (Nat.zero_add _) ?_
          intro q1 d1 w18 hg18 hs18
          rw [List.nil_append] at hg18
          have G18 := Lib.hid hg18
          have O18 := Lib.hid (show ∀ g, (Value.slice q1 A.length d1).ownBlock = some g → w7.heap.size ≤ g from fun g hg => (G18.out.lt g hg).1)
          have K18 := Lib.hid (show BK w7 w18 from bk_tr HK1.out (bk_step_nil hs18))
          refine hK9.out _ _ trivial (fun hHeld => ?_)
          clear hg18 hs18
          clear hK9 K9
          try simp only [Act.put, List.setIfInBounds_toArray, List.set_cons_zero, List.set_cons_succ, List.getElem_toArray, List.getElem_cons_zero, List.getElem_cons_succ]
          refine wpAnyH_ready (rs := [12]) (by kernel_rfl) (by simp) ?_
          refine AllReadyH.cons (o := _) rfl (fun K9 hK9 => ?_) AllReadyH.nil
          have z19 := cell_bk D7.out (bk_tr RF7.out K18.out)
          go_simp
          refine hK9.out _ _ trivial (fun hHeld => ?_)
          clear z19
          clear hK9 K9
          try simp only [Act.put, List.setIfInBounds_toArray, List.set_cons_zero, List.set_cons_succ, List.getElem_toArray, List.getElem_cons_zero, List.getElem_cons_succ]
          refine wpAnyH_take (i := 15) (v := .slice (qF q' cap' J 1) B.length (cap' - J)) rfl (by kernel_rfl) (by kernel_rfl) (by kernel_rfl) (fun _ _ _ h => h) (Or.inl ⟨by kernel_rfl, fun w hSw => by (go_simp)⟩) hHeld ?_
          try simp only [Act.put, List.setIfInBounds_toArray, List.set_cons_zero, List.set_cons_succ, List.getElem_toArray, List.getElem_cons_zero, List.getElem_cons_succ]
          refine wpAnyH_ready (rs := [16]) (by kernel_rfl) (by simp) ?_
          refine AllReadyH.cons (o := _) rfl (fun K9 hK9 => ?_) AllReadyH.nil
          refine Eq.mpr (if_pos (by kernel_rfl)) ?_
          refine li_appN _ _ rfl w7.heap.size (.slice q1 A.length d1) A.length B.length A' B' HIA.out.1 HIA.out.2 (by kernel_rfl) G18.out (qF q' cap' J 1) (cap' - J) (by kernel_rfl) (dom S w18) (RowI.keep PB7.out (bk_dom K18.out)) (bk_size K18.out) HLA.out HLB.out (A.length + B.length) rfl ?_
          intro q2 d2 w20 hg20 hs20
          have G20 := Lib.hid hg20
          have K20 := Lib.hid (show BK w7 w20 from bk_own K18.out hs20 O18.out)
          have O20 := Lib.hid (show ∀ g, (Value.slice q2 (A.length + B.length) d2).ownBlock = some g → w7.heap.size ≤ g from own_keep hs20 O18.out (bk_size K18.out))
          refine hK9.out _ _ trivial (fun hHeld => ?_)
          clear hg20 hs20
          clear hK9 K9
          try simp only [Act.put, List.setIfInBounds_toArray, List.set_cons_zero, List.set_cons_succ, List.getElem_toArray, List.getElem_cons_zero, List.getElem_cons_succ]
          refine wpAnyH_take (i := 17) (v := .pointer (some ⟨mb, 0, none⟩)) rfl (by kernel_rfl) (by kernel_rfl) (by kernel_rfl) (fun _ _ _ h => h) (Or.inl ⟨by kernel_rfl, fun w hSw => by (go_simp)⟩) hHeld ?_
          try simp only [Act.put, List.setIfInBounds_toArray, List.set_cons_zero, List.set_cons_succ, List.getElem_toArray, List.getElem_cons_zero, List.getElem_cons_succ]
          refine wpAnyH_take (i := 18) (v := .pointer (some ⟨mb, 1, none⟩)) rfl (by kernel_rfl) (by kernel_rfl) (by kernel_rfl) (fun _ _ _ h => h) (Or.inl ⟨by kernel_rfl, fun w hSw => by (go_simp)⟩) hHeld ?_
          try simp only [Act.put, List.setIfInBounds_toArray, List.set_cons_zero, List.set_cons_succ, List.getElem_toArray, List.getElem_cons_zero, List.getElem_cons_succ]
          refine wpAnyH_ready (rs := [19]) (by kernel_rfl) (by simp) ?_
          refine AllReadyH.cons (o := _) rfl (fun K9 hK9 => ?_) AllReadyH.nil
          have z21 := cell_bk D7.out (bk_tr RF7.out K20.out)
          have y21 := FZ1.out _ K20.out
          go_simp
          refine hK9.out _ _ trivial (fun hHeld => ?_)
          clear z21 y21
          clear hK9 K9
          try simp only [Act.put, List.setIfInBounds_toArray, List.set_cons_zero, List.set_cons_succ, List.getElem_toArray, List.getElem_cons_zero, List.getElem_cons_succ]
          refine wpAnyH_done (by kernel_rfl) ?_ _
          have K8 := Lib.hid (show BK w7 w20 from K20.out)
          have I8 := Lib.hid G20.out
          have G8 := Lib.hid (G7.out.bk (PN.mono S _) K8.out)
          generalize w20 = w8 at *
          have X0 := Lib.hid (cell_bk C7.out K8.out)
          have X1 := Lib.hid (cell_bk D7.out K8.out)
          have Y0 := Lib.hid ((bk_frozen K8.out (Nat.lt_of_lt_of_le HMW.out S7.out) 0).trans F7.out.1)
          have Y1 := Lib.hid ((bk_frozen K8.out (Nat.lt_of_lt_of_le HMW.out S7.out) 1).trans F7.out.2)
          have EL := Lib.hid (show A.length + B.length = (A ++ B).length from by simp)
          have EM := Lib.hid (show A.length + B.length = (A' ++ B').length from by rw [List.length_append, HIA.out.1, HIA.out.2])
          go_wp2_with fail
          go_ret
          refine ⟨rfl, ?_, ?_⟩
          · have i8 := I8.out
            rw [EM.out] at i8
            have g8 := G8.out
            have o8 := O7.out
            rw [EL.out] at g8 o8
            have X0' := X0.out
            have R := rt_put (Nat.lt_of_lt_of_le HMW.out (Nat.le_trans S7.out (bk_size K8.out))) NS.out X0' X1.out Y0.out Y1.out g8 o8 i8 HSS0.out S7.out
            rw [← EL.out, ← EM.out] at R
            rw [set_same X0.out] at R
            exact R
          · exact ⟨K8.out.bl'.os.trans ST.out.os, K8.out.bl'.tape.trans ST.out.tape, K8.out.bl'.output.trans ST.out.output, by have := bk_size K8.out; have := S7.out; simp [World.setCell]; omega, fun k hk hne => by rw [Below.heap_setCell _ _ _ _ hne, bk_block K8.out (Nat.lt_of_lt_of_le hk S7.out)]; exact ST.out.block k hk hne, fun k h => .inl h⟩
        · have z22 := cell_bk D7.out (bk_tr RF7.out HK1.out)
          go_simp
          refine hK9.out _ _ trivial (fun hHeld => ?_)
          clear z22
          clear hK9 K9
          try simp only [Act.put, List.setIfInBounds_toArray, List.set_cons_zero, List.set_cons_succ, List.getElem_toArray, List.getElem_cons_zero, List.getElem_cons_succ]
          refine wpAnyH_take (i := 15) (v := .slice (qF q' cap' J 1) B.length (cap' - J)) rfl (by kernel_rfl) (by kernel_rfl) (by kernel_rfl) (fun _ _ _ h => h) (Or.inl ⟨by kernel_rfl, fun w hSw => by (go_simp)⟩) hHeld ?_
          try simp only [Act.put, List.setIfInBounds_toArray, List.set_cons_zero, List.set_cons_succ, List.getElem_toArray, List.getElem_cons_zero, List.getElem_cons_succ]
          refine wpAnyH_ready (rs := [8]) (by kernel_rfl) (by simp) ?_
          refine AllReadyH.cons (o := _) rfl (fun K9 hK9 => ?_) AllReadyH.nil
          refine Eq.mpr (if_pos (by kernel_rfl)) ?_
          refine li_appN _ _ rfl w7.heap.size (.slice none 0 0) 0 A.length [] A' rfl HIA.out.1 (by kernel_rfl) (World.ownsRow_nil _ _ _ _) q' cap' (by kernel_rfl) (dom S wI1) (RowI.keep PA7.out (bk_dom HK1.out)) (bk_size HK1.out) (Nat.zero_le _) HLA.out A.length (Nat.zero_add _) ?_
          intro q1 d1 w23 hg23 hs23
          rw [List.nil_append] at hg23
          have G23 := Lib.hid hg23
          have O23 := Lib.hid (show ∀ g, (Value.slice q1 A.length d1).ownBlock = some g → w7.heap.size ≤ g from fun g hg => (G23.out.lt g hg).1)
          have K23 := Lib.hid (show BK w7 w23 from bk_tr HK1.out (bk_step_nil hs23))
          refine hK9.out _ _ trivial (fun hHeld => ?_)
          clear hg23 hs23
          clear hK9 K9
          try simp only [Act.put, List.setIfInBounds_toArray, List.set_cons_zero, List.set_cons_succ, List.getElem_toArray, List.getElem_cons_zero, List.getElem_cons_succ]
          refine wpAnyH_ready (rs := [16]) (by kernel_rfl) (by simp) ?_
          refine AllReadyH.cons (o := _) rfl (fun K9 hK9 => ?_) AllReadyH.nil
          refine Eq.mpr (if_pos (by kernel_rfl)) ?_
          refine li_appN _ _ rfl w7.heap.size (.slice q1 A.length d1) A.length B.length A' B' HIA.out.1 HIA.out.2 (by kernel_rfl) G23.out (qF q' cap' J 1) (cap' - J) (by kernel_rfl) (dom S w23) (RowI.keep PB7.out (bk_dom K23.out)) (bk_size K23.out) HLA.out HLB.out (A.length + B.length) rfl ?_
          intro q2 d2 w24 hg24 hs24
          have G24 := Lib.hid hg24
          have K24 := Lib.hid (show BK w7 w24 from bk_own K23.out hs24 O23.out)
          have O24 := Lib.hid (show ∀ g, (Value.slice q2 (A.length + B.length) d2).ownBlock = some g → w7.heap.size ≤ g from own_keep hs24 O23.out (bk_size K23.out))
          refine hK9.out _ _ trivial (fun hHeld => ?_)
          clear hg24 hs24
          clear hK9 K9
          try simp only [Act.put, List.setIfInBounds_toArray, List.set_cons_zero, List.set_cons_succ, List.getElem_toArray, List.getElem_cons_zero, List.getElem_cons_succ]
          refine wpAnyH_take (i := 17) (v := .pointer (some ⟨mb, 0, none⟩)) rfl (by kernel_rfl) (by kernel_rfl) (by kernel_rfl) (fun _ _ _ h => h) (Or.inl ⟨by kernel_rfl, fun w hSw => by (go_simp)⟩) hHeld ?_
          try simp only [Act.put, List.setIfInBounds_toArray, List.set_cons_zero, List.set_cons_succ, List.getElem_toArray, List.getElem_cons_zero, List.getElem_cons_succ]
          refine wpAnyH_take (i := 18) (v := .pointer (some ⟨mb, 1, none⟩)) rfl (by kernel_rfl) (by kernel_rfl) (by kernel_rfl) (fun _ _ _ h => h) (Or.inl ⟨by kernel_rfl, fun w hSw => by (go_simp)⟩) hHeld ?_
          try simp only [Act.put, List.setIfInBounds_toArray, List.set_cons_zero, List.set_cons_succ, List.getElem_toArray, List.getElem_cons_zero, List.getElem_cons_succ]
          refine wpAnyH_ready (rs := [19]) (by kernel_rfl) (by simp) ?_
          refine AllReadyH.cons (o := _) rfl (fun K9 hK9 => ?_) AllReadyH.nil
          have z25 := cell_bk D7.out (bk_tr RF7.out K24.out)
          have y25 := FZ1.out _ K24.out
          go_simp
          refine hK9.out _ _ trivial (fun hHeld => ?_)
          clear z25 y25
          clear hK9 K9
          try simp only [Act.put, List.setIfInBounds_toArray, List.set_cons_zero, List.set_cons_succ, List.getElem_toArray, List.getElem_cons_zero, List.getElem_cons_succ]
          refine wpAnyH_done (by kernel_rfl) ?_ _
          have K8 := Lib.hid (show BK w7 w24 from K24.out)
          have I8 := Lib.hid G24.out
          have G8 := Lib.hid (G7.out.bk (PN.mono S _) K8.out)
          generalize w24 = w8 at *
          have X0 := Lib.hid (cell_bk C7.out K8.out)
          have X1 := Lib.hid (cell_bk D7.out K8.out)
          have Y0 := Lib.hid ((bk_frozen K8.out (Nat.lt_of_lt_of_le HMW.out S7.out) 0).trans F7.out.1)
          have Y1 := Lib.hid ((bk_frozen K8.out (Nat.lt_of_lt_of_le HMW.out S7.out) 1).trans F7.out.2)
          have EL := Lib.hid (show A.length + B.length = (A ++ B).length from by simp)
          have EM := Lib.hid (show A.length + B.length = (A' ++ B').length from by rw [List.length_append, HIA.out.1, HIA.out.2])
          go_wp2_with fail
          go_ret
          refine ⟨rfl, ?_, ?_⟩
          · have i8 := I8.out
            rw [EM.out] at i8
            have g8 := G8.out
            have o8 := O7.out
            rw [EL.out] at g8 o8
            have X0' := X0.out
            have R := rt_put (Nat.lt_of_lt_of_le HMW.out (Nat.le_trans S7.out (bk_size K8.out))) NS.out X0' X1.out Y0.out Y1.out g8 o8 i8 HSS0.out S7.out
            rw [← EL.out, ← EM.out] at R
            rw [set_same X0.out] at R
            exact R
          · exact ⟨K8.out.bl'.os.trans ST.out.os, K8.out.bl'.tape.trans ST.out.tape, K8.out.bl'.output.trans ST.out.output, by have := bk_size K8.out; have := S7.out; simp [World.setCell]; omega, fun k hk hne => by rw [Below.heap_setCell _ _ _ _ hne, bk_block K8.out (Nat.lt_of_lt_of_le hk S7.out)]; exact ST.out.block k hk hne, fun k h => .inl h⟩
      · have z26 := cell_bk D7.out (bk_tr RF7.out HK1.out)
        go_simp
        refine hK9.out _ _ trivial (fun hHeld => ?_)
        clear z26
        clear hK9 K9
        try simp only [Act.put, List.setIfInBounds_toArray, List.set_cons_zero, List.set_cons_succ, List.getElem_toArray, List.getElem_cons_zero, List.getElem_cons_succ]
        refine wpAnyH_take (i := 15) (v := .slice (qF q' cap' J 1) B.length (cap' - J)) rfl (by kernel_rfl) (by kernel_rfl) (by kernel_rfl) (fun _ _ _ h => h) (Or.inl ⟨by kernel_rfl, fun w hSw => by (go_simp)⟩) hHeld ?_
        try simp only [Act.put, List.setIfInBounds_toArray, List.set_cons_zero, List.set_cons_succ, List.getElem_toArray, List.getElem_cons_zero, List.getElem_cons_succ]
        refine wpAnyH_ready (rs := [5]) (by kernel_rfl) (by simp) ?_
        refine AllReadyH.cons (o := _) rfl (fun K9 hK9 => ?_) AllReadyH.nil
        have z27 := cell_bk D7.out (bk_tr RF7.out HK1.out)
        go_simp
        refine hK9.out _ _ trivial (fun hHeld => ?_)
        clear z27
        clear hK9 K9
        try simp only [Act.put, List.setIfInBounds_toArray, List.set_cons_zero, List.set_cons_succ, List.getElem_toArray, List.getElem_cons_zero, List.getElem_cons_succ]
        refine wpAnyH_take (i := 7) (v := .slice q' A.length cap') rfl (by kernel_rfl) (by kernel_rfl) (by kernel_rfl) (fun _ _ _ h => h) (Or.inl ⟨by kernel_rfl, fun w hSw => by (go_simp)⟩) hHeld ?_
        try simp only [Act.put, List.setIfInBounds_toArray, List.set_cons_zero, List.set_cons_succ, List.getElem_toArray, List.getElem_cons_zero, List.getElem_cons_succ]
        refine wpAnyH_ready (rs := [8]) (by kernel_rfl) (by simp) ?_
        refine AllReadyH.cons (o := _) rfl (fun K9 hK9 => ?_) AllReadyH.nil
        refine Eq.mpr (if_pos (by kernel_rfl)) ?_
        refine li_appN _ _ rfl w7.heap.size (.slice none 0 0) 0 A.length [] A' rfl HIA.out.1 (by kernel_rfl) (World.ownsRow_nil _ _ _ _) q' cap' (by kernel_rfl) (dom S wI1) (RowI.keep PA7.out (bk_dom HK1.out)) (bk_size HK1.out) (Nat.zero_le _) HLA.out A.length (Nat.zero_add _) ?_
        intro q1 d1 w28 hg28 hs28
        rw [List.nil_append] at hg28
        have G28 := Lib.hid hg28
        have O28 := Lib.hid (show ∀ g, (Value.slice q1 A.length d1).ownBlock = some g → w7.heap.size ≤ g from fun g hg => (G28.out.lt g hg).1)
        have K28 := Lib.hid (show BK w7 w28 from bk_tr HK1.out (bk_step_nil hs28))
        refine hK9.out _ _ trivial (fun hHeld => ?_)
        clear hg28 hs28
        clear hK9 K9
        try simp only [Act.put, List.setIfInBounds_toArray, List.set_cons_zero, List.set_cons_succ, List.getElem_toArray, List.getElem_cons_zero, List.getElem_cons_succ]
        refine wpAnyH_ready (rs := [16]) (by kernel_rfl) (by simp) ?_
        refine AllReadyH.cons (o := _) rfl (fun K9 hK9 => ?_) AllReadyH.nil
        refine Eq.mpr (if_pos (by kernel_rfl)) ?_
        refine li_appN _ _ rfl w7.heap.size (.slice q1 A.length d1) A.length B.length A' B' HIA.out.1 HIA.out.2 (by kernel_rfl) G28.out (qF q' cap' J 1) (cap' - J) (by kernel_rfl) (dom S w28) (RowI.keep PB7.out (bk_dom K28.out)) (bk_size K28.out) HLA.out HLB.out (A.length + B.length) rfl ?_
        intro q2 d2 w29 hg29 hs29
        have G29 := Lib.hid hg29
        have K29 := Lib.hid (show BK w7 w29 from bk_own K28.out hs29 O28.out)
        have O29 := Lib.hid (show ∀ g, (Value.slice q2 (A.length + B.length) d2).ownBlock = some g → w7.heap.size ≤ g from own_keep hs29 O28.out (bk_size K28.out))
        refine hK9.out _ _ trivial (fun hHeld => ?_)
        clear hg29 hs29
        clear hK9 K9
        try simp only [Act.put, List.setIfInBounds_toArray, List.set_cons_zero, List.set_cons_succ, List.getElem_toArray, List.getElem_cons_zero, List.getElem_cons_succ]
        refine wpAnyH_take (i := 17) (v := .pointer (some ⟨mb, 0, none⟩)) rfl (by kernel_rfl) (by kernel_rfl) (by kernel_rfl) (fun _ _ _ h => h) (Or.inl ⟨by kernel_rfl, fun w hSw => by (go_simp)⟩) hHeld ?_
        try simp only [Act.put, List.setIfInBounds_toArray, List.set_cons_zero, List.set_cons_succ, List.getElem_toArray, List.getElem_cons_zero, List.getElem_cons_succ]
        refine wpAnyH_take (i := 18) (v := .pointer (some ⟨mb, 1, none⟩)) rfl (by kernel_rfl) (by kernel_rfl) (by kernel_rfl) (fun _ _ _ h => h) (Or.inl ⟨by kernel_rfl, fun w hSw => by (go_simp)⟩) hHeld ?_
        try simp only [Act.put, List.setIfInBounds_toArray, List.set_cons_zero, List.set_cons_succ, List.getElem_toArray, List.getElem_cons_zero, List.getElem_cons_succ]
        refine wpAnyH_ready (rs := [19]) (by kernel_rfl) (by simp) ?_
        refine AllReadyH.cons (o := _) rfl (fun K9 hK9 => ?_) AllReadyH.nil
        have z30 := cell_bk D7.out (bk_tr RF7.out K29.out)
        have y30 := FZ1.out _ K29.out
        go_simp
        refine hK9.out _ _ trivial (fun hHeld => ?_)
        clear z30 y30
        clear hK9 K9
        try simp only [Act.put, List.setIfInBounds_toArray, List.set_cons_zero, List.set_cons_succ, List.getElem_toArray, List.getElem_cons_zero, List.getElem_cons_succ]
        refine wpAnyH_done (by kernel_rfl) ?_ _
        have K8 := Lib.hid (show BK w7 w29 from K29.out)
        have I8 := Lib.hid G29.out
        have G8 := Lib.hid (G7.out.bk (PN.mono S _) K8.out)
        generalize w29 = w8 at *
        have X0 := Lib.hid (cell_bk C7.out K8.out)
        have X1 := Lib.hid (cell_bk D7.out K8.out)
        have Y0 := Lib.hid ((bk_frozen K8.out (Nat.lt_of_lt_of_le HMW.out S7.out) 0).trans F7.out.1)
        have Y1 := Lib.hid ((bk_frozen K8.out (Nat.lt_of_lt_of_le HMW.out S7.out) 1).trans F7.out.2)
        have EL := Lib.hid (show A.length + B.length = (A ++ B).length from by simp)
        have EM := Lib.hid (show A.length + B.length = (A' ++ B').length from by rw [List.length_append, HIA.out.1, HIA.out.2])
        go_wp2_with fail
        go_ret
        refine ⟨rfl, ?_, ?_⟩
        · have i8 := I8.out
          rw [EM.out] at i8
          have g8 := G8.out
          have o8 := O7.out
          rw [EL.out] at g8 o8
          have X0' := X0.out
          have R := rt_put (Nat.lt_of_lt_of_le HMW.out (Nat.le_trans S7.out (bk_size K8.out))) NS.out X0' X1.out Y0.out Y1.out g8 o8 i8 HSS0.out S7.out
          rw [← EL.out, ← EM.out] at R
          rw [set_same X0.out] at R
          exact R
        · exact ⟨K8.out.bl'.os.trans ST.out.os, K8.out.bl'.tape.trans ST.out.tape, K8.out.bl'.output.trans ST.out.output, by have := bk_size K8.out; have := S7.out; simp [World.setCell]; omega, fun k hk hne => by rw [Below.heap_setCell _ _ _ _ hne, bk_block K8.out (Nat.lt_of_lt_of_le hk S7.out)]; exact ST.out.block k hk hne, fun k h => .inl h⟩
    · have z31 := cell_bk HC.out.1 (bk_tr K2.out HK0.out)
      go_simp
      refine hK9.out _ _ trivial (fun hHeld => ?_)
      clear z31
      clear hK9 K9
      try simp only [Act.put, List.setIfInBounds_toArray, List.set_cons_zero, List.set_cons_succ, List.getElem_toArray, List.getElem_cons_zero, List.getElem_cons_succ]
      refine wpAnyH_take (i := 15) (v := .slice (qF q cap J 5) B.length (cap - J)) rfl (by kernel_rfl) (by kernel_rfl) (by kernel_rfl) (fun _ _ _ h => h) (Or.inl ⟨by kernel_rfl, fun w hSw => by (go_simp)⟩) hHeld ?_
      try simp only [Act.put, List.setIfInBounds_toArray, List.set_cons_zero, List.set_cons_succ, List.getElem_toArray, List.getElem_cons_zero, List.getElem_cons_succ]
      refine wpAnyH_ready (rs := [8]) (by kernel_rfl) (by simp) ?_
      refine AllReadyH.cons (o := _) rfl (fun K9 hK9 => ?_) AllReadyH.nil
      refine Eq.mpr (if_pos (by kernel_rfl)) ?_
      refine gl_app0 _ _ rfl S A (by kernel_rfl) q cap (by kernel_rfl) (part_row HRA.out HK0.out (fun g hg => by cases hg)) HLA.out ?_
      intro q1 d1 w32 hg32 hs32
      have G32 := Lib.hid hg32
      have O32 := Lib.hid (show ∀ g, (Value.slice q1 A.length d1).ownBlock = some g → w2.heap.size ≤ g from fun g hg => Nat.le_trans (bk_size HK0.out) (new_of_nil hs32 g hg))
      have K32 := Lib.hid (show BK w2 w32 from bk_tr HK0.out (bk_step_nil hs32))
      refine hK9.out _ _ trivial (fun hHeld => ?_)
      clear hg32 hs32
      clear hK9 K9
      try simp only [Act.put, List.setIfInBounds_toArray, List.set_cons_zero, List.set_cons_succ, List.getElem_toArray, List.getElem_cons_zero, List.getElem_cons_succ]
      refine wpAnyH_ready (rs := [16]) (by kernel_rfl) (by simp) ?_
      refine AllReadyH.cons (o := _) rfl (fun K9 hK9 => ?_) AllReadyH.nil
      refine Eq.mpr (if_pos (by kernel_rfl)) ?_
      refine gl_appN _ _ rfl S 0 (.slice q1 A.length d1) A.length B.length (A.length + B.length) A B rfl rfl rfl (by kernel_rfl) G32.out (qF q cap J 5) (cap - J) (by kernel_rfl) (part_row HRB.out K32.out O32.out) (Nat.zero_le _) HLA.out HLB.out ?_
      intro q2 d2 w33 hg33 hs33
      have G33 := Lib.hid hg33
      have K33 := Lib.hid (show BK w2 w33 from bk_own K32.out hs33 O32.out)
      have O33 := Lib.hid (show ∀ g, (Value.slice q2 (A.length + B.length) d2).ownBlock = some g → w2.heap.size ≤ g from own_keep hs33 O32.out (bk_size K32.out))
      refine hK9.out _ _ trivial (fun hHeld => ?_)
      clear hg33 hs33
      clear hK9 K9
      try simp only [Act.put, List.setIfInBounds_toArray, List.set_cons_zero, List.set_cons_succ, List.getElem_toArray, List.getElem_cons_zero, List.getElem_cons_succ]
      refine wpAnyH_take (i := 17) (v := .pointer (some ⟨mb, 0, none⟩)) rfl (by kernel_rfl) (by kernel_rfl) (by kernel_rfl) (fun _ _ _ h => h) (Or.inl ⟨by kernel_rfl, fun w hSw => by (go_simp)⟩) hHeld ?_
      try simp only [Act.put, List.setIfInBounds_toArray, List.set_cons_zero, List.set_cons_succ, List.getElem_toArray, List.getElem_cons_zero, List.getElem_cons_succ]
      refine wpAnyH_take (i := 18) (v := .pointer (some ⟨mb, 0, none⟩)) rfl (by kernel_rfl) (by kernel_rfl) (by kernel_rfl) (fun _ _ _ h => h) (Or.inl ⟨by kernel_rfl, fun w hSw => by (go_simp)⟩) hHeld ?_
      try simp only [Act.put, List.setIfInBounds_toArray, List.set_cons_zero, List.set_cons_succ, List.getElem_toArray, List.getElem_cons_zero, List.getElem_cons_succ]
      refine wpAnyH_ready (rs := [19]) (by kernel_rfl) (by simp) ?_
      refine AllReadyH.cons (o := _) rfl (fun K9 hK9 => ?_) AllReadyH.nil
      have z34 := cell_bk HC.out.1 (bk_tr K2.out K33.out)
      have y34 := (bk_frozen (bk_tr K2.out K33.out) HMW.out 0).trans HF.out.1
      go_simp
      refine hK9.out _ _ trivial (fun hHeld => ?_)
      clear z34 y34
      clear hK9 K9
      try simp only [Act.put, List.setIfInBounds_toArray, List.set_cons_zero, List.set_cons_succ, List.getElem_toArray, List.getElem_cons_zero, List.getElem_cons_succ]
      refine wpAnyH_done (by kernel_rfl) ?_ _
      have K6 := Lib.hid (bk_tr K2.out K33.out)
      have G6 := Lib.hid G33.out
      have O6 := Lib.hid O33.out
      generalize w33 = w6 at *
      have L6 := Lib.hid (show w.heap.size ≤ w6.heap.size from bk_size K6.out)
      have ST := Lib.hid (show Step w (w6.setCell ⟨mb, 0, none⟩ (.slice q2 (A.length + B.length) d2)) (fun k => k = mb) (fun k => k = mb) from ⟨K6.out.bl'.os, K6.out.bl'.tape, K6.out.bl'.output, by simpa [World.setCell] using bk_size K6.out, fun k hk hne => by rw [Below.heap_setCell _ _ _ _ hne]; exact bk_block K6.out hk, fun k h => .inl h⟩)
      have G7 := Lib.hid (show GL 0 26 5 (w6.setCell ⟨mb, 0, none⟩ (.slice q2 (A.length + B.length) d2)) (.slice q2 (A.length + B.length) d2) (A.length + B.length) (PN S (A ++ B)) from rt_mid (S := S) (k := 0) (PN.mono S _) G6.out (fun g hg e => by have := O6.out g hg; have := bk_size K2.out; have := HMW.out; omega) (pn_set NS.out))
      have C7 := Lib.hid (show (w6.setCell ⟨mb, 0, none⟩ (.slice q2 (A.length + B.length) d2)).cell? ⟨mb, 0, none⟩ = some (.slice q2 (A.length + B.length) d2) from World.cell?_setCell_same _ _ _ (cell_bk HC.out.1 K6.out))
      have D7 := Lib.hid (show (w6.setCell ⟨mb, 0, none⟩ (.slice q2 (A.length + B.length) d2)).cell? ⟨mb, 1, none⟩ = some (.slice q' M cap') from by rw [World.cell?_setCell_other _ _ _ _ (by simp)]; exact cell_bk HC.out.2 K6.out)
      have F7 := Lib.hid (show (w6.setCell ⟨mb, 0, none⟩ (.slice q2 (A.length + B.length) d2)).frozen? ⟨mb, 0, none⟩ = false ∧ (w6.setCell ⟨mb, 0, none⟩ (.slice q2 (A.length + B.length) d2)).frozen? ⟨mb, 1, none⟩ = false from ⟨by rw [World.frozen?_setCell]; exact (bk_frozen K6.out HMW.out 0).trans HF.out.1, by rw [World.frozen?_setCell]; exact (bk_frozen K6.out HMW.out 1).trans HF.out.2⟩)
      have O7 := Lib.hid (show ∀ g, (Value.slice q2 (A.length + B.length) d2).ownBlock = some g → w.heap.size ≤ g from fun g hg => Nat.le_trans (bk_size K2.out) (O6.out g hg))
      have S7 := Lib.hid (show w.heap.size ≤ (w6.setCell ⟨mb, 0, none⟩ (.slice q2 (A.length + B.length) d2)).heap.size from ST.out.size)
      clear hHeld G6 O6 K6 L6
      generalize w6.setCell ⟨mb, 0, none⟩ (.slice q2 (A.length + B.length) d2) = w7 at *
      obtain ⟨q5, hq5⟩ : ∃ x, x = q2 := ⟨_, rfl⟩
      obtain ⟨d5, hd5⟩ : ∃ x, x = d2 := ⟨_, rfl⟩
      rw [← hq5, ← hd5] at G7 C7 O7 ⊢
      clear hq5 hd5
      have RF7 := Lib.hid (BK.refl w7)
      have PA7 := Lib.hid (H2.out.1.keep (ST.out.dom (fun k hk e => NS.out (e ▸ hk))))
      have PB7 := Lib.hid (H2.out.2.keep (ST.out.dom (fun k hk e => NS.out (e ▸ hk))))
      have FZ1 := Lib.hid (fun wc (hb : BK w7 wc) => (bk_frozen hb (Nat.lt_of_lt_of_le HMW.out S7.out) 1).trans F7.out.2)
      go_wp2_with fail
      refine wp_region_held_drew (S := fun _ => True) (by kernel_rfl) trivial (fun hHeld => ?_)
      have HK1 := Lib.hid (bk_drew (BK.refl w7))
      generalize w7.drew = wI1 at HK1 ⊢
      refine wpAnyH_take (i := 0) (v := .pointer (some ⟨mb, 0, none⟩)) rfl (by kernel_rfl) (by kernel_rfl) (by kernel_rfl) (fun _ _ _ h => h) (Or.inl ⟨by kernel_rfl, fun w hSw => by (go_simp)⟩) hHeld ?_
      try simp only [Act.put, List.setIfInBounds_toArray, List.set_cons_zero, List.set_cons_succ, List.getElem_toArray, List.getElem_cons_zero, List.getElem_cons_succ]
      refine wpAnyH_take (i := 1) (v := .slice none 0 0) rfl (by kernel_rfl) (by kernel_rfl) (by kernel_rfl) (fun _ _ _ h => h) (Or.inl ⟨by kernel_rfl, fun w hSw => by (go_simp)⟩) hHeld ?_
      try simp only [Act.put, List.setIfInBounds_toArray, List.set_cons_zero, List.set_cons_succ, List.getElem_toArray, List.getElem_cons_zero, List.getElem_cons_succ]
      refine wpAnyH_take (i := 2) (v := .pointer (some ⟨mb, 0, none⟩)) rfl (by kernel_rfl) (by kernel_rfl) (by kernel_rfl) (fun _ _ _ h => h) (Or.inl ⟨by kernel_rfl, fun w hSw => by (go_simp)⟩) hHeld ?_
      try simp only [Act.put, List.setIfInBounds_toArray, List.set_cons_zero, List.set_cons_succ, List.getElem_toArray, List.getElem_cons_zero, List.getElem_cons_succ]
      refine wpAnyH_take (i := 3) (v := .pointer (some ⟨mb, 0, none⟩)) rfl (by kernel_rfl) (by kernel_rfl) (by kernel_rfl) (fun _ _ _ h => h) (Or.inl ⟨by kernel_rfl, fun w hSw => by (go_simp)⟩) hHeld ?_
      try simp only [Act.put, List.setIfInBounds_toArray, List.set_cons_zero, List.set_cons_succ, List.getElem_toArray, List.getElem_cons_zero, List.getElem_cons_succ]
      refine wpAnyH_take (i := 4) (v := .pointer (some ⟨mb, 1, none⟩)) rfl (by kernel_rfl) (by kernel_rfl) (by kernel_rfl) (fun _ _ _ h => h) (Or.inl ⟨by kernel_rfl, fun w hSw => by (go_simp)⟩) hHeld ?_
      try simp only [Act.put, List.setIfInBounds_toArray, List.set_cons_zero, List.set_cons_succ, List.getElem_toArray, List.getElem_cons_zero, List.getElem_cons_succ]
      refine wpAnyH_take (i := 6) (v := .int .i64 (A.length : Int)) rfl (by kernel_rfl) (by kernel_rfl) (by kernel_rfl) (fun _ _ _ h => h) (Or.inl ⟨by kernel_rfl, fun w hSw => by (go_simp)⟩) hHeld ?_
      try simp only [Act.put, List.setIfInBounds_toArray, List.set_cons_zero, List.set_cons_succ, List.getElem_toArray, List.getElem_cons_zero, List.getElem_cons_succ]
      refine wpAnyH_take (i := 9) (v := .pointer (some ⟨mb, 0, none⟩)) rfl (by kernel_rfl) (by kernel_rfl) (by kernel_rfl) (fun _ _ _ h => h) (Or.inl ⟨by kernel_rfl, fun w hSw => by (go_simp)⟩) hHeld ?_
      try simp only [Act.put, List.setIfInBounds_toArray, List.set_cons_zero, List.set_cons_succ, List.getElem_toArray, List.getElem_cons_zero, List.getElem_cons_succ]
      refine wpAnyH_take (i := 10) (v := .pointer (some ⟨mb, 0, none⟩)) rfl (by kernel_rfl) (by kernel_rfl) (by kernel_rfl) (fun _ _ _ h => h) (Or.inl ⟨by kernel_rfl, fun w hSw => by (go_simp)⟩) hHeld ?_
      try simp only [Act.put, List.setIfInBounds_toArray, List.set_cons_zero, List.set_cons_succ, List.getElem_toArray, List.getElem_cons_zero, List.getElem_cons_succ]
      refine wpAnyH_take (i := 11) (v := .pointer (some ⟨mb, 1, none⟩)) rfl (by kernel_rfl) (by kernel_rfl) (by kernel_rfl) (fun _ _ _ h => h) (Or.inl ⟨by kernel_rfl, fun w hSw => by (go_simp)⟩) hHeld ?_
      try simp only [Act.put, List.setIfInBounds_toArray, List.set_cons_zero, List.set_cons_succ, List.getElem_toArray, List.getElem_cons_zero, List.getElem_cons_succ]
      refine wpAnyH_take (i := 13) (v := .int .i64 (A.length : Int)) rfl (by kernel_rfl) (by kernel_rfl) (by kernel_rfl) (fun _ _ _ h => h) (Or.inl ⟨by kernel_rfl, fun w hSw => by (go_simp)⟩) hHeld ?_
      try simp only [Act.put, List.setIfInBounds_toArray, List.set_cons_zero, List.set_cons_succ, List.getElem_toArray, List.getElem_cons_zero, List.getElem_cons_succ]
      refine wpAnyH_take (i := 14) (v := .int .i64 (J : Int)) rfl (by kernel_rfl) (by kernel_rfl) (by kernel_rfl) (fun _ _ _ h => h) (Or.inl ⟨by kernel_rfl, fun w hSw => by (go_simp)⟩) hHeld ?_
      try simp only [Act.put, List.setIfInBounds_toArray, List.set_cons_zero, List.set_cons_succ, List.getElem_toArray, List.getElem_cons_zero, List.getElem_cons_succ]
      refine wpAnyH_ready (rs := [5, 12]) (by kernel_rfl) (by simp) ?_
      refine AllReadyH.cons (o := _) rfl (fun K9 hK9 => ?_) (AllReadyH.cons (o := _) rfl (fun K9 hK9 => ?_) AllReadyH.nil)
      · have z36 := cell_bk D7.out (bk_tr RF7.out HK1.out)
        go_simp
        refine hK9.out _ _ trivial (fun hHeld => ?_)
        clear z36
        clear hK9 K9
        try simp only [Act.put, List.setIfInBounds_toArray, List.set_cons_zero, List.set_cons_succ, List.getElem_toArray, List.getElem_cons_zero, List.getElem_cons_succ]
        refine wpAnyH_take (i := 7) (v := .slice q' A.length cap') rfl (by kernel_rfl) (by kernel_rfl) (by kernel_rfl) (fun _ _ _ h => h) (Or.inl ⟨by kernel_rfl, fun w hSw => by (go_simp)⟩) hHeld ?_
        try simp only [Act.put, List.setIfInBounds_toArray, List.set_cons_zero, List.set_cons_succ, List.getElem_toArray, List.getElem_cons_zero, List.getElem_cons_succ]
        refine wpAnyH_ready (rs := [8, 12]) (by kernel_rfl) (by simp) ?_
        refine AllReadyH.cons (o := _) rfl (fun K9 hK9 => ?_) (AllReadyH.cons (o := _) rfl (fun K9 hK9 => ?_) AllReadyH.nil)
        · refine Eq.mpr (if_pos (by kernel_rfl)) ?_
          refine li_appN _ _ rfl w7.heap.size (.slice none 0 0) 0 A.length [] A' rfl HIA.out.1 (by kernel_rfl) (World.ownsRow_nil _ _ _ _) q' cap' (by kernel_rfl) (dom S wI1) (RowI.keep PA7.out (bk_dom HK1.out)) (bk_size HK1.out) (Nat.zero_le _) HLA.out A.length (Nat.zero_add _) ?_
          intro q1 d1 w37 hg37 hs37
          rw [List.nil_append] at hg37
          have G37 := Lib.hid hg37
          have O37 := Lib.hid (show ∀ g, (Value.slice q1 A.length d1).ownBlock = some g → w7.heap.size ≤ g from fun g hg => (G37.out.lt g hg).1)
          have K37 := Lib.hid (show BK w7 w37 from bk_tr HK1.out (bk_step_nil hs37))
          refine hK9.out _ _ trivial (fun hHeld => ?_)
          clear hg37 hs37
          clear hK9 K9
          try simp only [Act.put, List.setIfInBounds_toArray, List.set_cons_zero, List.set_cons_succ, List.getElem_toArray, List.getElem_cons_zero, List.getElem_cons_succ]
          refine wpAnyH_ready (rs := [12]) (by kernel_rfl) (by simp) ?_
          refine AllReadyH.cons (o := _) rfl (fun K9 hK9 => ?_) AllReadyH.nil
          have z38 := cell_bk D7.out (bk_tr RF7.out K37.out)
          go_simp
          refine hK9.out _ _ trivial (fun hHeld => ?_)
          clear z38
          clear hK9 K9
          try simp only [Act.put, List.setIfInBounds_toArray, List.set_cons_zero, List.set_cons_succ, List.getElem_toArray, List.getElem_cons_zero, List.getElem_cons_succ]
          refine wpAnyH_take (i := 15) (v := .slice (qF q' cap' J 1) B.length (cap' - J)) rfl (by kernel_rfl) (by kernel_rfl) (by kernel_rfl) (fun _ _ _ h => h) (Or.inl ⟨by kernel_rfl, fun w hSw => by (go_simp)⟩) hHeld ?_
          try simp only [Act.put, List.setIfInBounds_toArray, List.set_cons_zero, List.set_cons_succ, List.getElem_toArray, List.getElem_cons_zero, List.getElem_cons_succ]
          refine wpAnyH_ready (rs := [16]) (by kernel_rfl) (by simp) ?_
          refine AllReadyH.cons (o := _) rfl (fun K9 hK9 => ?_) AllReadyH.nil
          refine Eq.mpr (if_pos (by kernel_rfl)) ?_
          refine li_appN _ _ rfl w7.heap.size (.slice q1 A.length d1) A.length B.length A' B' HIA.out.1 HIA.out.2 (by kernel_rfl) G37.out (qF q' cap' J 1) (cap' - J) (by kernel_rfl) (dom S w37) (RowI.keep PB7.out (bk_dom K37.out)) (bk_size K37.out) HLA.out HLB.out (A.length + B.length) rfl ?_
          intro q2 d2 w39 hg39 hs39
          have G39 := Lib.hid hg39
          have K39 := Lib.hid (show BK w7 w39 from bk_own K37.out hs39 O37.out)
          have O39 := Lib.hid (show ∀ g, (Value.slice q2 (A.length + B.length) d2).ownBlock = some g → w7.heap.size ≤ g from own_keep hs39 O37.out (bk_size K37.out))
          refine hK9.out _ _ trivial (fun hHeld => ?_)
          clear hg39 hs39
          clear hK9 K9
          try simp only [Act.put, List.setIfInBounds_toArray, List.set_cons_zero, List.set_cons_succ, List.getElem_toArray, List.getElem_cons_zero, List.getElem_cons_succ]
          refine wpAnyH_take (i := 17) (v := .pointer (some ⟨mb, 0, none⟩)) rfl (by kernel_rfl) (by kernel_rfl) (by kernel_rfl) (fun _ _ _ h => h) (Or.inl ⟨by kernel_rfl, fun w hSw => by (go_simp)⟩) hHeld ?_
          try simp only [Act.put, List.setIfInBounds_toArray, List.set_cons_zero, List.set_cons_succ, List.getElem_toArray, List.getElem_cons_zero, List.getElem_cons_succ]
          refine wpAnyH_take (i := 18) (v := .pointer (some ⟨mb, 1, none⟩)) rfl (by kernel_rfl) (by kernel_rfl) (by kernel_rfl) (fun _ _ _ h => h) (Or.inl ⟨by kernel_rfl, fun w hSw => by (go_simp)⟩) hHeld ?_
          try simp only [Act.put, List.setIfInBounds_toArray, List.set_cons_zero, List.set_cons_succ, List.getElem_toArray, List.getElem_cons_zero, List.getElem_cons_succ]
          refine wpAnyH_ready (rs := [19]) (by kernel_rfl) (by simp) ?_
          refine AllReadyH.cons (o := _) rfl (fun K9 hK9 => ?_) AllReadyH.nil
          have z40 := cell_bk D7.out (bk_tr RF7.out K39.out)
          have y40 := FZ1.out _ K39.out
          go_simp
          refine hK9.out _ _ trivial (fun hHeld => ?_)
          clear z40 y40
          clear hK9 K9
          try simp only [Act.put, List.setIfInBounds_toArray, List.set_cons_zero, List.set_cons_succ, List.getElem_toArray, List.getElem_cons_zero, List.getElem_cons_succ]
          refine wpAnyH_done (by kernel_rfl) ?_ _
          have K8 := Lib.hid (show BK w7 w39 from K39.out)
          have I8 := Lib.hid G39.out
          have G8 := Lib.hid (G7.out.bk (PN.mono S _) K8.out)
          generalize w39 = w8 at *
          have X0 := Lib.hid (cell_bk C7.out K8.out)
          have X1 := Lib.hid (cell_bk D7.out K8.out)
          have Y0 := Lib.hid ((bk_frozen K8.out (Nat.lt_of_lt_of_le HMW.out S7.out) 0).trans F7.out.1)
          have Y1 := Lib.hid ((bk_frozen K8.out (Nat.lt_of_lt_of_le HMW.out S7.out) 1).trans F7.out.2)
          have EL := Lib.hid (show A.length + B.length = (A ++ B).length from by simp)
          have EM := Lib.hid (show A.length + B.length = (A' ++ B').length from by rw [List.length_append, HIA.out.1, HIA.out.2])
          go_wp2_with fail
          go_ret
          refine ⟨rfl, ?_, ?_⟩
          · have i8 := I8.out
            rw [EM.out] at i8
            have g8 := G8.out
            have o8 := O7.out
            rw [EL.out] at g8 o8
            have X0' := X0.out
            have R := rt_put (Nat.lt_of_lt_of_le HMW.out (Nat.le_trans S7.out (bk_size K8.out))) NS.out X0' X1.out Y0.out Y1.out g8 o8 i8 HSS0.out S7.out
            rw [← EL.out, ← EM.out] at R
            rw [set_same X0.out] at R
            exact R
          · exact ⟨K8.out.bl'.os.trans ST.out.os, K8.out.bl'.tape.trans ST.out.tape, K8.out.bl'.output.trans ST.out.output, by have := bk_size K8.out; have := S7.out; simp [World.setCell]; omega, fun k hk hne => by rw [Below.heap_setCell _ _ _ _ hne, bk_block K8.out (Nat.lt_of_lt_of_le hk S7.out)]; exact ST.out.block k hk hne, fun k h => .inl h⟩
        · have z41 := cell_bk D7.out (bk_tr RF7.out HK1.out)
          go_simp
          refine hK9.out _ _ trivial (fun hHeld => ?_)
          clear z41
          clear hK9 K9
          try simp only [Act.put, List.setIfInBounds_toArray, List.set_cons_zero, List.set_cons_succ, List.getElem_toArray, List.getElem_cons_zero, List.getElem_cons_succ]
          refine wpAnyH_take (i := 15) (v := .slice (qF q' cap' J 1) B.length (cap' - J)) rfl (by kernel_rfl) (by kernel_rfl) (by kernel_rfl) (fun _ _ _ h => h) (Or.inl ⟨by kernel_rfl, fun w hSw => by (go_simp)⟩) hHeld ?_
          try simp only [Act.put, List.setIfInBounds_toArray, List.set_cons_zero, List.set_cons_succ, List.getElem_toArray, List.getElem_cons_zero, List.getElem_cons_succ]
          refine wpAnyH_ready (rs := [8]) (by kernel_rfl) (by simp) ?_
          refine AllReadyH.cons (o := _) rfl (fun K9 hK9 => ?_) AllReadyH.nil
          refine Eq.mpr (if_pos (by kernel_rfl)) ?_
          refine li_appN _ _ rfl w7.heap.size (.slice none 0 0) 0 A.length [] A' rfl HIA.out.1 (by kernel_rfl) (World.ownsRow_nil _ _ _ _) q' cap' (by kernel_rfl) (dom S wI1) (RowI.keep PA7.out (bk_dom HK1.out)) (bk_size HK1.out) (Nat.zero_le _) HLA.out A.length (Nat.zero_add _) ?_
          intro q1 d1 w42 hg42 hs42
          rw [List.nil_append] at hg42
          have G42 := Lib.hid hg42
          have O42 := Lib.hid (show ∀ g, (Value.slice q1 A.length d1).ownBlock = some g → w7.heap.size ≤ g from fun g hg => (G42.out.lt g hg).1)
          have K42 := Lib.hid (show BK w7 w42 from bk_tr HK1.out (bk_step_nil hs42))
          refine hK9.out _ _ trivial (fun hHeld => ?_)
          clear hg42 hs42
          clear hK9 K9
          try simp only [Act.put, List.setIfInBounds_toArray, List.set_cons_zero, List.set_cons_succ, List.getElem_toArray, List.getElem_cons_zero, List.getElem_cons_succ]
          refine wpAnyH_ready (rs := [16]) (by kernel_rfl) (by simp) ?_
          refine AllReadyH.cons (o := _) rfl (fun K9 hK9 => ?_) AllReadyH.nil
          refine Eq.mpr (if_pos (by kernel_rfl)) ?_
          refine li_appN _ _ rfl w7.heap.size (.slice q1 A.length d1) A.length B.length A' B' HIA.out.1 HIA.out.2 (by kernel_rfl) G42.out (qF q' cap' J 1) (cap' - J) (by kernel_rfl) (dom S w42) (RowI.keep PB7.out (bk_dom K42.out)) (bk_size K42.out) HLA.out HLB.out (A.length + B.length) rfl ?_
          intro q2 d2 w43 hg43 hs43
          have G43 := Lib.hid hg43
          have K43 := Lib.hid (show BK w7 w43 from bk_own K42.out hs43 O42.out)
          have O43 := Lib.hid (show ∀ g, (Value.slice q2 (A.length + B.length) d2).ownBlock = some g → w7.heap.size ≤ g from own_keep hs43 O42.out (bk_size K42.out))
          refine hK9.out _ _ trivial (fun hHeld => ?_)
          clear hg43 hs43
          clear hK9 K9
          try simp only [Act.put, List.setIfInBounds_toArray, List.set_cons_zero, List.set_cons_succ, List.getElem_toArray, List.getElem_cons_zero, List.getElem_cons_succ]
          refine wpAnyH_take (i := 17) (v := .pointer (some ⟨mb, 0, none⟩)) rfl (by kernel_rfl) (by kernel_rfl) (by kernel_rfl) (fun _ _ _ h => h) (Or.inl ⟨by kernel_rfl, fun w hSw => by (go_simp)⟩) hHeld ?_
          try simp only [Act.put, List.setIfInBounds_toArray, List.set_cons_zero, List.set_cons_succ, List.getElem_toArray, List.getElem_cons_zero, List.getElem_cons_succ]
          refine wpAnyH_take (i := 18) (v := .pointer (some ⟨mb, 1, none⟩)) rfl (by kernel_rfl) (by kernel_rfl) (by kernel_rfl) (fun _ _ _ h => h) (Or.inl ⟨by kernel_rfl, fun w hSw => by (go_simp)⟩) hHeld ?_
          try simp only [Act.put, List.setIfInBounds_toArray, List.set_cons_zero, List.set_cons_succ, List.getElem_toArray, List.getElem_cons_zero, List.getElem_cons_succ]
          refine wpAnyH_ready (rs := [19]) (by kernel_rfl) (by simp) ?_
          refine AllReadyH.cons (o := _) rfl (fun K9 hK9 => ?_) AllReadyH.nil
          have z44 := cell_bk D7.out (bk_tr RF7.out K43.out)
          have y44 := FZ1.out _ K43.out
          go_simp
          refine hK9.out _ _ trivial (fun hHeld => ?_)
          clear z44 y44
          clear hK9 K9
          try simp only [Act.put, List.setIfInBounds_toArray, List.set_cons_zero, List.set_cons_succ, List.getElem_toArray, List.getElem_cons_zero, List.getElem_cons_succ]
          refine wpAnyH_done (by kernel_rfl) ?_ _
          have K8 := Lib.hid (show BK w7 w43 from K43.out)
          have I8 := Lib.hid G43.out
          have G8 := Lib.hid (G7.out.bk (PN.mono S _) K8.out)
          generalize w43 = w8 at *
          have X0 := Lib.hid (cell_bk C7.out K8.out)
          have X1 := Lib.hid (cell_bk D7.out K8.out)
          have Y0 := Lib.hid ((bk_frozen K8.out (Nat.lt_of_lt_of_le HMW.out S7.out) 0).trans F7.out.1)
          have Y1 := Lib.hid ((bk_frozen K8.out (Nat.lt_of_lt_of_le HMW.out S7.out) 1).trans F7.out.2)
          have EL := Lib.hid (show A.length + B.length = (A ++ B).length from by simp)
          have EM := Lib.hid (show A.length + B.length = (A' ++ B').length from by rw [List.length_append, HIA.out.1, HIA.out.2])
          go_wp2_with fail
          go_ret
          refine ⟨rfl, ?_, ?_⟩
          · have i8 := I8.out
            rw [EM.out] at i8
            have g8 := G8.out
            have o8 := O7.out
            rw [EL.out] at g8 o8
            have X0' := X0.out
            have R := rt_put (Nat.lt_of_lt_of_le HMW.out (Nat.le_trans S7.out (bk_size K8.out))) NS.out X0' X1.out Y0.out Y1.out g8 o8 i8 HSS0.out S7.out
            rw [← EL.out, ← EM.out] at R
            rw [set_same X0.out] at R
            exact R
          · exact ⟨K8.out.bl'.os.trans ST.out.os, K8.out.bl'.tape.trans ST.out.tape, K8.out.bl'.output.trans ST.out.output, by have := bk_size K8.out; have := S7.out; simp [World.setCell]; omega, fun k hk hne => by rw [Below.heap_setCell _ _ _ _ hne, bk_block K8.out (Nat.lt_of_lt_of_le hk S7.out)]; exact ST.out.block k hk hne, fun k h => .inl h⟩
      · have z45 := cell_bk D7.out (bk_tr RF7.out HK1.out)
        go_simp
        refine hK9.out _ _ trivial (fun hHeld => ?_)
        clear z45
        clear hK9 K9
        try simp only [Act.put, List.setIfInBounds_toArray, List.set_cons_zero, List.set_cons_succ, List.getElem_toArray, List.getElem_cons_zero, List.getElem_cons_succ]
        refine wpAnyH_take (i := 15) (v := .slice (qF q' cap' J 1) B.length (cap' - J)) rfl (by kernel_rfl) (by kernel_rfl) (by kernel_rfl) (fun _ _ _ h => h) (Or.inl ⟨by kernel_rfl, fun w hSw => by (go_simp)⟩) hHeld ?_
        try simp only [Act.put, List.setIfInBounds_toArray, List.set_cons_zero, List.set_cons_succ, List.getElem_toArray, List.getElem_cons_zero, List.getElem_cons_succ]
        refine wpAnyH_ready (rs := [5]) (by kernel_rfl) (by simp) ?_
        refine AllReadyH.cons (o := _) rfl (fun K9 hK9 => ?_) AllReadyH.nil
        have z46 := cell_bk D7.out (bk_tr RF7.out HK1.out)
        go_simp
        refine hK9.out _ _ trivial (fun hHeld => ?_)
        clear z46
        clear hK9 K9
        try simp only [Act.put, List.setIfInBounds_toArray, List.set_cons_zero, List.set_cons_succ, List.getElem_toArray, List.getElem_cons_zero, List.getElem_cons_succ]
        refine wpAnyH_take (i := 7) (v := .slice q' A.length cap') rfl (by kernel_rfl) (by kernel_rfl) (by kernel_rfl) (fun _ _ _ h => h) (Or.inl ⟨by kernel_rfl, fun w hSw => by (go_simp)⟩) hHeld ?_
        try simp only [Act.put, List.setIfInBounds_toArray, List.set_cons_zero, List.set_cons_succ, List.getElem_toArray, List.getElem_cons_zero, List.getElem_cons_succ]
        refine wpAnyH_ready (rs := [8]) (by kernel_rfl) (by simp) ?_
        refine AllReadyH.cons (o := _) rfl (fun K9 hK9 => ?_) AllReadyH.nil
        refine Eq.mpr (if_pos (by kernel_rfl)) ?_
        refine li_appN _ _ rfl w7.heap.size (.slice none 0 0) 0 A.length [] A' rfl HIA.out.1 (by kernel_rfl) (World.ownsRow_nil _ _ _ _) q' cap' (by kernel_rfl) (dom S wI1) (RowI.keep PA7.out (bk_dom HK1.out)) (bk_size HK1.out) (Nat.zero_le _) HLA.out A.length (Nat.zero_add _) ?_
        intro q1 d1 w47 hg47 hs47
        rw [List.nil_append] at hg47
        have G47 := Lib.hid hg47
        have O47 := Lib.hid (show ∀ g, (Value.slice q1 A.length d1).ownBlock = some g → w7.heap.size ≤ g from fun g hg => (G47.out.lt g hg).1)
        have K47 := Lib.hid (show BK w7 w47 from bk_tr HK1.out (bk_step_nil hs47))
        refine hK9.out _ _ trivial (fun hHeld => ?_)
        clear hg47 hs47
        clear hK9 K9
        try simp only [Act.put, List.setIfInBounds_toArray, List.set_cons_zero, List.set_cons_succ, List.getElem_toArray, List.getElem_cons_zero, List.getElem_cons_succ]
        refine wpAnyH_ready (rs := [16]) (by kernel_rfl) (by simp) ?_
        refine AllReadyH.cons (o := _) rfl (fun K9 hK9 => ?_) AllReadyH.nil
        refine Eq.mpr (if_pos (by kernel_rfl)) ?_
        refine li_appN _ _ rfl w7.heap.size (.slice q1 A.length d1) A.length B.length A' B' HIA.out.1 HIA.out.2 (by kernel_rfl) G47.out (qF q' cap' J 1) (cap' - J) (by kernel_rfl) (dom S w47) (RowI.keep PB7.out (bk_dom K47.out)) (bk_size K47.out) HLA.out HLB.out (A.length + B.length) rfl ?_
        intro q2 d2 w48 hg48 hs48
        have G48 := Lib.hid hg48
        have K48 := Lib.hid (show BK w7 w48 from bk_own K47.out hs48 O47.out)
        have O48 := Lib.hid (show ∀ g, (Value.slice q2 (A.length + B.length) d2).ownBlock = some g → w7.heap.size ≤ g from own_keep hs48 O47.out (bk_size K47.out))
        refine hK9.out _ _ trivial (fun hHeld => ?_)
        clear hg48 hs48
        clear hK9 K9
        try simp only [Act.put, List.setIfInBounds_toArray, List.set_cons_zero, List.set_cons_succ, List.getElem_toArray, List.getElem_cons_zero, List.getElem_cons_succ]
        refine wpAnyH_take (i := 17) (v := .pointer (some ⟨mb, 0, none⟩)) rfl (by kernel_rfl) (by kernel_rfl) (by kernel_rfl) (fun _ _ _ h => h) (Or.inl ⟨by kernel_rfl, fun w hSw => by (go_simp)⟩) hHeld ?_
        try simp only [Act.put, List.setIfInBounds_toArray, List.set_cons_zero, List.set_cons_succ, List.getElem_toArray, List.getElem_cons_zero, List.getElem_cons_succ]
        refine wpAnyH_take (i := 18) (v := .pointer (some ⟨mb, 1, none⟩)) rfl (by kernel_rfl) (by kernel_rfl) (by kernel_rfl) (fun _ _ _ h => h) (Or.inl ⟨by kernel_rfl, fun w hSw => by (go_simp)⟩) hHeld ?_
        try simp only [Act.put, List.setIfInBounds_toArray, List.set_cons_zero, List.set_cons_succ, List.getElem_toArray, List.getElem_cons_zero, List.getElem_cons_succ]
        refine wpAnyH_ready (rs := [19]) (by kernel_rfl) (by simp) ?_
        refine AllReadyH.cons (o := _) rfl (fun K9 hK9 => ?_) AllReadyH.nil
        have z49 := cell_bk D7.out (bk_tr RF7.out K48.out)
        have y49 := FZ1.out _ K48.out
        go_simp
        refine hK9.out _ _ trivial (fun hHeld => ?_)
        clear z49 y49
        clear hK9 K9
        try simp only [Act.put, List.setIfInBounds_toArray, List.set_cons_zero, List.set_cons_succ, List.getElem_toArray, List.getElem_cons_zero, List.getElem_cons_succ]
        refine wpAnyH_done (by kernel_rfl) ?_ _
        have K8 := Lib.hid (show BK w7 w48 from K48.out)
        have I8 := Lib.hid G48.out
        have G8 := Lib.hid (G7.out.bk (PN.mono S _) K8.out)
        generalize w48 = w8 at *
        have X0 := Lib.hid (cell_bk C7.out K8.out)
        have X1 := Lib.hid (cell_bk D7.out K8.out)
        have Y0 := Lib.hid ((bk_frozen K8.out (Nat.lt_of_lt_of_le HMW.out S7.out) 0).trans F7.out.1)
        have Y1 := Lib.hid ((bk_frozen K8.out (Nat.lt_of_lt_of_le HMW.out S7.out) 1).trans F7.out.2)
        have EL := Lib.hid (show A.length + B.length = (A ++ B).length from by simp)
        have EM := Lib.hid (show A.length + B.length = (A' ++ B').length from by rw [List.length_append, HIA.out.1, HIA.out.2])
        go_wp2_with fail
        go_ret
        refine ⟨rfl, ?_, ?_⟩
        · have i8 := I8.out
          rw [EM.out] at i8
          have g8 := G8.out
          have o8 := O7.out
          rw [EL.out] at g8 o8
          have X0' := X0.out
          have R := rt_put (Nat.lt_of_lt_of_le HMW.out (Nat.le_trans S7.out (bk_size K8.out))) NS.out X0' X1.out Y0.out Y1.out g8 o8 i8 HSS0.out S7.out
          rw [← EL.out, ← EM.out] at R
          rw [set_same X0.out] at R
          exact R
        · exact ⟨K8.out.bl'.os.trans ST.out.os, K8.out.bl'.tape.trans ST.out.tape, K8.out.bl'.output.trans ST.out.output, by have := bk_size K8.out; have := S7.out; simp [World.setCell]; omega, fun k hk hne => by rw [Below.heap_setCell _ _ _ _ hne, bk_block K8.out (Nat.lt_of_lt_of_le hk S7.out)]; exact ST.out.block k hk hne, fun k h => .inl h⟩
  · have z50 := cell_bk HC.out.1 (bk_tr K2.out HK0.out)
    go_simp
    refine hK9.out _ _ trivial (fun hHeld => ?_)
    clear z50
    clear hK9 K9
    try simp only [Act.put, List.setIfInBounds_toArray, List.set_cons_zero, List.set_cons_succ, List.getElem_toArray, List.getElem_cons_zero, List.getElem_cons_succ]
    refine wpAnyH_take (i := 15) (v := .slice (qF q cap J 5) B.length (cap - J)) rfl (by kernel_rfl) (by kernel_rfl) (by kernel_rfl) (fun _ _ _ h => h) (Or.inl ⟨by kernel_rfl, fun w hSw => by (go_simp)⟩) hHeld ?_
    try simp only [Act.put, List.setIfInBounds_toArray, List.set_cons_zero, List.set_cons_succ, List.getElem_toArray, List.getElem_cons_zero, List.getElem_cons_succ]
    refine wpAnyH_ready (rs := [5]) (by kernel_rfl) (by simp) ?_
    refine AllReadyH.cons (o := _) rfl (fun K9 hK9 => ?_) AllReadyH.nil
    have z51 := cell_bk HC.out.1 (bk_tr K2.out HK0.out)
    go_simp
    refine hK9.out _ _ trivial (fun hHeld => ?_)
    clear z51
    clear hK9 K9
    try simp only [Act.put, List.setIfInBounds_toArray, List.set_cons_zero, List.set_cons_succ, List.getElem_toArray, List.getElem_cons_zero, List.getElem_cons_succ]
    refine wpAnyH_take (i := 7) (v := .slice q A.length cap) rfl (by kernel_rfl) (by kernel_rfl) (by kernel_rfl) (fun _ _ _ h => h) (Or.inl ⟨by kernel_rfl, fun w hSw => by (go_simp)⟩) hHeld ?_
    try simp only [Act.put, List.setIfInBounds_toArray, List.set_cons_zero, List.set_cons_succ, List.getElem_toArray, List.getElem_cons_zero, List.getElem_cons_succ]
    refine wpAnyH_ready (rs := [8]) (by kernel_rfl) (by simp) ?_
    refine AllReadyH.cons (o := _) rfl (fun K9 hK9 => ?_) AllReadyH.nil
    refine Eq.mpr (if_pos (by kernel_rfl)) ?_
    refine gl_app0 _ _ rfl S A (by kernel_rfl) q cap (by kernel_rfl) (part_row HRA.out HK0.out (fun g hg => by cases hg)) HLA.out ?_
    intro q1 d1 w52 hg52 hs52
    have G52 := Lib.hid hg52
    have O52 := Lib.hid (show ∀ g, (Value.slice q1 A.length d1).ownBlock = some g → w2.heap.size ≤ g from fun g hg => Nat.le_trans (bk_size HK0.out) (new_of_nil hs52 g hg))
    have K52 := Lib.hid (show BK w2 w52 from bk_tr HK0.out (bk_step_nil hs52))
    refine hK9.out _ _ trivial (fun hHeld => ?_)
    clear hg52 hs52
    clear hK9 K9
    try simp only [Act.put, List.setIfInBounds_toArray, List.set_cons_zero, List.set_cons_succ, List.getElem_toArray, List.getElem_cons_zero, List.getElem_cons_succ]
    refine wpAnyH_ready (rs := [16]) (by kernel_rfl) (by simp) ?_
    refine AllReadyH.cons (o := _) rfl (fun K9 hK9 => ?_) AllReadyH.nil
    refine Eq.mpr (if_pos (by kernel_rfl)) ?_
    refine gl_appN _ _ rfl S 0 (.slice q1 A.length d1) A.length B.length (A.length + B.length) A B rfl rfl rfl (by kernel_rfl) G52.out (qF q cap J 5) (cap - J) (by kernel_rfl) (part_row HRB.out K52.out O52.out) (Nat.zero_le _) HLA.out HLB.out ?_
    intro q2 d2 w53 hg53 hs53
    have G53 := Lib.hid hg53
    have K53 := Lib.hid (show BK w2 w53 from bk_own K52.out hs53 O52.out)
    have O53 := Lib.hid (show ∀ g, (Value.slice q2 (A.length + B.length) d2).ownBlock = some g → w2.heap.size ≤ g from own_keep hs53 O52.out (bk_size K52.out))
    refine hK9.out _ _ trivial (fun hHeld => ?_)
    clear hg53 hs53
    clear hK9 K9
    try simp only [Act.put, List.setIfInBounds_toArray, List.set_cons_zero, List.set_cons_succ, List.getElem_toArray, List.getElem_cons_zero, List.getElem_cons_succ]
    refine wpAnyH_take (i := 17) (v := .pointer (some ⟨mb, 0, none⟩)) rfl (by kernel_rfl) (by kernel_rfl) (by kernel_rfl) (fun _ _ _ h => h) (Or.inl ⟨by kernel_rfl, fun w hSw => by (go_simp)⟩) hHeld ?_
    try simp only [Act.put, List.setIfInBounds_toArray, List.set_cons_zero, List.set_cons_succ, List.getElem_toArray, List.getElem_cons_zero, List.getElem_cons_succ]
    refine wpAnyH_take (i := 18) (v := .pointer (some ⟨mb, 0, none⟩)) rfl (by kernel_rfl) (by kernel_rfl) (by kernel_rfl) (fun _ _ _ h => h) (Or.inl ⟨by kernel_rfl, fun w hSw => by (go_simp)⟩) hHeld ?_
    try simp only [Act.put, List.setIfInBounds_toArray, List.set_cons_zero, List.set_cons_succ, List.getElem_toArray, List.getElem_cons_zero, List.getElem_cons_succ]
    refine wpAnyH_ready (rs := [19]) (by kernel_rfl) (by simp) ?_
    refine AllReadyH.cons (o := _) rfl (fun K9 hK9 => ?_) AllReadyH.nil
    have z54 := cell_bk HC.out.1 (bk_tr K2.out K53.out)
    have y54 := (bk_frozen (bk_tr K2.out K53.out) HMW.out 0).trans HF.out.1
    go_simp
    refine hK9.out _ _ trivial (fun hHeld => ?_)
    clear z54 y54
    clear hK9 K9
    try simp only [Act.put, List.setIfInBounds_toArray, List.set_cons_zero, List.set_cons_succ, List.getElem_toArray, List.getElem_cons_zero, List.getElem_cons_succ]
    refine wpAnyH_done (by kernel_rfl) ?_ _
    have K6 := Lib.hid (bk_tr K2.out K53.out)
    have G6 := Lib.hid G53.out
    have O6 := Lib.hid O53.out
    generalize w53 = w6 at *
    have L6 := Lib.hid (show w.heap.size ≤ w6.heap.size from bk_size K6.out)
    have ST := Lib.hid (show Step w (w6.setCell ⟨mb, 0, none⟩ (.slice q2 (A.length + B.length) d2)) (fun k => k = mb) (fun k => k = mb) from ⟨K6.out.bl'.os, K6.out.bl'.tape, K6.out.bl'.output, by simpa [World.setCell] using bk_size K6.out, fun k hk hne => by rw [Below.heap_setCell _ _ _ _ hne]; exact bk_block K6.out hk, fun k h => .inl h⟩)
    have G7 := Lib.hid (show GL 0 26 5 (w6.setCell ⟨mb, 0, none⟩ (.slice q2 (A.length + B.length) d2)) (.slice q2 (A.length + B.length) d2) (A.length + B.length) (PN S (A ++ B)) from rt_mid (S := S) (k := 0) (PN.mono S _) G6.out (fun g hg e => by have := O6.out g hg; have := bk_size K2.out; have := HMW.out; omega) (pn_set NS.out))
    have C7 := Lib.hid (show (w6.setCell ⟨mb, 0, none⟩ (.slice q2 (A.length + B.length) d2)).cell? ⟨mb, 0, none⟩ = some (.slice q2 (A.length + B.length) d2) from World.cell?_setCell_same _ _ _ (cell_bk HC.out.1 K6.out))
    have D7 := Lib.hid (show (w6.setCell ⟨mb, 0, none⟩ (.slice q2 (A.length + B.length) d2)).cell? ⟨mb, 1, none⟩ = some (.slice q' M cap') from by rw [World.cell?_setCell_other _ _ _ _ (by simp)]; exact cell_bk HC.out.2 K6.out)
    have F7 := Lib.hid (show (w6.setCell ⟨mb, 0, none⟩ (.slice q2 (A.length + B.length) d2)).frozen? ⟨mb, 0, none⟩ = false ∧ (w6.setCell ⟨mb, 0, none⟩ (.slice q2 (A.length + B.length) d2)).frozen? ⟨mb, 1, none⟩ = false from ⟨by rw [World.frozen?_setCell]; exact (bk_frozen K6.out HMW.out 0).trans HF.out.1, by rw [World.frozen?_setCell]; exact (bk_frozen K6.out HMW.out 1).trans HF.out.2⟩)
    have O7 := Lib.hid (show ∀ g, (Value.slice q2 (A.length + B.length) d2).ownBlock = some g → w.heap.size ≤ g from fun g hg => Nat.le_trans (bk_size K2.out) (O6.out g hg))
    have S7 := Lib.hid (show w.heap.size ≤ (w6.setCell ⟨mb, 0, none⟩ (.slice q2 (A.length + B.length) d2)).heap.size from ST.out.size)
    clear hHeld G6 O6 K6 L6
    generalize w6.setCell ⟨mb, 0, none⟩ (.slice q2 (A.length + B.length) d2) = w7 at *
    obtain ⟨q5, hq5⟩ : ∃ x, x = q2 := ⟨_, rfl⟩
    obtain ⟨d5, hd5⟩ : ∃ x, x = d2 := ⟨_, rfl⟩
    rw [← hq5, ← hd5] at G7 C7 O7 ⊢
    clear hq5 hd5
    have RF7 := Lib.hid (BK.refl w7)
    have PA7 := Lib.hid (H2.out.1.keep (ST.out.dom (fun k hk e => NS.out (e ▸ hk))))
    have PB7 := Lib.hid (H2.out.2.keep (ST.out.dom (fun k hk e => NS.out (e ▸ hk))))
    have FZ1 := Lib.hid (fun wc (hb : BK w7 wc) => (bk_frozen hb (Nat.lt_of_lt_of_le HMW.out S7.out) 1).trans F7.out.2)
    go_wp2_with fail
    refine wp_region_held_drew (S := fun _ => True) (by kernel_rfl) trivial (fun hHeld => ?_)
    have HK1 := Lib.hid (bk_drew (BK.refl w7))
    generalize w7.drew = wI1 at HK1 ⊢
    refine wpAnyH_take (i := 0) (v := .pointer (some ⟨mb, 0, none⟩)) rfl (by kernel_rfl) (by kernel_rfl) (by kernel_rfl) (fun _ _ _ h => h) (Or.inl ⟨by kernel_rfl, fun w hSw => by (go_simp)⟩) hHeld ?_
    try simp only [Act.put, List.setIfInBounds_toArray, List.set_cons_zero, List.set_cons_succ, List.getElem_toArray, List.getElem_cons_zero, List.getElem_cons_succ]
    refine wpAnyH_take (i := 1) (v := .slice none 0 0) rfl (by kernel_rfl) (by kernel_rfl) (by kernel_rfl) (fun _ _ _ h => h) (Or.inl ⟨by kernel_rfl, fun w hSw => by (go_simp)⟩) hHeld ?_
    try simp only [Act.put, List.setIfInBounds_toArray, List.set_cons_zero, List.set_cons_succ, List.getElem_toArray, List.getElem_cons_zero, List.getElem_cons_succ]
    refine wpAnyH_take (i := 2) (v := .pointer (some ⟨mb, 0, none⟩)) rfl (by kernel_rfl) (by kernel_rfl) (by kernel_rfl) (fun _ _ _ h => h) (Or.inl ⟨by kernel_rfl, fun w hSw => by (go_simp)⟩) hHeld ?_
    try simp only [Act.put, List.setIfInBounds_toArray, List.set_cons_zero, List.set_cons_succ, List.getElem_toArray, List.getElem_cons_zero, List.getElem_cons_succ]
    refine wpAnyH_take (i := 3) (v := .pointer (some ⟨mb, 0, none⟩)) rfl (by kernel_rfl) (by kernel_rfl) (by kernel_rfl) (fun _ _ _ h => h) (Or.inl ⟨by kernel_rfl, fun w hSw => by (go_simp)⟩) hHeld ?_
    try simp only [Act.put, List.setIfInBounds_toArray, List.set_cons_zero, List.set_cons_succ, List.getElem_toArray, List.getElem_cons_zero, List.getElem_cons_succ]
    refine wpAnyH_take (i := 4) (v := .pointer (some ⟨mb, 1, none⟩)) rfl (by kernel_rfl) (by kernel_rfl) (by kernel_rfl) (fun _ _ _ h => h) (Or.inl ⟨by kernel_rfl, fun w hSw => by (go_simp)⟩) hHeld ?_
    try simp only [Act.put, List.setIfInBounds_toArray, List.set_cons_zero, List.set_cons_succ, List.getElem_toArray, List.getElem_cons_zero, List.getElem_cons_succ]
    refine wpAnyH_take (i := 6) (v := .int .i64 (A.length : Int)) rfl (by kernel_rfl) (by kernel_rfl) (by kernel_rfl) (fun _ _ _ h => h) (Or.inl ⟨by kernel_rfl, fun w hSw => by (go_simp)⟩) hHeld ?_
    try simp only [Act.put, List.setIfInBounds_toArray, List.set_cons_zero, List.set_cons_succ, List.getElem_toArray, List.getElem_cons_zero, List.getElem_cons_succ]
    refine wpAnyH_take (i := 9) (v := .pointer (some ⟨mb, 0, none⟩)) rfl (by kernel_rfl) (by kernel_rfl) (by kernel_rfl) (fun _ _ _ h => h) (Or.inl ⟨by kernel_rfl, fun w hSw => by (go_simp)⟩) hHeld ?_
    try simp only [Act.put, List.setIfInBounds_toArray, List.set_cons_zero, List.set_cons_succ, List.getElem_toArray, List.getElem_cons_zero, List.getElem_cons_succ]
    refine wpAnyH_take (i := 10) (v := .pointer (some ⟨mb, 0, none⟩)) rfl (by kernel_rfl) (by kernel_rfl) (by kernel_rfl) (fun _ _ _ h => h) (Or.inl ⟨by kernel_rfl, fun w hSw => by (go_simp)⟩) hHeld ?_
    try simp only [Act.put, List.setIfInBounds_toArray, List.set_cons_zero, List.set_cons_succ, List.getElem_toArray, List.getElem_cons_zero, List.getElem_cons_succ]
    refine wpAnyH_take (i := 11) (v := .pointer (some ⟨mb, 1, none⟩)) rfl (by kernel_rfl) (by kernel_rfl) (by kernel_rfl) (fun _ _ _ h => h) (Or.inl ⟨by kernel_rfl, fun w hSw => by (go_simp)⟩) hHeld ?_
    try simp only [Act.put, List.setIfInBounds_toArray, List.set_cons_zero, List.set_cons_succ, List.getElem_toArray, List.getElem_cons_zero, List.getElem_cons_succ]
    refine wpAnyH_take (i := 13) (v := .int .i64 (A.length : Int)) rfl (by kernel_rfl) (by kernel_rfl) (by kernel_rfl) (fun _ _ _ h => h) (Or.inl ⟨by kernel_rfl, fun w hSw => by (go_simp)⟩) hHeld ?_
    try simp only [Act.put, List.setIfInBounds_toArray, List.set_cons_zero, List.set_cons_succ, List.getElem_toArray, List.getElem_cons_zero, List.getElem_cons_succ]
    refine wpAnyH_take (i := 14) (v := .int .i64 (J : Int)) rfl (by kernel_rfl) (by kernel_rfl) (by kernel_rfl) (fun _ _ _ h => h) (Or.inl ⟨by kernel_rfl, fun w hSw => by (go_simp)⟩) hHeld ?_
    try simp only [Act.put, List.setIfInBounds_toArray, List.set_cons_zero, List.set_cons_succ, List.getElem_toArray, List.getElem_cons_zero, List.getElem_cons_succ]
    refine wpAnyH_ready (rs := [5, 12]) (by kernel_rfl) (by simp) ?_
    refine AllReadyH.cons (o := _) rfl (fun K9 hK9 => ?_) (AllReadyH.cons (o := _) rfl (fun K9 hK9 => ?_) AllReadyH.nil)
    · have z56 := cell_bk D7.out (bk_tr RF7.out HK1.out)
      go_simp
      refine hK9.out _ _ trivial (fun hHeld => ?_)
      clear z56
      clear hK9 K9
      try simp only [Act.put, List.setIfInBounds_toArray, List.set_cons_zero, List.set_cons_succ, List.getElem_toArray, List.getElem_cons_zero, List.getElem_cons_succ]
      refine wpAnyH_take (i := 7) (v := .slice q' A.length cap') rfl (by kernel_rfl) (by kernel_rfl) (by kernel_rfl) (fun _ _ _ h => h) (Or.inl ⟨by kernel_rfl, fun w hSw => by (go_simp)⟩) hHeld ?_
      try simp only [Act.put, List.setIfInBounds_toArray, List.set_cons_zero, List.set_cons_succ, List.getElem_toArray, List.getElem_cons_zero, List.getElem_cons_succ]
      refine wpAnyH_ready (rs := [8, 12]) (by kernel_rfl) (by simp) ?_
      refine AllReadyH.cons (o := _) rfl (fun K9 hK9 => ?_) (AllReadyH.cons (o := _) rfl (fun K9 hK9 => ?_) AllReadyH.nil)
      · refine Eq.mpr (if_pos (by kernel_rfl)) ?_
        refine li_appN _ _ rfl w7.heap.size (.slice none 0 0) 0 A.length [] A' rfl HIA.out.1 (by kernel_rfl) (World.ownsRow_nil _ _ _ _) q' cap' (by kernel_rfl) (dom S wI1) (RowI.keep PA7.out (bk_dom HK1.out)) (bk_size HK1.out) (Nat.zero_le _) HLA.out A.length (Nat.zero_add _) ?_
        intro q1 d1 w57 hg57 hs57
        rw [List.nil_append] at hg57
        have G57 := Lib.hid hg57
        have O57 := Lib.hid (show ∀ g, (Value.slice q1 A.length d1).ownBlock = some g → w7.heap.size ≤ g from fun g hg => (G57.out.lt g hg).1)
        have K57 := Lib.hid (show BK w7 w57 from bk_tr HK1.out (bk_step_nil hs57))
        refine hK9.out _ _ trivial (fun hHeld => ?_)
        clear hg57 hs57
        clear hK9 K9
        try simp only [Act.put, List.setIfInBounds_toArray, List.set_cons_zero, List.set_cons_succ, List.getElem_toArray, List.getElem_cons_zero, List.getElem_cons_succ]
        refine wpAnyH_ready (rs := [12]) (by kernel_rfl) (by simp) ?_
        refine AllReadyH.cons (o := _) rfl (fun K9 hK9 => ?_) AllReadyH.nil
        have z58 := cell_bk D7.out (bk_tr RF7.out K57.out)
        go_simp
        refine hK9.out _ _ trivial (fun hHeld => ?_)
        clear z58
        clear hK9 K9
        try simp only [Act.put, List.setIfInBounds_toArray, List.set_cons_zero, List.set_cons_succ, List.getElem_toArray, List.getElem_cons_zero, List.getElem_cons_succ]
        refine wpAnyH_take (i := 15) (v := .slice (qF q' cap' J 1) B.length (cap' - J)) rfl (by kernel_rfl) (by kernel_rfl) (by kernel_rfl) (fun _ _ _ h => h) (Or.inl ⟨by kernel_rfl, fun w hSw => by (go_simp)⟩) hHeld ?_
        try simp only [Act.put, List.setIfInBounds_toArray, List.set_cons_zero, List.set_cons_succ, List.getElem_toArray, List.getElem_cons_zero, List.getElem_cons_succ]
        refine wpAnyH_ready (rs := [16]) (by kernel_rfl) (by simp) ?_
        refine AllReadyH.cons (o := _) rfl (fun K9 hK9 => ?_) AllReadyH.nil
        refine Eq.mpr (if_pos (by kernel_rfl)) ?_
        refine li_appN _ _ rfl w7.heap.size (.slice q1 A.length d1) A.length B.length A' B' HIA.out.1 HIA.out.2 (by kernel_rfl) G57.out (qF q' cap' J 1) (cap' - J) (by kernel_rfl) (dom S w57) (RowI.keep PB7.out (bk_dom K57.out)) (bk_size K57.out) HLA.out HLB.out (A.length + B.length) rfl ?_
        intro q2 d2 w59 hg59 hs59
        have G59 := Lib.hid hg59
        have K59 := Lib.hid (show BK w7 w59 from bk_own K57.out hs59 O57.out)
        have O59 := Lib.hid (show ∀ g, (Value.slice q2 (A.length + B.length) d2).ownBlock = some g → w7.heap.size ≤ g from own_keep hs59 O57.out (bk_size K57.out))
        refine hK9.out _ _ trivial (fun hHeld => ?_)
        clear hg59 hs59
        clear hK9 K9
        try simp only [Act.put, List.setIfInBounds_toArray, List.set_cons_zero, List.set_cons_succ, List.getElem_toArray, List.getElem_cons_zero, List.getElem_cons_succ]
        refine wpAnyH_take (i := 17) (v := .pointer (some ⟨mb, 0, none⟩)) rfl (by kernel_rfl) (by kernel_rfl) (by kernel_rfl) (fun _ _ _ h => h) (Or.inl ⟨by kernel_rfl, fun w hSw => by (go_simp)⟩) hHeld ?_
        try simp only [Act.put, List.setIfInBounds_toArray, List.set_cons_zero, List.set_cons_succ, List.getElem_toArray, List.getElem_cons_zero, List.getElem_cons_succ]
        refine wpAnyH_take (i := 18) (v := .pointer (some ⟨mb, 1, none⟩)) rfl (by kernel_rfl) (by kernel_rfl) (by kernel_rfl) (fun _ _ _ h => h) (Or.inl ⟨by kernel_rfl, fun w hSw => by (go_simp)⟩) hHeld ?_
        try simp only [Act.put, List.setIfInBounds_toArray, List.set_cons_zero, List.set_cons_succ, List.getElem_toArray, List.getElem_cons_zero, List.getElem_cons_succ]
        refine wpAnyH_ready (rs := [19]) (by kernel_rfl) (by simp) ?_
        refine AllReadyH.cons (o := _) rfl (fun K9 hK9 => ?_) AllReadyH.nil
        have z60 := cell_bk D7.out (bk_tr RF7.out K59.out)
        have y60 := FZ1.out _ K59.out
        go_simp
        refine hK9.out _ _ trivial (fun hHeld => ?_)
        clear z60 y60
        clear hK9 K9
        try simp only [Act.put, List.setIfInBounds_toArray, List.set_cons_zero, List.set_cons_succ, List.getElem_toArray, List.getElem_cons_zero, List.getElem_cons_succ]
        refine wpAnyH_done (by kernel_rfl) ?_ _
        have K8 := Lib.hid (show BK w7 w59 from K59.out)
        have I8 := Lib.hid G59.out
        have G8 := Lib.hid (G7.out.bk (PN.mono S _) K8.out)
        generalize w59 = w8 at *
        have X0 := Lib.hid (cell_bk C7.out K8.out)
        have X1 := Lib.hid (cell_bk D7.out K8.out)
        have Y0 := Lib.hid ((bk_frozen K8.out (Nat.lt_of_lt_of_le HMW.out S7.out) 0).trans F7.out.1)
        have Y1 := Lib.hid ((bk_frozen K8.out (Nat.lt_of_lt_of_le HMW.out S7.out) 1).trans F7.out.2)
        have EL := Lib.hid (show A.length + B.length = (A ++ B).length from by simp)
        have EM := Lib.hid (show A.length + B.length = (A' ++ B').length from by rw [List.length_append, HIA.out.1, HIA.out.2])
        go_wp2_with fail
        go_ret
        refine ⟨rfl, ?_, ?_⟩
        · have i8 := I8.out
          rw [EM.out] at i8
          have g8 := G8.out
          have o8 := O7.out
          rw [EL.out] at g8 o8
          have X0' := X0.out
          have R := rt_put (Nat.lt_of_lt_of_le HMW.out (Nat.le_trans S7.out (bk_size K8.out))) NS.out X0' X1.out Y0.out Y1.out g8 o8 i8 HSS0.out S7.out
          rw [← EL.out, ← EM.out] at R
          rw [set_same X0.out] at R
          exact R
        · exact ⟨K8.out.bl'.os.trans ST.out.os, K8.out.bl'.tape.trans ST.out.tape, K8.out.bl'.output.trans ST.out.output, by have := bk_size K8.out; have := S7.out; simp [World.setCell]; omega, fun k hk hne => by rw [Below.heap_setCell _ _ _ _ hne, bk_block K8.out (Nat.lt_of_lt_of_le hk S7.out)]; exact ST.out.block k hk hne, fun k h => .inl h⟩
      · have z61 := cell_bk D7.out (bk_tr RF7.out HK1.out)
        go_simp
        refine hK9.out _ _ trivial (fun hHeld => ?_)
        clear z61
        clear hK9 K9
        try simp only [Act.put, List.setIfInBounds_toArray, List.set_cons_zero, List.set_cons_succ, List.getElem_toArray, List.getElem_cons_zero, List.getElem_cons_succ]
        refine wpAnyH_take (i := 15) (v := .slice (qF q' cap' J 1) B.length (cap' - J)) rfl (by kernel_rfl) (by kernel_rfl) (by kernel_rfl) (fun _ _ _ h => h) (Or.inl ⟨by kernel_rfl, fun w hSw => by (go_simp)⟩) hHeld ?_
        try simp only [Act.put, List.setIfInBounds_toArray, List.set_cons_zero, List.set_cons_succ, List.getElem_toArray, List.getElem_cons_zero, List.getElem_cons_succ]
        refine wpAnyH_ready (rs := [8]) (by kernel_rfl) (by simp) ?_
        refine AllReadyH.cons (o := _) rfl (fun K9 hK9 => ?_) AllReadyH.nil
        refine Eq.mpr (if_pos (by kernel_rfl)) ?_
        refine li_appN _ _ rfl w7.heap.size (.slice none 0 0) 0 A.length [] A' rfl HIA.out.1 (by kernel_rfl) (World.ownsRow_nil _ _ _ _) q' cap' (by kernel_rfl) (dom S wI1) (RowI.keep PA7.out (bk_dom HK1.out)) (bk_size HK1.out) (Nat.zero_le _) HLA.out A.length (Nat.zero_add _) ?_
        intro q1 d1 w62 hg62 hs62
        rw [List.nil_append] at hg62
        have G62 := Lib.hid hg62
        have O62 := Lib.hid (show ∀ g, (Value.slice q1 A.length d1).ownBlock = some g → w7.heap.size ≤ g from fun g hg => (G62.out.lt g hg).1)
        have K62 := Lib.hid (show BK w7 w62 from bk_tr HK1.out (bk_step_nil hs62))
        refine hK9.out _ _ trivial (fun hHeld => ?_)
        clear hg62 hs62
        clear hK9 K9
        try simp only [Act.put, List.setIfInBounds_toArray, List.set_cons_zero, List.set_cons_succ, List.getElem_toArray, List.getElem_cons_zero, List.getElem_cons_succ]
        refine wpAnyH_ready (rs := [16]) (by kernel_rfl) (by simp) ?_
        refine AllReadyH.cons (o := _) rfl (fun K9 hK9 => ?_) AllReadyH.nil
        refine Eq.mpr (if_pos (by kernel_rfl)) ?_
        refine li_appN _ _ rfl w7.heap.size (.slice q1 A.length d1) A.length B.length A' B' HIA.out.1 HIA.out.2 (by kernel_rfl) G62.out (qF q' cap' J 1) (cap' - J) (by kernel_rfl) (dom S w62) (RowI.keep PB7.out (bk_dom K62.out)) (bk_size K62.out) HLA.out HLB.out (A.length + B.length) rfl ?_
        intro q2 d2 w63 hg63 hs63
        have G63 := Lib.hid hg63
        have K63 := Lib.hid (show BK w7 w63 from bk_own K62.out hs63 O62.out)
        have O63 := Lib.hid (show ∀ g, (Value.slice q2 (A.length + B.length) d2).ownBlock = some g → w7.heap.size ≤ g from own_keep hs63 O62.out (bk_size K62.out))
        refine hK9.out _ _ trivial (fun hHeld => ?_)
        clear hg63 hs63
        clear hK9 K9
        try simp only [Act.put, List.setIfInBounds_toArray, List.set_cons_zero, List.set_cons_succ, List.getElem_toArray, List.getElem_cons_zero, List.getElem_cons_succ]
        refine wpAnyH_take (i := 17) (v := .pointer (some ⟨mb, 0, none⟩)) rfl (by kernel_rfl) (by kernel_rfl) (by kernel_rfl) (fun _ _ _ h => h) (Or.inl ⟨by kernel_rfl, fun w hSw => by (go_simp)⟩) hHeld ?_
        try simp only [Act.put, List.setIfInBounds_toArray, List.set_cons_zero, List.set_cons_succ, List.getElem_toArray, List.getElem_cons_zero, List.getElem_cons_succ]
        refine wpAnyH_take (i := 18) (v := .pointer (some ⟨mb, 1, none⟩)) rfl (by kernel_rfl) (by kernel_rfl) (by kernel_rfl) (fun _ _ _ h => h) (Or.inl ⟨by kernel_rfl, fun w hSw => by (go_simp)⟩) hHeld ?_
        try simp only [Act.put, List.setIfInBounds_toArray, List.set_cons_zero, List.set_cons_succ, List.getElem_toArray, List.getElem_cons_zero, List.getElem_cons_succ]
        refine wpAnyH_ready (rs := [19]) (by kernel_rfl) (by simp) ?_
        refine AllReadyH.cons (o := _) rfl (fun K9 hK9 => ?_) AllReadyH.nil
        have z64 := cell_bk D7.out (bk_tr RF7.out K63.out)
        have y64 := FZ1.out _ K63.out
        go_simp
        refine hK9.out _ _ trivial (fun hHeld => ?_)
        clear z64 y64
        clear hK9 K9
        try simp only [Act.put, List.setIfInBounds_toArray, List.set_cons_zero, List.set_cons_succ, List.getElem_toArray, List.getElem_cons_zero, List.getElem_cons_succ]
        refine wpAnyH_done (by kernel_rfl) ?_ _
        have K8 := Lib.hid (show BK w7 w63 from K63.out)
        have I8 := Lib.hid G63.out
        have G8 := Lib.hid (G7.out.bk (PN.mono S _) K8.out)
        generalize w63 = w8 at *
        have X0 := Lib.hid (cell_bk C7.out K8.out)
        have X1 := Lib.hid (cell_bk D7.out K8.out)
        have Y0 := Lib.hid ((bk_frozen K8.out (Nat.lt_of_lt_of_le HMW.out S7.out) 0).trans F7.out.1)
        have Y1 := Lib.hid ((bk_frozen K8.out (Nat.lt_of_lt_of_le HMW.out S7.out) 1).trans F7.out.2)
        have EL := Lib.hid (show A.length + B.length = (A ++ B).length from by simp)
        have EM := Lib.hid (show A.length + B.length = (A' ++ B').length from by rw [List.length_append, HIA.out.1, HIA.out.2])
        go_wp2_with fail
        go_ret
        refine ⟨rfl, ?_, ?_⟩
        · have i8 := I8.out
          rw [EM.out] at i8
          have g8 := G8.out
          have o8 := O7.out
          rw [EL.out] at g8 o8
          have X0' := X0.out
          have R := rt_put (Nat.lt_of_lt_of_le HMW.out (Nat.le_trans S7.out (bk_size K8.out))) NS.out X0' X1.out Y0.out Y1.out g8 o8 i8 HSS0.out S7.out
          rw [← EL.out, ← EM.out] at R
          rw [set_same X0.out] at R
          exact R
        · exact ⟨K8.out.bl'.os.trans ST.out.os, K8.out.bl'.tape.trans ST.out.tape, K8.out.bl'.output.trans ST.out.output, by have := bk_size K8.out; have := S7.out; simp [World.setCell]; omega, fun k hk hne => by rw [Below.heap_setCell _ _ _ _ hne, bk_block K8.out (Nat.lt_of_lt_of_le hk S7.out)]; exact ST.out.block k hk hne, fun k h => .inl h⟩
    · have z65 := cell_bk D7.out (bk_tr RF7.out HK1.out)
      go_simp
      refine hK9.out _ _ trivial (fun hHeld => ?_)
      clear z65
      clear hK9 K9
      try simp only [Act.put, List.setIfInBounds_toArray, List.set_cons_zero, List.set_cons_succ, List.getElem_toArray, List.getElem_cons_zero, List.getElem_cons_succ]
      refine wpAnyH_take (i := 15) (v := .slice (qF q' cap' J 1) B.length (cap' - J)) rfl (by kernel_rfl) (by kernel_rfl) (by kernel_rfl) (fun _ _ _ h => h) (Or.inl ⟨by kernel_rfl, fun w hSw => by (go_simp)⟩) hHeld ?_
      try simp only [Act.put, List.setIfInBounds_toArray, List.set_cons_zero, List.set_cons_succ, List.getElem_toArray, List.getElem_cons_zero, List.getElem_cons_succ]
      refine wpAnyH_ready (rs := [5]) (by kernel_rfl) (by simp) ?_
      refine AllReadyH.cons (o := _) rfl (fun K9 hK9 => ?_) AllReadyH.nil
      have z66 := cell_bk D7.out (bk_tr RF7.out HK1.out)
      go_simp
      refine hK9.out _ _ trivial (fun hHeld => ?_)
      clear z66
      clear hK9 K9
      try simp only [Act.put, List.setIfInBounds_toArray, List.set_cons_zero, List.set_cons_succ, List.getElem_toArray, List.getElem_cons_zero, List.getElem_cons_succ]
      refine wpAnyH_take (i := 7) (v := .slice q' A.length cap') rfl (by kernel_rfl) (by kernel_rfl) (by kernel_rfl) (fun _ _ _ h => h) (Or.inl ⟨by kernel_rfl, fun w hSw => by (go_simp)⟩) hHeld ?_
      try simp only [Act.put, List.setIfInBounds_toArray, List.set_cons_zero, List.set_cons_succ, List.getElem_toArray, List.getElem_cons_zero, List.getElem_cons_succ]
      refine wpAnyH_ready (rs := [8]) (by kernel_rfl) (by simp) ?_
      refine AllReadyH.cons (o := _) rfl (fun K9 hK9 => ?_) AllReadyH.nil
      refine Eq.mpr (if_pos (by kernel_rfl)) ?_
      refine li_appN _ _ rfl w7.heap.size (.slice none 0 0) 0 A.length [] A' rfl HIA.out.1 (by kernel_rfl) (World.ownsRow_nil _ _ _ _) q' cap' (by kernel_rfl) (dom S wI1) (RowI.keep PA7.out (bk_dom HK1.out)) (bk_size HK1.out) (Nat.zero_le _) HLA.out A.length (Nat.zero_add _) ?_
      intro q1 d1 w67 hg67 hs67
      rw [List.nil_append] at hg67
      have G67 := Lib.hid hg67
      have O67 := Lib.hid (show ∀ g, (Value.slice q1 A.length d1).ownBlock = some g → w7.heap.size ≤ g from fun g hg => (G67.out.lt g hg).1)
      have K67 := Lib.hid (show BK w7 w67 from bk_tr HK1.out (bk_step_nil hs67))
      refine hK9.out _ _ trivial (fun hHeld => ?_)
      clear hg67 hs67
      clear hK9 K9
      try simp only [Act.put, List.setIfInBounds_toArray, List.set_cons_zero, List.set_cons_succ, List.getElem_toArray, List.getElem_cons_zero, List.getElem_cons_succ]
      refine wpAnyH_ready (rs := [16]) (by kernel_rfl) (by simp) ?_
      refine AllReadyH.cons (o := _) rfl (fun K9 hK9 => ?_) AllReadyH.nil
      refine Eq.mpr (if_pos (by kernel_rfl)) ?_
      refine li_appN _ _ rfl w7.heap.size (.slice q1 A.length d1) A.length B.length A' B' HIA.out.1 HIA.out.2 (by kernel_rfl) G67.out (qF q' cap' J 1) (cap' - J) (by kernel_rfl) (dom S w67) (RowI.keep PB7.out (bk_dom K67.out)) (bk_size K67.out) HLA.out HLB.out (A.length + B.length) rfl ?_
      intro q2 d2 w68 hg68 hs68
      have G68 := Lib.hid hg68
      have K68 := Lib.hid (show BK w7 w68 from bk_own K67.out hs68 O67.out)
      have O68 := Lib.hid (show ∀ g, (Value.slice q2 (A.length + B.length) d2).ownBlock = some g → w7.heap.size ≤ g from own_keep hs68 O67.out (bk_size K67.out))
      refine hK9.out _ _ trivial (fun hHeld => ?_)
      clear hg68 hs68
      clear hK9 K9
      try simp only [Act.put, List.setIfInBounds_toArray, List.set_cons_zero, List.set_cons_succ, List.getElem_toArray, List.getElem_cons_zero, List.getElem_cons_succ]
      refine wpAnyH_take (i := 17) (v := .pointer (some ⟨mb, 0, none⟩)) rfl (by kernel_rfl) (by kernel_rfl) (by kernel_rfl) (fun _ _ _ h => h) (Or.inl ⟨by kernel_rfl, fun w hSw => by (go_simp)⟩) hHeld ?_
      try simp only [Act.put, List.setIfInBounds_toArray, List.set_cons_zero, List.set_cons_succ, List.getElem_toArray, List.getElem_cons_zero, List.getElem_cons_succ]
      refine wpAnyH_take (i := 18) (v := .pointer (some ⟨mb, 1, none⟩)) rfl (by kernel_rfl) (by kernel_rfl) (by kernel_rfl) (fun _ _ _ h => h) (Or.inl ⟨by kernel_rfl, fun w hSw => by (go_simp)⟩) hHeld ?_
      try simp only [Act.put, List.setIfInBounds_toArray, List.set_cons_zero, List.set_cons_succ, List.getElem_toArray, List.getElem_cons_zero, List.getElem_cons_succ]
      refine wpAnyH_ready (rs := [19]) (by kernel_rfl) (by simp) ?_
      refine AllReadyH.cons (o := _) rfl (fun K9 hK9 => ?_) AllReadyH.nil
      have z69 := cell_bk D7.out (bk_tr RF7.out K68.out)
      have y69 := FZ1.out _ K68.out
      go_simp
      refine hK9.out _ _ trivial (fun hHeld => ?_)
      clear z69 y69
      clear hK9 K9
      try simp only [Act.put, List.setIfInBounds_toArray, List.set_cons_zero, List.set_cons_succ, List.getElem_toArray, List.getElem_cons_zero, List.getElem_cons_succ]
      refine wpAnyH_done (by kernel_rfl) ?_ _
      have K8 := Lib.hid (show BK w7 w68 from K68.out)
      have I8 := Lib.hid G68.out
      have G8 := Lib.hid (G7.out.bk (PN.mono S _) K8.out)
      generalize w68 = w8 at *
      have X0 := Lib.hid (cell_bk C7.out K8.out)
      have X1 := Lib.hid (cell_bk D7.out K8.out)
      have Y0 := Lib.hid ((bk_frozen K8.out (Nat.lt_of_lt_of_le HMW.out S7.out) 0).trans F7.out.1)
      have Y1 := Lib.hid ((bk_frozen K8.out (Nat.lt_of_lt_of_le HMW.out S7.out) 1).trans F7.out.2)
      have EL := Lib.hid (show A.length + B.length = (A ++ B).length from by simp)
      have EM := Lib.hid (show A.length + B.length = (A' ++ B').length from by rw [List.length_append, HIA.out.1, HIA.out.2])
      go_wp2_with fail
      go_ret
      refine ⟨rfl, ?_, ?_⟩
      · have i8 := I8.out
        rw [EM.out] at i8
        have g8 := G8.out
        have o8 := O7.out
        rw [EL.out] at g8 o8
        have X0' := X0.out
        have R := rt_put (Nat.lt_of_lt_of_le HMW.out (Nat.le_trans S7.out (bk_size K8.out))) NS.out X0' X1.out Y0.out Y1.out g8 o8 i8 HSS0.out S7.out
        rw [← EL.out, ← EM.out] at R
        rw [set_same X0.out] at R
        exact R
      · exact ⟨K8.out.bl'.os.trans ST.out.os, K8.out.bl'.tape.trans ST.out.tape, K8.out.bl'.output.trans ST.out.output, by have := bk_size K8.out; have := S7.out; simp [World.setCell]; omega, fun k hk hne => by rw [Below.heap_setCell _ _ _ _ hne, bk_block K8.out (Nat.lt_of_lt_of_le hk S7.out)]; exact ST.out.block k hk hne, fun k h => .inl h⟩
end Go.Proofs.YtclefcjojlkcnaaDoor.G
