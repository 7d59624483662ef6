/- The reference: Path, Same, Link, Undo. -/
import Derived.Test.YtpnjmkmobdaefaaTA
namespace Go.Proofs.Ytpnjmkmobdaefaa
open Go.RowKit Go.Maps
set_option linter.unusedVariables false
set_option linter.unusedSimpArgs false
theorem walk35 (M : List L3) (hwf : WFR M.reverse) (hM : M.length ≤ 1000) (p : Option Addr) (c cu ub : Nat) (b : Int) : ∀ (m : Nat) (u : List Bool) (x : Int) (w : World), nfree u ≤ m → u.length = M.length → RL w p c M → US w ub u → Calls Try.prog 35 #[.slice p M.length c, .slice (some ⟨ub, 0, none⟩) M.length cu, .int .i64 x, .int .i64 b] w (WKP w M u x b ub) := by
  intro m
  induction m with
  | zero => exact fun u x w hm hu hr hus => walk_step M hwf hM p c cu ub b u (fun u' x' w' hlt => by omega) x w hu hr hus
  | succ m ih => exact fun u x w hm hu hr hus => walk_step M hwf hM p c cu ub b u (fun u' x' w' hlt hu' hr' hus' => ih u' x' w' (by omega) hu' hr' hus') x w hu hr hus
theorem info4 : (Try.prog.info? 4).map (fun i => (i.zero, i.size, i.bytes)) = some (some (.bool false), 1, 1) := by kernel_rfl
theorem made_bv (n : Nat) : madeCells (Value.bool false).cells (n * 1) = bv (List.replicate n false) := by
  unfold bv
  apply Array.ext
  · simp [madeCells]
  · intro i h1 h2
    simp [madeCells, Value.cells, Nat.mod_one]
theorem make61 (n : Nat) (h : n ≤ 1000) (w : World) : (Instr.makeSlice 61 (.int .i64 (n : Int)) (.int .i64 (n : Int))).run Try.prog w = .ok (.slice (some ⟨w.heap.size, 0, none⟩) n n) (w.alloc (.cells (bv (List.replicate n false)) 4)) := by
  obtain ⟨i0, hi, hz0, hz1, hz2⟩ := info_parts info4
  have hr := run_make (P := Try.prog) w 61 4 i0 (.bool false) Try.underlying61 hi hz0 .i64 .i64 n n (by omega) (by omega) (by rw [hz2]; omega) (by omega)
  simp only [Int.toNat_natCast] at hr
  rw [hz1, made_bv] at hr
  exact hr
set_option maxHeartbeats 1000000 in
theorem path22 (w : World) (M : List L3) (hwf : WFR M.reverse) (hM : M.length ≤ 1000) (p : Option Addr) (c : Nat) (hr : RL w p c M) (a b : Int) : Calls Try.prog 22 #[.slice p M.length c, .int .i64 a, .int .i64 b] w (PP w M a b) := by
  have hmk := fun w => make61 M.length hM w
  by_cases hn : a < 0 ∨ b < 0
  · have e1 : sameB M a b = false := same_neg hn
    have e2 : pathL M a b = [] := by unfold pathL; unfold sameB at e1; cases h : pathO M a b with
      | none => rfl
      | some q => rw [h] at e1; cases e1
    have QQ := Lib.hid (show PP w M a b (.returned (.tuple #[.slice none 0 0, .bool false])) w from ⟨_, by rw [e1], by rw [e2]; exact World.ownsRow_nil _ _ _ _, BK.refl w⟩)
    clear e1 e2 hr hmk
    generalize M.length = n at *
    by_cases h1 : a < 0
    · clear hn
      go_enter Try.func22, Try.ntmps22
      go_wp2_with fail
      go_ret2
      exact QQ.out
    · have h2 : b < 0 := by omega
      clear hn
      go_enter Try.func22, Try.ntmps22
      go_wp2_with fail
      go_ret2
      exact QQ.out
  · have h1 : ¬ a < 0 := by omega
    have h2 : ¬ b < 0 := by omega
    clear hn
    have hb0 := bk_alloc (BK.refl w) (.cells (bv (List.replicate M.length false)) 4)
    have HW := Lib.hid (walk35 M hwf hM p c M.length w.heap.size b _ (List.replicate M.length false) a (w.alloc (.cells (bv (List.replicate M.length false)) 4)) (Nat.le_refl _) (by simp) (hr.keep hb0) (heap_alloc_new w _))
    have HB := Lib.hid hb0
    have HF := Lib.hid hwf
    clear hr hb0 hwf
    have QQ := Lib.hid (show ∀ e w', WKP (w.alloc (.cells (bv (List.replicate M.length false)) 4)) M (List.replicate M.length false) a b w.heap.size e w' → PP w M a b e w' from by
      rintro e w' ⟨r, u', v, rfl, h, ho, hu, hs⟩
      have hp := h.path HF.out (fun k hk => by unfold fr; rw [List.getD_eq_getElem?_getD, List.getElem?_replicate, if_pos hk]; rfl)
      have hO : pathO M a b = r := by unfold pathO; rw [if_pos ⟨by omega, by omega⟩, hp]
      have e1 : sameB M a b = r.isSome := by unfold sameB; rw [hO]
      have e2 : pathL M a b = r.getD [] := by unfold pathL; rw [hO]
      exact ⟨v, by rw [e1], by rw [e2]; exact own_mono ho (bk_size HB.out), Step.bk_new HB.out hs (fun k hk => by unfold ubF at hk; omega)⟩)
    generalize hn : M.length = n at *
    go_enter Try.func22, Try.ntmps22
    go_wp2_with fail
    refine HW.out.mono ?_
    intro e w' hw
    obtain ⟨v, rfl, ho, hb⟩ := QQ.out e w' hw
    have HO := Lib.hid ho
    have HB2 := Lib.hid hb
    obtain ⟨p', c', rfl⟩ := own_shape ho
    clear ho hb hw
    go_wp2_with fail
    go_ret2
    exact ⟨_, rfl, HO.out, HB2.out⟩
set_option maxHeartbeats 1000000 in
theorem same28 (w : World) (M : List L3) (hwf : WFR M.reverse) (hM : M.length ≤ 1000) (p : Option Addr) (c : Nat) (hr : RL w p c M) (a b : Int) : Calls Try.prog 28 #[.slice p M.length c, .int .i64 a, .int .i64 b] w fun e w' => e = .returned (.bool (sameB M a b)) ∧ BK w w' := by
  have HP := Lib.hid (path22 w M hwf hM p c hr a b)
  clear hr hwf
  generalize M.length = n at *
  go_enter Try.func28, Try.ntmps28
  go_wp2_with fail
  refine HP.out.mono ?_
  rintro e w' ⟨v, rfl, ho, hb⟩
  have HB2 := Lib.hid hb
  obtain ⟨p', c', rfl⟩ := own_shape ho
  clear ho hb
  go_wp2_with fail
  go_ret
  exact ⟨rfl, HB2.out⟩
end Go.Proofs.Ytpnjmkmobdaefaa
