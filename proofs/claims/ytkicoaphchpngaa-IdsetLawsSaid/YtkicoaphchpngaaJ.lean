/- Functions that only read lists. -/
import Derived.Test.YtkicoaphchpngaaI
namespace Go.Proofs.Ytkicoaphchpngaa
open Go.RowKit Go.Lib Go.Sort
set_option linter.unusedVariables false
def sameB (a b : List Int) : Bool := decide (a = b)
def SameTo (a b : List Int) (k : Nat) : Prop := a.take k = b.take k
theorem same_snoc {a b : List Int} {k : Nat} (ha : k < a.length) (hb : k < b.length) (h : SameTo a b k) (he : a.getD k 0 = b.getD k 0) : SameTo a b (k + 1) := by
  unfold SameTo at *
  rw [List.take_succ_eq_append_getElem ha, List.take_succ_eq_append_getElem hb, h]
  simp [List.getD_eq_getElem?_getD, ha, hb] at he
  rw [he]
theorem same_no {a b : List Int} {k : Nat} (h : ¬ a.getD k 0 = b.getD k 0) : sameB a b = false := by
  unfold sameB; apply decide_eq_false; intro e; subst e; exact h rfl
theorem drewN_add (w : World) (a b : Nat) : (w.drewN a).drewN b = w.drewN (a + b) := by simp [World.drewN, Nat.add_assoc]
theorem drewN_zero (w : World) : w.drewN 0 = w := rfl
set_option maxHeartbeats 1000000 in
theorem same_some (b off c b' off' c' : Nat) (zs ys : List Int) (w : World) (hl : zs.length ≤ 100000) (hc : ∀ k, k < zs.length → w.cell? ⟨b, off + k, none⟩ = some (.int .i64 (zs.getD k 0))) (hc' : ∀ k, k < ys.length → w.cell? ⟨b', off' + k, none⟩ = some (.int .i64 (ys.getD k 0))) (he : zs.length = ys.length) :
    Calls Try.prog 11 #[.slice (some ⟨b, off, none⟩) zs.length c, .slice (some ⟨b', off', none⟩) ys.length c'] w fun e w' => e = .returned (.bool (sameB zs ys)) ∧ ∃ q, w' = w.drewN q := by
  have hne : ((zs.length : Int) != (ys.length : Int)) = false := by rw [bne_eq_false_iff_eq]; omega
  have he' := Lib.hid he
  clear he
  go_enter Try.func11, Try.ntmps11
  go_wp2_with fail
  go_loopw [5] (fun i wr => ∃ k q : Nat, k ≤ zs.length ∧ i = .int .i64 k ∧ SameTo zs ys k ∧ wr = w.drewN q) (fun i _ => zs.length - (intOf i).toNat)
  case atStart => exact ⟨0, 0, Nat.zero_le _, rfl, rfl, rfl⟩
  case round =>
    obtain ⟨k, q, hk, rfl, hs, hwr⟩ := hrel
    have hs' := Lib.hid hs
    clear hs
    by_cases hlt : k < zs.length
    · have hly : k < ys.length := by have := he'.out; omega
      have h1 : wr.cell? ⟨b, off + k, none⟩ = some (.int .i64 (zs.getD k 0)) := by rw [hwr]; exact hc k hlt
      have h2 : wr.cell? ⟨b', off' + k, none⟩ = some (.int .i64 (ys.getD k 0)) := by rw [hwr]; exact hc' k hly
      have hsn := Lib.hid (@same_snoc zs ys k hlt hly)
      have hno := Lib.hid (@same_no zs ys k)
      have hwr' := Lib.hid hwr
      clear hwr hc hc'
      generalize zs.getD k 0 = x at h1 hsn hno
      generalize ys.getD k 0 = y at h2 hsn hno
      by_cases hxy : x = y
      · have hd : (x != y) = false := by simpa using hxy
        have hxy' := Lib.hid hxy
        clear hxy
        go_wp2_with fail
        go_quiet (fail)
        go_wp2_with fail
        go_roundw
        case rel => exact ⟨k + 1, q + nq, by omega, by go_num, hsn.out hs'.out hxy'.out, by rw [hwr'.out, drewN_add]⟩
        case measure => simp [intOf]; omega
      · have hd : (x != y) = true := by simpa using hxy
        go_wp2_with fail
        go_quiet (fail)
        go_wp2_with fail
        go_ret
        exact ⟨ret_bool (hno.out hxy).symm, q + nq, by rw [hwr'.out, drewN_add]⟩
    · have hwr' := Lib.hid hwr
      clear hwr
      go_wp2_with fail
      go_ret
      refine ⟨ret_bool ?_, q, hwr'.out⟩
      have hs := hs'.out
      unfold SameTo at hs
      have := he'.out
      rw [List.take_of_length_le (by omega), List.take_of_length_le (by omega)] at hs
      unfold sameB; symm; exact decide_eq_true hs
set_option maxHeartbeats 1000000 in
theorem same_len (a a' : Option Addr) (n n' c c' : Nat) (w : World) (hne : ((n : Int) != (n' : Int)) = true) :
    Calls Try.prog 11 #[.slice a n c, .slice a' n' c'] w fun e w' => e = .returned (.bool false) ∧ w = w' := by
  go_enter Try.func11, Try.ntmps11
  go_wp2_with fail
  go_ret
  exact ⟨rfl, rfl⟩
set_option maxHeartbeats 1000000 in
theorem same_zero (a a' : Option Addr) (c c' : Nat) (w : World) :
    Calls Try.prog 11 #[.slice a 0 c, .slice a' 0 c'] w fun e w' => e = .returned (.bool true) ∧ w = w' := by
  go_enter Try.func11, Try.ntmps11
  go_wp2_with fail
  go_loop [5] (fun i => i = .int .i64 0) (fun i => 0)
  case atStart => rfl
  case round =>
    subst hrel
    go_wp2_with fail
    go_ret
    exact ⟨rfl, rfl⟩
def Drawn (w w' : World) : Prop := ∃ q, w' = w.drewN q
theorem Drawn.refl (w : World) : Drawn w w := ⟨0, rfl⟩
theorem same_any (sv sv' : Value) (zs ys : List Int) (w : World) (h : Rd w sv zs) (h' : Rd w sv' ys) (hl : zs.length ≤ 100000) :
    Calls Try.prog 11 #[sv, sv'] w fun e w' => e = .returned (.bool (sameB zs ys)) ∧ Drawn w w' := by
  by_cases he : zs.length = ys.length
  · rcases h with ⟨a, cap, rfl, rfl⟩ | ⟨b, off, cap, rfl, h1, _, _, h4⟩
    · have : ys = [] := List.eq_nil_of_length_eq_zero he.symm
      subst this
      rcases h' with ⟨a', cap', rfl, _⟩ | ⟨b, off, cap, rfl, h1, _⟩
      · exact (same_zero a a' cap cap' w).mono fun e w' ⟨e1, e2⟩ => ⟨e1, e2 ▸ Drawn.refl w⟩
      · simp at h1
    · rcases h' with ⟨a', cap', rfl, rfl⟩ | ⟨b', off', cap', rfl, _, _, _, h4'⟩
      · simp at he; subst he; simp at h1
      · exact same_some b off cap b' off' cap' zs ys w hl h4 h4' he
  · have e1 : sameB zs ys = false := by unfold sameB; apply decide_eq_false; intro e; subst e; exact he rfl
    rw [e1]
    have hne : ((zs.length : Int) != (ys.length : Int)) = true := by rw [bne_iff_ne]; omega
    have key : ∀ {s : Value} {l : List Int}, Rd w s l → ∃ a c, s = .slice a l.length c := fun {s l} h => by
      rcases h with ⟨a, cap, rfl, rfl⟩ | ⟨b, off, cap, rfl, _⟩
      · exact ⟨a, cap, rfl⟩
      · exact ⟨_, cap, rfl⟩
    obtain ⟨a, c, rfl⟩ := key h
    obtain ⟨a', c', rfl⟩ := key h'
    exact (same_len a a' _ _ c c' w hne).mono fun e w' ⟨e1, e2⟩ => ⟨e1, e2 ▸ Drawn.refl w⟩
end Go.Proofs.Ytkicoaphchpngaa
