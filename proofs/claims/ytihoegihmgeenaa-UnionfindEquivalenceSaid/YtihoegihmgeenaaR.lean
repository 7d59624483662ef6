/- Lists that are read; the reference's Same. -/
import Derived.Test.YtihoegihmgeenaaB
namespace Go.Proofs.Ytihoegihmgeenaa
open Go.RowKit
set_option linter.unusedVariables false
set_option linter.unusedSimpArgs false
/-- v reads as the numbers zs -/
def Rd (w : World) (v : Value) (zs : List Int) : Prop :=
  (∃ a cap, v = .slice a 0 cap ∧ zs = []) ∨ ∃ b off cap, v = .slice (some ⟨b, off, none⟩) zs.length cap ∧ 0 < zs.length ∧ b < w.heap.size ∧ ∀ k, k < zs.length → w.cell? ⟨b, off + k, none⟩ = some (.int .i64 (zs.getD k 0))
def ints (l : List Nat) : List Int := l.map (fun n : Nat => (n : Int))
theorem len_ints (l : List Nat) : (ints l).length = l.length := by simp [ints]
theorem ints_at (l : List Nat) (k : Nat) : (ints l).getD k 0 = ((l.getD k 0 : Nat) : Int) := by
  simp only [ints, List.getD_eq_getElem?_getD, List.getElem?_map]
  cases l[k]? <;> rfl
theorem ints_inj {a b : List Nat} (h : ints a = ints b) : a = b := by
  have := congrArg (List.map Int.toNat) h
  simpa [ints, Function.comp_def] using this
theorem Rd.own {w : World} {B : Nat} {v : Value} {l : List Nat} (o : w.ownsRow B 3 1 v l.length (nums l)) : Rd w v (ints l) := by
  rcases o.2 with ⟨h, h0⟩ | ⟨g, cap, cur, hv, hb, hg, hn, _⟩
  · exact .inl ⟨none, 0, h, by have : l = [] := List.eq_nil_of_length_eq_zero h0; subst this; rfl⟩
  · subst hv
    by_cases h0 : l.length = 0
    · have : l = [] := List.eq_nil_of_length_eq_zero h0
      subst this
      exact .inl ⟨_, cap, rfl, rfl⟩
    · refine .inr ⟨g, 0, cap, by rw [len_ints], by rw [len_ints]; omega, (Array.getElem?_eq_some_iff.1 hg).1, fun k hk => ?_⟩
      rw [len_ints] at hk
      rw [ints_at, Nat.zero_add]
      exact int_cell o k hk
theorem Rd.below {w w' : World} {v : Value} {zs : List Int} (h : Rd w v zs) (hb : Below w.heap.size w w') : Rd w' v zs := by
  rcases h with h | ⟨b, off, cap, h1, h2, h3, h4⟩
  · exact .inl h
  · exact .inr ⟨b, off, cap, h1, h2, Nat.lt_of_lt_of_le h3 hb.size, fun k hk => (hb.cell (p := ⟨b, off + k, none⟩) h3).trans (h4 k hk)⟩
theorem drewN_add (w : World) (a b : Nat) : (w.drewN a).drewN b = w.drewN (a + b) := by simp [World.drewN, Nat.add_assoc]
def Drawn (w w' : World) : Prop := ∃ q, w' = w.drewN q
theorem Drawn.refl (w : World) : Drawn w w := ⟨0, rfl⟩
theorem Drawn.below {w w' : World} (h : Drawn w w') : Below w.heap.size w w' := by obtain ⟨q, rfl⟩ := h; exact ⟨rfl, rfl, rfl, Nat.le_refl _, fun _ _ => rfl⟩
def eqB (a b : List Int) : Bool := decide (a = b)
def SameTo (a b : List Int) (k : Nat) : Prop := a.take k = b.take k
theorem same_snoc {a b : List Int} {k : Nat} (ha : k < a.length) (hb : k < b.length) (h : SameTo a b k) (he : a.getD k 0 = b.getD k 0) : SameTo a b (k + 1) := by
  unfold SameTo at *
  rw [List.take_succ_eq_append_getElem ha, List.take_succ_eq_append_getElem hb, h]
  simp [List.getD_eq_getElem?_getD, ha, hb] at he
  rw [he]
theorem same_no {a b : List Int} {k : Nat} (h : ¬ a.getD k 0 = b.getD k 0) : eqB a b = false := by
  unfold eqB; apply decide_eq_false; intro e; subst e; exact h rfl
set_option maxHeartbeats 1000000 in
theorem rsame_some (b off c b' off' c' : Nat) (zs ys : List Int) (w : World) (hl : zs.length ≤ 100000) (hc : ∀ k, k < zs.length → w.cell? ⟨b, off + k, none⟩ = some (.int .i64 (zs.getD k 0))) (hc' : ∀ k, k < ys.length → w.cell? ⟨b', off' + k, none⟩ = some (.int .i64 (ys.getD k 0))) (he : zs.length = ys.length) :
    Calls Try.prog 23 #[.slice (some ⟨b, off, none⟩) zs.length c, .slice (some ⟨b', off', none⟩) ys.length c'] w fun e w' => e = .returned (.bool (eqB zs ys)) ∧ Drawn w w' := by
  have hne : ((zs.length : Int) != (ys.length : Int)) = false := by rw [bne_eq_false_iff_eq]; omega
  have he' := Lib.hid he
  clear he
  go_enter Try.func23, Try.ntmps23
  go_wp2_with fail
  go_loopw [5, 13] (fun _ i wr => ∃ k q : Nat, k ≤ zs.length ∧ i = .int .i64 k ∧ SameTo zs ys k ∧ wr = w.drewN q) (fun _ i _ => zs.length - (intOf i).toNat)
  case atStart => exact ⟨0, 0, Nat.zero_le _, rfl, rfl, rfl⟩
  case round =>
    obtain ⟨k, q, hk, rfl, hs, hwr⟩ := hrel
    have hs' := Lib.hid hs
    clear hs
    by_cases hlt : k < zs.length
    · have hly : k < ys.length := by have := he'.out; omega
      have h1 : wr.cell? ⟨b, off + k, none⟩ = some (.int .i64 (zs.getD k 0)) := by rw [hwr]; exact hc k hlt
      have h2 : wr.cell? ⟨b', off' + k, none⟩ = some (.int .i64 (ys.getD k 0)) := by rw [hwr]; exact hc' k hly
      have hsn := Lib.hid (@same_snoc zs ys k hlt hly)
      have hno := Lib.hid (@same_no zs ys k)
      have hwr' := Lib.hid hwr
      clear hwr hc hc'
      generalize zs.getD k 0 = x at h1 hsn hno
      generalize ys.getD k 0 = y at h2 hsn hno
      by_cases hxy : x = y
      · have hd : (x != y) = false := by simpa using hxy
        have hxy' := Lib.hid hxy
        clear hxy
        go_wp2_with fail
        go_quiet (fail)
        go_wp2_with fail
        go_roundw
        case rel => exact ⟨k + 1, q + nq, by omega, by go_num, hsn.out hs'.out hxy'.out, by rw [hwr'.out, drewN_add]⟩
        case measure => simp [intOf]; omega
      · have hd : (x != y) = true := by simpa using hxy
        go_wp2_with fail
        go_quiet (fail)
        go_wp2_with fail
        go_ret
        exact ⟨ret_bool (hno.out hxy).symm, q + nq, by rw [hwr'.out, drewN_add]⟩
    · have hwr' := Lib.hid hwr
      clear hwr
      go_wp2_with fail
      go_ret
      refine ⟨ret_bool ?_, q, hwr'.out⟩
      have hs := hs'.out
      unfold SameTo at hs
      have := he'.out
      rw [List.take_of_length_le (by omega), List.take_of_length_le (by omega)] at hs
      unfold eqB; symm; exact decide_eq_true hs
set_option maxHeartbeats 1000000 in
theorem rsame_len (a a' : Option Addr) (n n' c c' : Nat) (w : World) (hne : ((n : Int) != (n' : Int)) = true) :
    Calls Try.prog 23 #[.slice a n c, .slice a' n' c'] w fun e w' => e = .returned (.bool false) ∧ w = w' := by
  go_enter Try.func23, Try.ntmps23
  go_wp2_with fail
  go_ret
  exact ⟨rfl, rfl⟩
set_option maxHeartbeats 1000000 in
theorem rsame_zero (a a' : Option Addr) (c c' : Nat) (w : World) :
    Calls Try.prog 23 #[.slice a 0 c, .slice a' 0 c'] w fun e w' => e = .returned (.bool true) ∧ w = w' := by
  go_enter Try.func23, Try.ntmps23
  go_wp2_with fail
  go_loop [13] (fun i => i = .int .i64 0) (fun i => 0)
  case atStart => rfl
  case round =>
    subst hrel
    go_wp2_with fail
    go_ret
    exact ⟨rfl, rfl⟩
theorem rsame_any (sv sv' : Value) (zs ys : List Int) (w : World) (h : Rd w sv zs) (h' : Rd w sv' ys) (hl : zs.length ≤ 100000) :
    Calls Try.prog 23 #[sv, sv'] w fun e w' => e = .returned (.bool (eqB zs ys)) ∧ Drawn w w' := by
  by_cases he : zs.length = ys.length
  · rcases h with ⟨a, cap, rfl, rfl⟩ | ⟨b, off, cap, rfl, h1, _, h4⟩
    · have : ys = [] := List.eq_nil_of_length_eq_zero he.symm
      subst this
      rcases h' with ⟨a', cap', rfl, _⟩ | ⟨b, off, cap, rfl, h1, _⟩
      · exact (rsame_zero a a' cap cap' w).mono fun e w' ⟨e1, e2⟩ => ⟨e1, e2 ▸ Drawn.refl w⟩
      · simp at h1
    · rcases h' with ⟨a', cap', rfl, rfl⟩ | ⟨b', off', cap', rfl, _, _, h4'⟩
      · simp at he; subst he; simp at h1
      · exact rsame_some b off cap b' off' cap' zs ys w hl h4 h4' he
  · have e1 : eqB zs ys = false := by unfold eqB; apply decide_eq_false; intro e; subst e; exact he rfl
    rw [e1]
    have hne : ((zs.length : Int) != (ys.length : Int)) = true := by rw [bne_iff_ne]; omega
    have key : ∀ {s : Value} {l : List Int}, Rd w s l → ∃ a c, s = .slice a l.length c := fun {s l} h => by
      rcases h with ⟨a, cap, rfl, rfl⟩ | ⟨b, off, cap, rfl, _⟩
      · exact ⟨a, cap, rfl⟩
      · exact ⟨_, cap, rfl⟩
    obtain ⟨a, c, rfl⟩ := key h
    obtain ⟨a', c', rfl⟩ := key h'
    exact (rsame_len a a' _ _ c c' w hne).mono fun e w' ⟨e1, e2⟩ => ⟨e1, e2 ▸ Drawn.refl w⟩
end Go.Proofs.Ytihoegihmgeenaa
