/- Same, Len, Links, Path. -/
import Derived.Test.YtpnjmkmobdaefaaG
import Derived.Lib.SliceRun
namespace Go.Proofs.Ytpnjmkmobdaefaa
open Go.RowKit Go.Maps
set_option linter.unusedVariables false
set_option linter.unusedSimpArgs false
structure FS (w : World) (B : Nat) (o : FO) (M : List L3) (N : Nat) : Prop where
  fb : FB w B o M N
  wf : WFR M.reverse
  u : UPI M o.up
  v : OV M.reverse o.C.reverse o.ov
theorem FS.bk {w w' : World} {B : Nat} {o : FO} {M : List L3} {N : Nat} (h : FS w B o M N) (hb : BK w w') : FS w' B o M N := ⟨h.fb.bk hb, h.wf, h.u, h.v⟩
theorem FS.keep {w w' : World} {B : Nat} {o : FO} {M : List L3} {N : Nat} (h : FS w B o M N) (hk : ∀ k, o.foot k → w'.heap[k]? = w.heap[k]?) : FS w' B o M N := ⟨h.fb.keep hk, h.wf, h.u, h.v⟩
theorem FS.root {w : World} {B : Nat} {o : FO} {M : List L3} {N : Nat} (h : FS w B o M N) {x : Int} (hx : okI x) : ∃ z, okI z ∧ CR M.reverse x z ∧ o.ov z = none ∧ ∀ wc, FB wc B o M N → Calls Try.prog 29 #[.pointer (some ⟨o.f, 0, none⟩), .int .i64 x] wc fun e w' => e = .returned (.int .i64 z) ∧ wc = w' := by
  obtain ⟨ρ, hr⟩ := ov_rank h.v
  obtain ⟨n, z, hz⟩ := rt_ex hr (ρ x) x (Nat.le_refl _)
  exact ⟨z, rt_ok h.fb.mov hx hz, rt_cr h.v hz, rt_root hz, fun wc hc => root29 wc B o M N hc ρ hr n x z hx hz⟩
theorem FS.roots {w : World} {B : Nat} {o : FO} {M : List L3} {N : Nat} (h : FS w B o M N) {x y z z' : Int} (h1 : CR M.reverse x z) (h2 : o.ov z = none) (h3 : CR M.reverse y z') (h4 : o.ov z' = none) : (z = z') ↔ CR M.reverse x y := by
  constructor
  · intro e; subst e; exact cr_trans _ h1 (cr_symm _ h3)
  · intro e; exact ov_root h.v z z' h2 h4 (cr_trans _ (cr_symm _ h1) (cr_trans _ e h3))
/-- what Path answers -/
def pathO (M : List L3) (a b : Int) : Option (List L3) := if 0 ≤ a ∧ 0 ≤ b then PR M.reverse a b else none
def sameB (M : List L3) (a b : Int) : Bool := (pathO M a b).isSome
theorem same_cr {M : List L3} {a b : Int} (ha : 0 ≤ a) (hb : 0 ≤ b) : sameB M a b = true ↔ CR M.reverse a b := by
  unfold sameB pathO
  rw [if_pos ⟨ha, hb⟩, cr_iff, Option.isSome_iff_exists]
theorem same_neg {M : List L3} {a b : Int} (h : a < 0 ∨ b < 0) : sameB M a b = false := by
  unfold sameB pathO
  rw [if_neg (by omega)]; rfl
set_option maxHeartbeats 1000000 in
theorem same23 (w : World) (B : Nat) (o : FO) (M : List L3) (N : Nat) (h : FS w B o M N) (a b : Int) (ha : okI a) (hb : okI b) : Calls Try.prog 23 #[.pointer (some ⟨o.f, 0, none⟩), .int .i64 a, .int .i64 b] w fun e w' => e = .returned (.bool (sameB M a b)) ∧ w = w' := by
  have US := Lib.hid (usable_yes o.f w h.fb.k0)
  by_cases h1 : a < 0
  · have HS := Lib.hid (same_neg (M := M) (a := a) (b := b) (.inl h1))
    have g1 : ¬ (0 : Int) ≤ a := by omega
    clear h
    go_enter Try.func23, Try.ntmps23
    go_wp2_with fail
    refine US.out.mono ?_
    rintro e w' ⟨rfl, rfl⟩
    go_wp2_with fail
    go_ret
    exact ⟨ret_bool HS.out.symm, rfl⟩
  by_cases h2 : b < 0
  · have HS := Lib.hid (same_neg (M := M) (a := a) (b := b) (.inr h2))
    have g1 : (0 : Int) ≤ a := by omega
    have g2 : ¬ (0 : Int) ≤ b := by omega
    clear h
    go_enter Try.func23, Try.ntmps23
    go_wp2_with fail
    refine US.out.mono ?_
    rintro e w' ⟨rfl, rfl⟩
    go_wp2_with fail
    go_ret
    exact ⟨ret_bool HS.out.symm, rfl⟩
  have g1 : (0 : Int) ≤ a := by omega
  have g2 : (0 : Int) ≤ b := by omega
  obtain ⟨z, z1, z2, z3, z4⟩ := h.root ha
  obtain ⟨y, y1, y2, y3, y4⟩ := h.root hb
  have HS := Lib.hid (show (z == y) = sameB M a b from by
    rw [Bool.eq_iff_iff, same_cr g1 g2, ← h.roots z2 z3 y2 y3]; simp)
  have Z := Lib.hid (z4 w h.fb)
  have Y := Lib.hid (y4 w h.fb)
  clear h z1 z2 z3 z4 y1 y2 y3 y4 h1 h2
  generalize sameB M a b = s at HS ⊢
  go_enter Try.func23, Try.ntmps23
  go_wp2_with fail
  refine US.out.mono ?_
  rintro e w' ⟨rfl, rfl⟩
  go_wp2_with fail
  refine Z.out.mono ?_
  rintro e w' ⟨rfl, rfl⟩
  go_wp2_with fail
  refine Y.out.mono ?_
  rintro e w' ⟨rfl, rfl⟩
  go_wp2_with fail
  go_ret
  exact ⟨ret_bool HS.out, rfl⟩
set_option maxHeartbeats 400000 in
theorem len17 (w : World) (B : Nat) (o : FO) (M : List L3) (N : Nat) (h : FB w B o M N) : Calls Try.prog 17 #[.pointer (some ⟨o.f, 0, none⟩)] w fun e w' => e = .returned (.int .i64 (M.length : Int)) ∧ w = w' := by
  have US := Lib.hid (usable_yes o.f w h.k0)
  have c1 := h.k1
  obtain ⟨p, c, e⟩ := own_shape h.links
  rw [e] at c1
  clear h e
  go_enter Try.func17, Try.ntmps17
  go_wp2_with fail
  refine US.out.mono ?_
  rintro e w' ⟨rfl, rfl⟩
  go_wp2_with fail
  go_ret
  exact ⟨rfl, rfl⟩
theorem own_empty (w : World) (B : Nat) (hB : B ≤ w.heap.size) (e sz : Nat) : (w.alloc (.cells #[] e)).ownsRow B e sz (.slice (some ⟨w.heap.size, 0, none⟩) 0 0) 0 [] :=
  ⟨by simp, .inr ⟨w.heap.size, 0, #[], rfl, hB, heap_alloc_new w _, Nat.le_refl _, Nat.zero_le _, by simp, by simp⟩⟩
theorem rl_src {w : World} {a : Addr} {c : Nat} {l : List L3} (h : RL w (some a) c l) : ∀ j u, (flat3 l)[j]? = some u → w.cell? (a.add j) = some u := by
  intro j u hu
  have hj : j < l.length * 3 := by have := (List.getElem?_eq_some_iff.1 hu).1; rwa [flat3_len] at this
  obtain ⟨b, o, he, hc⟩ := h.get (j / 3) (by omega)
  obtain rfl : a = ⟨b, o, none⟩ := by simpa using he
  have hg := flat3_get l (j / 3) (by omega) (j % 3) (by omega)
  rw [show j / 3 * 3 + j % 3 = j by omega, hu] at hg
  rw [show (⟨b, o, none⟩ : Addr).add j = ⟨b, o + j, none⟩ from Go.WideShapes.add_plain _ _ _, show o + j = o + j / 3 * 3 + j % 3 by omega]
  obtain ⟨c0, c1, c2⟩ := hc
  generalize l[j / 3]'(by omega) = i at hg c0 c1 c2
  have h6 : j % 3 < 3 := by omega
  generalize j % 3 = r at hg h6
  match r, h6 with
  | 0, _ => simp [cells3] at hg; rw [hg]; exact c0
  | 1, _ => simp [cells3] at hg; rw [hg]; exact c1
  | 2, _ => simp [cells3] at hg; rw [hg]; exact c2
/-- a row of links that the call made -/
def LP (w : World) (l : List L3) (e : Ending) (w' : World) : Prop := ∃ v, e = .returned v ∧ w'.ownsRow w.heap.size 44 3 v l.length (flat3 l) ∧ BK w w'
set_option maxRecDepth 100000 in
set_option maxHeartbeats 1000000 in
theorem clone31 (l : List L3) (p : Option Addr) (c : Nat) (w : World) (h : RL w p c l) (hl : l.length ≤ 3000) : Calls Try.prog 31 #[.slice p l.length c] w (LP w l) := by
  obtain ⟨i0, hi, hz0, hz1, hz2⟩ := info_parts info44
  have q22 : ∀ (w : World) (a : Option Addr) (n c n' c' : Nat), (binOp .eql 26 (.slice a n c) (.slice none n' c')).run Try.prog w = .ok (.bool a.isNone) w := fun w a n c n' c' => Lib.run_eql_slice_nil w _ _ a n c n' c' Try.underlying26
  cases p with
  | none =>
    have hc := h.nl rfl
    have hle := h.le
    obtain rfl := List.eq_nil_of_length_eq_zero (show l.length = 0 by omega)
    clear h
    go_enter Try.func31, Try.ntmps31
    go_wp2_with fail
    go_ret
    exact ⟨_, rfl, World.ownsRow_nil _ _ _ _, BK.refl _⟩
  | some a =>
    have HS := Lib.hid (rl_src (h.keep (bk_alloc (BK.refl w) (.cells #[] 44))))
    have hml : 0 + l.length ≤ maxLen := by unfold maxLen; omega
    clear h
    go_enter Try.func31, Try.ntmps31
    go_wp2_with (at_builtin; refine wpList_append_own _ rfl _ _ 26 rfl w.heap.size 44 i0 _ 3 24 Try.underlying26 hi hz0 hz1 hz2 rfl (by decide) _ _ _ rfl (own_empty w w.heap.size (Nat.le_refl _) 44 3) a l.length c (flat3 l) rfl (flat3_len l) HS.out (flat3_one l) hml (by omega) (by simp) ?_; intro v' w1 ho hg _; have HO := Lib.hid ho; have HG := Lib.hid hg; clear ho hg)
    go_ret
    exact ⟨_, rfl, by have := HO.out; rw [Nat.zero_add, List.nil_append] at this; exact this, ((Below.refl _ _).alloc (Nat.le_refl _) _).grown HG.out (by simp) (fun k e => (World.ownsRow.lt (own_empty w w.heap.size (Nat.le_refl _) 44 3) k e).1)⟩
set_option maxHeartbeats 1000000 in
theorem links19 (w : World) (B : Nat) (o : FO) (M : List L3) (N : Nat) (h : FB w B o M N) (hk : M.length ≤ 1000) : Calls Try.prog 19 #[.pointer (some ⟨o.f, 0, none⟩)] w (LP w M) := by
  have US := Lib.hid (usable_yes o.f w h.k0)
  have c1 := h.k1
  have hl := h.links
  obtain ⟨p, c, e⟩ := own_shape h.links
  rw [e] at c1 hl
  have CL := Lib.hid (clone31 M p c w (RL.own hl) (by omega))
  clear h e hl
  go_enter Try.func19, Try.ntmps19
  go_wp2_with fail
  refine US.out.mono ?_
  rintro e w' ⟨rfl, rfl⟩
  go_wp2_with fail
  refine CL.out.mono ?_
  rintro e w1 ⟨v, rfl, ho, hb⟩
  have HO := Lib.hid ho
  have HB := Lib.hid hb
  obtain ⟨p', c', rfl⟩ := own_shape ho
  clear ho hb
  go_wp2_with fail
  go_ret
  exact ⟨_, rfl, HO.out, HB.out⟩
end Go.Proofs.Ytpnjmkmobdaefaa
