/- Subset and Equal, and the reference's. -/
import Derived.Test.YtkicoaphchpngaaAK
import Derived.Test.YtkicoaphchpngaaAL
import Derived.Test.YtkicoaphchpngaaAC
import Derived.Test.YtkicoaphchpngaaAG
namespace Go.Proofs.Ytkicoaphchpngaa
open Go.RowKit Go.Lib Go.Sort
set_option linter.unusedVariables false
set_option linter.unusedSimpArgs false
/-- what a query returns -/
def BPost (w : World) (r : Bool) (e : Ending) (w' : World) : Prop := e = .returned (.bool r) ∧ Below w.heap.size w w'
set_option maxHeartbeats 2000000 in
theorem every_50 (sa sb : Value) (zs us : List Int) (w : World) (h : Rd w sa zs) (h' : Rd w sb us) (hl : zs.length + us.length ≤ 2000) :
    Calls Try.prog 49 #[sa, sb, .func (.func 50) #[] #[]] w (BPost w (emB (chL (fun a b => a && !b) (ofL zs) (ofL us)))) := by
  have hmf : ∀ (fn : Fn) (first cap : Array Value) (w : World), (Instr.makeFunc fn first cap).run Try.prog w = .ok (.func fn first cap) w := fun _ _ _ _ => rfl
  have hA : Below w.heap.size w ((w.alloc (.cells #[.func (.func 50) #[] #[]] 47)).alloc (.cells #[.bool true] 4)) := ((Below.refl _ _).alloc (Nat.le_refl _) _).alloc (below_alloc _ _).size _
  have s1 : (w.alloc (.cells #[.func (.func 50) #[] #[]] 47)).heap.size = w.heap.size + 1 := by show (w.heap.push _).size = _; simp
  have hme := Lib.hid (emerge_50 (w.heap.size + 1) w.heap.size sa sb zs us ((w.alloc (.cells #[.func (.func 50) #[] #[]] 47)).alloc (.cells #[.bool true] 4)) (h.below hA) (h'.below hA) hl
    (by rw [← s1]; exact block_new _ _) (by rw [block_old _ (by rw [s1]; omega)]; exact block_new _ _))
  have hA' := Lib.hid hA
  clear h h' hA s1
  obtain ⟨r0, hr0⟩ : ∃ r0, r0 = emB (chL (fun a b => a && !b) (ofL zs) (ofL us)) := ⟨_, rfl⟩
  rw [← hr0]
  have hr := Lib.hid hr0
  clear hr0
  go_enter Try.func49, Try.ntmps49
  go_wp2_with fail
  refine hme.out.mono ?_
  rintro e w3 ⟨rfl, hb, hf⟩
  rw [← hr.out] at hb
  have c1 := cell_of_one hb
  have hf' := Lib.hid hf
  clear hf hb
  go_wp2_with fail
  go_ret
  exact ⟨rfl, frc_below hA'.out hf'.out hA'.out.size (by omega)⟩
set_option maxHeartbeats 1000000 in
theorem subset_any (sa sb : Value) (zs us : List Int) (w : World) (h : Rd w sa zs) (h' : Rd w sb us) (hl : zs.length + us.length ≤ 2000) :
    Calls Try.prog 30 #[sa, sb] w (BPost w (emB (chL (fun a b => a && !b) (ofL zs) (ofL us)))) := by
  have hc := Lib.hid (every_50 sa sb zs us w h h' hl)
  clear h h'
  obtain ⟨r0, hr0⟩ : ∃ r0, r0 = emB (chL (fun a b => a && !b) (ofL zs) (ofL us)) := ⟨_, rfl⟩
  rw [← hr0]
  have hr := Lib.hid hr0
  clear hr0
  go_enter Try.func30, Try.ntmps30
  go_wp2_with fail
  refine hc.out.mono ?_
  rintro e w3 ⟨he, hb3⟩
  rw [← hr.out] at he
  subst he
  go_wp2_with fail
  go_ret
  exact ⟨rfl, hb3⟩
set_option maxHeartbeats 2000000 in
theorem every_51 (sa sb : Value) (zs us : List Int) (w : World) (h : Rd w sa zs) (h' : Rd w sb us) (hl : zs.length + us.length ≤ 2000) :
    Calls Try.prog 49 #[sa, sb, .func (.func 51) #[] #[]] w (BPost w (emB (chL (fun a b => (a || b) && !(a && b)) (ofL zs) (ofL us)))) := by
  have hmf : ∀ (fn : Fn) (first cap : Array Value) (w : World), (Instr.makeFunc fn first cap).run Try.prog w = .ok (.func fn first cap) w := fun _ _ _ _ => rfl
  have hA : Below w.heap.size w ((w.alloc (.cells #[.func (.func 51) #[] #[]] 47)).alloc (.cells #[.bool true] 4)) := ((Below.refl _ _).alloc (Nat.le_refl _) _).alloc (below_alloc _ _).size _
  have s1 : (w.alloc (.cells #[.func (.func 51) #[] #[]] 47)).heap.size = w.heap.size + 1 := by show (w.heap.push _).size = _; simp
  have hme := Lib.hid (emerge_51 (w.heap.size + 1) w.heap.size sa sb zs us ((w.alloc (.cells #[.func (.func 51) #[] #[]] 47)).alloc (.cells #[.bool true] 4)) (h.below hA) (h'.below hA) hl
    (by rw [← s1]; exact block_new _ _) (by rw [block_old _ (by rw [s1]; omega)]; exact block_new _ _))
  have hA' := Lib.hid hA
  clear h h' hA s1
  obtain ⟨r0, hr0⟩ : ∃ r0, r0 = emB (chL (fun a b => (a || b) && !(a && b)) (ofL zs) (ofL us)) := ⟨_, rfl⟩
  rw [← hr0]
  have hr := Lib.hid hr0
  clear hr0
  go_enter Try.func49, Try.ntmps49
  go_wp2_with fail
  refine hme.out.mono ?_
  rintro e w3 ⟨rfl, hb, hf⟩
  rw [← hr.out] at hb
  have c1 := cell_of_one hb
  have hf' := Lib.hid hf
  clear hf hb
  go_wp2_with fail
  go_ret
  exact ⟨rfl, frc_below hA'.out hf'.out hA'.out.size (by omega)⟩
set_option maxHeartbeats 1000000 in
theorem equal_any (sa sb : Value) (zs us : List Int) (w : World) (h : Rd w sa zs) (h' : Rd w sb us) (hl : zs.length + us.length ≤ 2000) :
    Calls Try.prog 32 #[sa, sb] w (BPost w (emB (chL (fun a b => (a || b) && !(a && b)) (ofL zs) (ofL us)))) := by
  have hc := Lib.hid (every_51 sa sb zs us w h h' hl)
  clear h h'
  obtain ⟨r0, hr0⟩ : ∃ r0, r0 = emB (chL (fun a b => (a || b) && !(a && b)) (ofL zs) (ofL us)) := ⟨_, rfl⟩
  rw [← hr0]
  have hr := Lib.hid hr0
  clear hr0
  go_enter Try.func32, Try.ntmps32
  go_wp2_with fail
  refine hc.out.mono ?_
  rintro e w3 ⟨he, hb3⟩
  rw [← hr.out] at he
  subst he
  go_wp2_with fail
  go_ret
  exact ⟨rfl, hb3⟩
set_option maxHeartbeats 1000000 in
theorem rsubset_any (sa sb : Value) (zs us : List Int) (w : World) (h : Rd w sa zs) (h' : Rd w sb us) (hl : zs.length ≤ 10000) (hl' : us.length ≤ 10000) :
    Calls Try.prog 31 #[sa, sb] w (BPost w (emB (pickL us (ofL zs) false))) := by
  have hc := Lib.hid (rpick_any sa sb zs us false w h h' hl hl')
  clear h h'
  generalize pickL us (ofL zs) false = ls at hc ⊢
  go_enter Try.func31, Try.ntmps31
  go_wp2_with fail
  refine hc.out.mono ?_
  rintro e w3 ⟨v3, rfl, ho3, hb3⟩
  obtain ⟨q, e2, rfl⟩ := own_shape ho3
  have hr : ((ls.length : Int) == 0) = emB ls := by
    unfold emB
    cases ls with
    | nil => rfl
    | cons x l => rw [beq_eq_false_iff_ne.2 (by simp; omega)]; simp
  clear ho3
  go_wp2_with fail
  go_ret
  exact ⟨rfl, hb3⟩
theorem subset_list (zs us : List Int) : emB (chL (fun a b => a && !b) (ofL zs) (ofL us)) = emB (pickL us (ofL zs) false) := by rw [minus_list]
theorem equal_list (zs us : List Int) : emB (chL (fun a b => (a || b) && !(a && b)) (ofL zs) (ofL us)) = sameB (ofL zs) (ofL us) := by
  unfold emB sameB
  rw [decide_eq_decide]
  have hm := fun z => chL_mem (fun a b => (a || b) && !(a && b)) rfl (ofL zs) (ofL us) (ss_ofL _) (ss_ofL _) z
  constructor
  · intro h
    refine ss_ext _ _ (ss_ofL _) (ss_ofL _) (fun y => ?_)
    have h1 := hm y
    rw [h] at h1
    simp only [List.not_mem_nil, false_iff] at h1
    by_cases e1 : y ∈ ofL zs <;> by_cases e2 : y ∈ ofL us <;> simp [e1, e2] at h1 ⊢
  · intro h
    rw [List.eq_nil_iff_forall_not_mem]
    intro y hy
    have h1 := (hm y).1 hy
    rw [h] at h1
    by_cases e2 : y ∈ ofL us <;> simp [e2] at h1
end Go.Proofs.Ytkicoaphchpngaa
