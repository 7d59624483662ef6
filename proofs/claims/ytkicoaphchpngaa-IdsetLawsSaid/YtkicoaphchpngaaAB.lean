/- Minus and Remove. -/
import Derived.Test.YtkicoaphchpngaaZN
import Derived.Test.YtkicoaphchpngaaAA
namespace Go.Proofs.Ytkicoaphchpngaa
open Go.RowKit Go.Lib Go.Sort
set_option linter.unusedVariables false
set_option linter.unusedSimpArgs false
theorem minus_list (zs us : List Int) : chL (fun a b => a && !b) (ofL zs) (ofL us) = pickL us (ofL zs) false :=
  ss_ext _ _ (chL_ss _ _ _ (ss_ofL _) (ss_ofL _)) (pick_ss (ss_ofL _)) (fun y => by rw [chL_mem _ rfl _ _ (ss_ofL _) (ss_ofL _)]; unfold pickL; rw [List.mem_filter]; simp [mem_ofL, memB])
theorem remove_list (zs : List Int) (x : Int) : chL (fun a b => a && !b) (ofL zs) (ofL [x]) = dropL x (ofL zs) :=
  ss_ext _ _ (chL_ss _ _ _ (ss_ofL _) (ss_ofL _)) (drop_ss (ss_ofL _)) (fun y => by rw [chL_mem _ rfl _ _ (ss_ofL _) (ss_ofL _)]; unfold dropL; rw [List.mem_filter]; simp [mem_ofL])
set_option maxHeartbeats 2000000 in
theorem choose_48 (sa sb : Value) (zs us : List Int) (w : World) (h : Rd w sa zs) (h' : Rd w sb us) (hl : zs.length + us.length ≤ 2000) :
    Calls Try.prog 44 #[sa, sb, .func (.func 48) #[] #[]] w (OfPost w (chL (fun a b => a && !b) (ofL zs) (ofL us))) := by
  have hmf : ∀ (fn : Fn) (first cap : Array Value) (w : World), (Instr.makeFunc fn first cap).run Try.prog w = .ok (.func fn first cap) w := fun _ _ _ _ => rfl
  have hA : Below w.heap.size w ((w.alloc (.cells #[.func (.func 48) #[] #[]] 47)).alloc (.cells #[.slice none 0 0] 22)) := ((Below.refl _ _).alloc (Nat.le_refl _) _).alloc (below_alloc _ _).size _
  have s1 : (w.alloc (.cells #[.func (.func 48) #[] #[]] 47)).heap.size = w.heap.size + 1 := by show (w.heap.push _).size = _; simp
  have hme := Lib.hid (merge_48 (w.heap.size + 1) w.heap.size sa sb zs us ((w.alloc (.cells #[.func (.func 48) #[] #[]] 47)).alloc (.cells #[.slice none 0 0] 22)) (h.below hA) (h'.below hA) hl
    (by rw [← s1]; exact block_new _ _) (by rw [block_old _ (by rw [s1]; omega)]; exact block_new _ _))
  have hA' := Lib.hid hA
  clear h h' hA s1
  go_enter Try.func44, Try.ntmps44
  go_wp2_with fail
  refine hme.out.mono ?_
  rintro e w3 ⟨rfl, v, hb, hrow, hf⟩
  have c1 := cell_of_one hb
  have hrow' := Lib.hid hrow
  have hf' := Lib.hid hf
  clear hrow hf hb
  go_wp2_with fail
  go_ret
  exact ⟨v, rfl, own_weak hrow'.out hA'.out.size, frc_below hA'.out hf'.out hA'.out.size (by omega)⟩
set_option maxHeartbeats 1000000 in
theorem minus_any (sa sb : Value) (zs us : List Int) (w : World) (h : Rd w sa zs) (h' : Rd w sb us) (hl : zs.length + us.length ≤ 2000) :
    Calls Try.prog 28 #[sa, sb] w (OfPost w (chL (fun a b => a && !b) (ofL zs) (ofL us))) := by
  have hc := Lib.hid (choose_48 sa sb zs us w h h' hl)
  clear h h'
  go_enter Try.func28, Try.ntmps28
  go_wp2_with fail
  refine hc.out.mono ?_
  rintro e w3 ⟨v3, rfl, ho3, hb3⟩
  have ho3' := Lib.hid ho3
  clear ho3
  go_wp2_with fail
  go_ret
  exact ⟨_, rfl, ho3'.out, hb3⟩
set_option maxHeartbeats 1000000 in
theorem remove_any (sa : Value) (x : Int) (zs : List Int) (w : World) (h : Rd w sa zs) (hl : zs.length ≤ 1900) :
    Calls Try.prog 22 #[sa, .int .i64 x] w (OfPost w (dropL x (ofL zs))) := by
  have hc := Lib.hid (minus_any sa (.slice (some ⟨w.heap.size, 0, none⟩) 1 1) zs [x] (w.alloc (.cells #[.int .i64 x] 3)) (h.below (below_alloc _ _)) (rd_one w x) (by simp; omega))
  clear h
  go_enter Try.func22, Try.ntmps22
  go_wp2_with fail
  refine hc.out.mono ?_
  rintro e w3 ⟨v3, rfl, ho3, hb3⟩
  have ho3' := Lib.hid ho3
  clear ho3
  go_wp2_with fail
  go_ret
  have e1 : chL (fun a b => a && !b) (ofL zs) (ofL [x]) = dropL x (ofL zs) := remove_list zs x
  rw [← e1]
  exact OfPost.up (below_alloc _ _) ⟨_, rfl, ho3'.out, hb3⟩
end Go.Proofs.Ytkicoaphchpngaa
