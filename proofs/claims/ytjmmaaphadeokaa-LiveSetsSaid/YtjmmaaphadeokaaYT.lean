/- Union. -/
import Derived.Test.YtjmmaaphadeokaaYS
namespace Go.Proofs.Ytjmmaaphadeokaa.Ids
open Go.RowKit Go.Lib Go.Sort
set_option linter.unusedVariables false
set_option linter.unusedSimpArgs false
set_option linter.unnecessarySimpa false
set_option maxRecDepth 100000
theorem block_new (w : World) (o : Obj) : (w.alloc o).heap[w.heap.size]? = some o := by
  show (w.heap.push o)[w.heap.size]? = some o
  simp
theorem block_old {w : World} {k : Nat} (o : Obj) (hk : k < w.heap.size) : (w.alloc o).heap[k]? = w.heap[k]? := (below_alloc w o).block k hk
theorem frc_below {w w1 w2 : World} {B pc : Nat} (h : Below w.heap.size w w1) (hf : FrC B pc w1 w2) (hB : w.heap.size ≤ B) (hp : w.heap.size ≤ pc) : Below w.heap.size w w2 :=
  ⟨hf.os.trans h.os, hf.tape.trans h.tape, hf.output.trans h.output, Nat.le_trans h.size hf.size, fun k hk => (hf.block k (by omega) (by omega)).trans (h.block k hk)⟩
theorem union_list (zs us : List Int) : chL (fun a b => a || b) (ofL zs) (ofL us) = ofL (zs ++ us) :=
  ss_ext _ _ (chL_ss _ _ _ (ss_ofL _) (ss_ofL _)) (ss_ofL _) (fun y => by rw [chL_mem _ rfl _ _ (ss_ofL _) (ss_ofL _)]; simp [mem_ofL])
set_option maxHeartbeats 2000000 in
theorem choose_45 (sa sb : Value) (zs us : List Int) (w : World) (h : Rd w sa zs) (h' : Rd w sb us) (hva : validB zs = true) (hvb : validB us = true) (hl : zs.length + us.length ≤ 2000) :
    Calls Try.prog 55 #[sa, sb, .func (.func 56) #[] #[]] w (OfPost w (chL (fun a b => a || b) (ofL zs) (ofL us))) := by
  have hmf : ∀ (fn : Fn) (first cap : Array Value) (w : World), (Instr.makeFunc fn first cap).run Try.prog w = .ok (.func fn first cap) w := fun _ _ _ _ => rfl
  have hA : Below w.heap.size w ((w.alloc (.cells #[.func (.func 56) #[] #[]] 84)).alloc (.cells #[.slice none 0 0] 23)) := ((Below.refl _ _).alloc (Nat.le_refl _) _).alloc (below_alloc _ _).size _
  have s1 : (w.alloc (.cells #[.func (.func 56) #[] #[]] 84)).heap.size = w.heap.size + 1 := by show (w.heap.push _).size = _; simp
  have hme := Lib.hid (merge_45 (w.heap.size + 1) w.heap.size sa sb zs us ((w.alloc (.cells #[.func (.func 56) #[] #[]] 84)).alloc (.cells #[.slice none 0 0] 23)) (h.below hA) (h'.below hA) hva hvb hl
    (by rw [← s1]; exact block_new _ _) (by rw [block_old _ (by rw [s1]; omega)]; exact block_new _ _))
  have hA' := Lib.hid hA
  clear h h' hA s1
  go_enter Try.func55, Try.ntmps55
  go_wp2_with fail
  refine hme.out.mono ?_
  rintro e w3 ⟨rfl, v, hb, hrow, hf⟩
  have c1 := cell_of_one hb
  have hrow' := Lib.hid hrow
  have hf' := Lib.hid hf
  clear hrow hf hb
  go_wp2_with fail
  go_ret
  exact ⟨v, rfl, own_weak hrow'.out hA'.out.size, frc_below hA'.out hf'.out hA'.out.size (by omega)⟩
set_option maxHeartbeats 1000000 in
theorem union_any (sa sb : Value) (zs us : List Int) (w : World) (h : Rd w sa zs) (h' : Rd w sb us) (hva : validB zs = true) (hvb : validB us = true) (hl : zs.length + us.length ≤ 2000) :
    Calls Try.prog 34 #[sa, sb] w (OfPost w (chL (fun a b => a || b) (ofL zs) (ofL us))) := by
  have hc := Lib.hid (choose_45 sa sb zs us w h h' hva hvb hl)
  clear h h'
  go_enter Try.func34, Try.ntmps34
  go_wp2_with fail
  refine hc.out.mono ?_
  rintro e w3 ⟨v3, rfl, ho3, hb3⟩
  have ho3' := Lib.hid ho3
  clear ho3
  go_wp2_with fail
  go_ret
  exact ⟨_, rfl, ho3'.out, hb3⟩
end Go.Proofs.Ytjmmaaphadeokaa.Ids
