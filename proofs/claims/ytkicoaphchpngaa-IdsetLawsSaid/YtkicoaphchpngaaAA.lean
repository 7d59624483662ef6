/- Union and Add. -/
import Derived.Test.YtkicoaphchpngaaZZ
namespace Go.Proofs.Ytkicoaphchpngaa
open Go.RowKit Go.Lib Go.Sort
set_option linter.unusedVariables false
set_option linter.unusedSimpArgs false
theorem block_new (w : World) (o : Obj) : (w.alloc o).heap[w.heap.size]? = some o := by
  show (w.heap.push o)[w.heap.size]? = some o
  simp
theorem block_old {w : World} {k : Nat} (o : Obj) (hk : k < w.heap.size) : (w.alloc o).heap[k]? = w.heap[k]? := (below_alloc w o).block k hk
theorem frc_below {w w1 w2 : World} {B pc : Nat} (h : Below w.heap.size w w1) (hf : FrC B pc w1 w2) (hB : w.heap.size ≤ B) (hp : w.heap.size ≤ pc) : Below w.heap.size w w2 :=
  ⟨hf.os.trans h.os, hf.tape.trans h.tape, hf.output.trans h.output, Nat.le_trans h.size hf.size, fun k hk => (hf.block k (by omega) (by omega)).trans (h.block k hk)⟩
theorem rd_one (w : World) (x : Int) : Rd (w.alloc (.cells #[.int .i64 x] 3)) (.slice (some ⟨w.heap.size, 0, none⟩) 1 1) [x] := rd_lit w [x] 1 rfl (by omega)
theorem union_list (zs us : List Int) : chL (fun a b => a || b) (ofL zs) (ofL us) = ofL (zs ++ us) :=
  ss_ext _ _ (chL_ss _ _ _ (ss_ofL _) (ss_ofL _)) (ss_ofL _) (fun y => by rw [chL_mem _ rfl _ _ (ss_ofL _) (ss_ofL _)]; simp [mem_ofL])
set_option maxHeartbeats 2000000 in
theorem choose_45 (sa sb : Value) (zs us : List Int) (w : World) (h : Rd w sa zs) (h' : Rd w sb us) (hl : zs.length + us.length ≤ 2000) :
    Calls Try.prog 44 #[sa, sb, .func (.func 45) #[] #[]] w (OfPost w (chL (fun a b => a || b) (ofL zs) (ofL us))) := by
  have hmf : ∀ (fn : Fn) (first cap : Array Value) (w : World), (Instr.makeFunc fn first cap).run Try.prog w = .ok (.func fn first cap) w := fun _ _ _ _ => rfl
  have hA : Below w.heap.size w ((w.alloc (.cells #[.func (.func 45) #[] #[]] 47)).alloc (.cells #[.slice none 0 0] 22)) := ((Below.refl _ _).alloc (Nat.le_refl _) _).alloc (below_alloc _ _).size _
  have s1 : (w.alloc (.cells #[.func (.func 45) #[] #[]] 47)).heap.size = w.heap.size + 1 := by show (w.heap.push _).size = _; simp
  have hme := Lib.hid (merge_45 (w.heap.size + 1) w.heap.size sa sb zs us ((w.alloc (.cells #[.func (.func 45) #[] #[]] 47)).alloc (.cells #[.slice none 0 0] 22)) (h.below hA) (h'.below hA) hl
    (by rw [← s1]; exact block_new _ _) (by rw [block_old _ (by rw [s1]; omega)]; exact block_new _ _))
  have hA' := Lib.hid hA
  clear h h' hA s1
  go_enter Try.func44, Try.ntmps44
  go_wp2_with fail
  refine hme.out.mono ?_
  rintro e w3 ⟨rfl, v, hb, hrow, hf⟩
  have c1 := cell_of_one hb
  have hrow' := Lib.hid hrow
  have hf' := Lib.hid hf
  clear hrow hf hb
  go_wp2_with fail
  go_ret
  exact ⟨v, rfl, own_weak hrow'.out hA'.out.size, frc_below hA'.out hf'.out hA'.out.size (by omega)⟩
set_option maxHeartbeats 1000000 in
theorem union_any (sa sb : Value) (zs us : List Int) (w : World) (h : Rd w sa zs) (h' : Rd w sb us) (hl : zs.length + us.length ≤ 2000) :
    Calls Try.prog 24 #[sa, sb] w (OfPost w (chL (fun a b => a || b) (ofL zs) (ofL us))) := by
  have hc := Lib.hid (choose_45 sa sb zs us w h h' hl)
  clear h h'
  go_enter Try.func24, Try.ntmps24
  go_wp2_with fail
  refine hc.out.mono ?_
  rintro e w3 ⟨v3, rfl, ho3, hb3⟩
  have ho3' := Lib.hid ho3
  clear ho3
  go_wp2_with fail
  go_ret
  exact ⟨_, rfl, ho3'.out, hb3⟩
set_option maxHeartbeats 1000000 in
theorem add_any (sa : Value) (x : Int) (zs : List Int) (w : World) (h : Rd w sa zs) (hl : zs.length ≤ 1900) :
    Calls Try.prog 20 #[sa, .int .i64 x] w (OfPost w (ofL (zs ++ [x]))) := by
  have hc := Lib.hid (union_any sa (.slice (some ⟨w.heap.size, 0, none⟩) 1 1) zs [x] (w.alloc (.cells #[.int .i64 x] 3)) (h.below (below_alloc _ _)) (rd_one w x) (by simp; omega))
  clear h
  go_enter Try.func20, Try.ntmps20
  go_wp2_with fail
  refine hc.out.mono ?_
  rintro e w3 ⟨v3, rfl, ho3, hb3⟩
  have ho3' := Lib.hid ho3
  clear ho3
  go_wp2_with fail
  go_ret
  have e1 : chL (fun a b => a || b) (ofL zs) (ofL [x]) = ofL (zs ++ [x]) := union_list zs [x]
  rw [← e1]
  exact OfPost.up (below_alloc _ _) ⟨_, rfl, ho3'.out, hb3⟩
end Go.Proofs.Ytkicoaphchpngaa
