/- Three terms that came in by value. -/
import Derived.Test.YtmejiiebeknbjaaDoorO
namespace Go.Proofs.YtmejiiebeknbjaaDoor
open Go.ChangeShapes Go.WideShapes Go.ChangeAt Go.RowKit Go.Deep
set_option linter.unusedVariables false
set_option linter.unusedSimpArgs false
section
variable {H : Type} {enc : TypeId × Value → H} {w : World} {base : Nat}
theorem open_three {v : Value} {d : DataW H} {p : List MemPlace} {r : Reach} (hv : Value.okWide Tryd.prog w r base 38 v) (h : DataW.Trod enc Tryd.prog w 0 (fun _ => true) true 38 v d p) :
    ∃ (op1 wd1 : Int) (vl1 : Nat) (nm1 : ByteArray) (p1 : Option Addr) (c1 : Nat) (ts1 : List T) (op2 wd2 : Int) (vl2 : Nat) (nm2 : ByteArray) (p2 : Option Addr) (c2 : Nat) (ts2 : List T) (op3 wd3 : Int) (vl3 : Nat) (nm3 : ByteArray) (p3 : Option Addr) (c3 : Nat) (ts3 : List T),
      v = .agg #[.int .i64 op1, .int .i64 wd1, .int .u64 vl1, .string nm1, .slice p1 ts1.length c1, .int .i64 op2, .int .i64 wd2, .int .u64 vl2, .string nm2, .slice p2 ts2.length c2, .int .i64 op3, .int .i64 wd3, .int .u64 vl3, .string nm3, .slice p3 ts3.length c3] ∧ (Wf op1 wd1 vl1 nm1 ∧ Row w p1 c1 ts1) ∧ (Wf op2 wd2 vl2 nm2 ∧ Row w p2 c2 ts2) ∧ (Wf op3 wd3 vl3 nm3 ∧ Row w p3 c3 ts3) := by
  obtain ⟨cs, rfl, hsz⟩ := okWide_array Tryd.underlying38 hv
  obtain ⟨fuel, hf⟩ := h
  obtain ⟨xs, k, _, _, hlen, hxl, hi⟩ := DataW.trod_array (cs := cs.toList) Tryd.underlying38 hf
  rw [cells38] at hlen
  rw [cells34] at hi
  have get : ∀ i, i < 3 → ∃ y, DataW.trod enc Tryd.prog w 0 (fun _ => true) true k 34 ((cs.toList.drop (i * 5)).take 5) = some y := fun i h => ⟨_, (hi i h).trans (List.getElem?_eq_getElem (by omega))⟩
  obtain ⟨y0, g0⟩ := get 0 (by omega)
  obtain ⟨y1, g1⟩ := get 1 (by omega)
  obtain ⟨y2, g2⟩ := get 2 (by omega)
  obtain ⟨op1, wd1, vl1, nm1, p1, c1, ts1, e1, w1⟩ := term_cells k g0
  obtain ⟨op2, wd2, vl2, nm2, p2, c2, ts2, e2, w2⟩ := term_cells k g1
  obtain ⟨op3, wd3, vl3, nm3, p3, c3, ts3, e3, w3⟩ := term_cells k g2
  refine ⟨op1, wd1, vl1, nm1, p1, c1, ts1, op2, wd2, vl2, nm2, p2, c2, ts2, op3, wd3, vl3, nm3, p3, c3, ts3, ?_, w1, w2, w3⟩
  have hl : cs.toList = [.int .i64 op1, .int .i64 wd1, .int .u64 vl1, .string nm1, .slice p1 ts1.length c1] ++ ([.int .i64 op2, .int .i64 wd2, .int .u64 vl2, .string nm2, .slice p2 ts2.length c2] ++ [.int .i64 op3, .int .i64 wd3, .int .u64 vl3, .string nm3, .slice p3 ts3.length c3]) := by
    have a := List.take_append_drop 5 cs.toList
    have b := List.take_append_drop 5 (cs.toList.drop 5)
    rw [List.drop_drop] at b
    have t3 : (cs.toList.drop 10).take 5 = cs.toList.drop 10 := List.take_of_length_le (by rw [List.length_drop]; omega)
    simp only [Nat.zero_mul, List.drop_zero] at e1
    rw [← e1, ← e2, ← e3, t3]
    exact a.symm.trans (congrArg (fun l => cs.toList.take 5 ++ l) b.symm)
  rw [show cs = #[.int .i64 op1, .int .i64 wd1, .int .u64 vl1, .string nm1, .slice p1 ts1.length c1, .int .i64 op2, .int .i64 wd2, .int .u64 vl2, .string nm2, .slice p2 ts2.length c2, .int .i64 op3, .int .i64 wd3, .int .u64 vl3, .string nm3, .slice p3 ts3.length c3] from Array.toList_inj.1 (by rw [hl]; rfl)]
end
end Go.Proofs.YtmejiiebeknbjaaDoor
