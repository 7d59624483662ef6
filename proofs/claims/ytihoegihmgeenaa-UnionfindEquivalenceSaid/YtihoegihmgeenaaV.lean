/- The reference's Find and Union. -/
import Derived.Test.YtihoegihmgeenaaT
import Derived.Test.YtihoegihmgeenaaG
namespace Go.Proofs.Ytihoegihmgeenaa
open Go.RowKit
set_option linter.unusedVariables false
set_option linter.unusedSimpArgs false
theorem info58 : (Try.prog.info? 58).map (fun i => (i.zero, i.size, i.bytes)) = some (some (.agg #[.bool false, .int .i64 0, .int .i64 0]), 3, 24) := by kernel_rfl
/-- lv holds the operations l of the history h -/
structure OL (w : World) (B : Nat) (lv : Value) (l : List ROp) (h : List HOp) : Prop where
  own : w.ownsRow B 58 3 lv l.length (rops l)
  m : M l h
  ok : ok h
theorem OL.below {w w' : World} {B : Nat} {lv : Value} {l : List ROp} {h : List HOp} (o : OL w B lv l h) (hb : Below w.heap.size w w') : OL w' B lv l h :=
  ⟨own_at o.own fun k hk => hb.block k (o.own.lt k hk).2, o.m, o.ok⟩
theorem OL.labels {w : World} {B : Nat} {lv : Value} {l : List ROp} {h : List HOp} (o : OL w B lv l h) (hs : h.length ≤ 1000) : Calls Try.prog 22 #[lv] w (LPost w (labs h)) := labels_any B lv l h w o.own o.m o.ok hs
set_option maxHeartbeats 1000000 in
theorem rfind_any (B : Nat) (lv : Value) (l : List ROp) (h : List HOp) (x : Int) (w : World) (o : OL w B lv l h) (hs : h.length ≤ 1000) :
    Calls Try.prog 34 #[lv, .int .i64 x] w fun e w' => e = .returned (.int .i64 (findI h x)) ∧ Below w.heap.size w w' := by
  have hlab := Lib.hid (o.labels hs)
  have hn := nE_le h
  by_cases hx : 0 ≤ x
  · obtain ⟨y, rfl⟩ := Int.eq_ofNat_of_zero_le hx
    have hd : decide ((y : Int) < 0) = false := by simp
    by_cases hy : y < nE h
    · have hf : findI h y = (lab h y : Nat) := by unfold findI; rw [if_pos ⟨hx, by omega⟩]; rfl
      have Hf := Lib.hid hf
      have hlen := len_labs h
      have hat := labs_at h y hy
      clear hf hx
      go_enter Try.func34, Try.ntmps34
      go_wp2_with fail
      refine hlab.out.mono ?_
      rintro e w1 ⟨v, rfl, ov, hb⟩
      rw [hlen] at ov
      obtain ⟨g, c, rfl, _⟩ := World.ownsRow.form ov (by omega)
      have cy := int_cell ov y hy
      rw [hat] at cy
      have Hb := Lib.hid hb
      have hyi : (y : Int) < (nE h : Int) := by omega
      have hd2 : decide (nE h ≤ y) = false := by simp; omega
      clear ov hb hlen hat
      go_wp2_with fail
      go_ret
      exact ⟨ret_int Hf.out.symm, Hb.out⟩
    · have hf : findI h y = -1 := by unfold findI; rw [if_neg (by omega)]
      have Hf := Lib.hid hf
      have hlen := len_labs h
      clear hf hx
      go_enter Try.func34, Try.ntmps34
      go_wp2_with fail
      refine hlab.out.mono ?_
      rintro e w1 ⟨v, rfl, ov, hb⟩
      rw [hlen] at ov
      obtain ⟨p, c, rfl⟩ := own_shape ov
      have Hb := Lib.hid hb
      have hd2 : decide (nE h ≤ y) = true := by simp; omega
      clear ov hb hlen
      go_wp2_with fail
      go_ret
      exact ⟨ret_int Hf.out.symm, Hb.out⟩
  · have hd : decide (x < 0) = true := by simp; omega
    have hf : findI h x = -1 := by unfold findI; rw [if_neg (by omega)]
    have Hf := Lib.hid hf
    have hx' : x < 0 := by omega
    clear hf hx
    go_enter Try.func34, Try.ntmps34
    go_wp2_with fail
    refine hlab.out.mono ?_
    rintro e w1 ⟨v, rfl, ov, hb⟩
    obtain ⟨p, c, rfl⟩ := own_shape ov
    have Hb := Lib.hid hb
    clear ov hb
    go_wp2_with fail
    go_ret
    exact ⟨ret_int Hf.out.symm, Hb.out⟩
theorem below_chain {a b c : World} (h : Below a.heap.size a b) (k : Below b.heap.size b c) : Below a.heap.size a c := h.trans (k.mono h.size)
set_option maxHeartbeats 1000000 in
theorem runion_none (B : Nat) (lv : Value) (l : List ROp) (h : List HOp) (x y : Int) (w : World) (o : OL w B lv l h) (hs : h.length ≤ 1000) (hn : (hasB h x && hasB h y) = false) :
    Calls Try.prog 33 #[lv, .int .i64 x, .int .i64 y] w fun e w' => e = .returned (.tuple #[lv, .int .i64 (-1), .bool false]) ∧ Below w.heap.size w w' := by
  have f1 := Lib.hid (rfind_any B lv l h x w o hs)
  have f2 := Lib.hid (fun w' (hb : Below w.heap.size w w') => rfind_any B lv l h y w' (o.below hb) hs)
  have e1 : hasB h x = false → findI h x = -1 := fun hx => by unfold findI; rw [if_neg]; simp [hasB] at hx; omega
  have e2 : hasB h y = false → findI h y = -1 := fun hx => by unfold findI; rw [if_neg]; simp [hasB] at hx; omega
  have e3 : hasB h x = true → ∃ n : Nat, findI h x = n := fun hx => by unfold findI; rw [if_pos (by simpa [hasB] using hx)]; exact ⟨_, rfl⟩
  obtain ⟨p, c, rfl⟩ := own_shape o.own
  cases hx : hasB h x with
  | false =>
    have hf := e1 hx
    rw [hf] at f1
    clear hn hx e1 e2 e3 hf
    generalize findI h y = z at f2
    go_enter Try.func33, Try.ntmps33
    go_wp2_with fail
    refine f1.out.mono ?_; rintro e w1 ⟨rfl, hb1⟩
    have f3 := Lib.hid (f2.out w1 hb1)
    have Hb1 := Lib.hid hb1
    clear hb1
    go_wp2_with fail
    refine f3.out.mono ?_; rintro e w2 ⟨rfl, hb2⟩
    have Hb2 := Lib.hid hb2
    clear hb2
    go_wp2_with fail
    go_ret3
    exact ⟨rfl, below_chain Hb1.out Hb2.out⟩
  | true =>
    have hy : hasB h y = false := by rw [hx] at hn; simpa using hn
    obtain ⟨n, hf⟩ := e3 hx
    have hf2 := e2 hy
    rw [hf] at f1
    rw [hf2] at f2
    have hd : decide ((n : Int) < 0) = false := by simp
    clear hn hx hy e1 e2 e3 hf hf2
    go_enter Try.func33, Try.ntmps33
    go_wp2_with fail
    refine f1.out.mono ?_; rintro e w1 ⟨rfl, hb1⟩
    have f3 := Lib.hid (f2.out w1 hb1)
    have Hb1 := Lib.hid hb1
    clear hb1
    go_wp2_with fail
    refine f3.out.mono ?_; rintro e w2 ⟨rfl, hb2⟩
    have Hb2 := Lib.hid hb2
    clear hb2
    go_wp2_with fail
    go_ret3
    exact ⟨rfl, below_chain Hb1.out Hb2.out⟩
theorem find_nat (h : List HOp) (x : Nat) (hx : x < nE h) : findI h x = (lab h x : Nat) := by unfold findI; rw [if_pos ⟨by omega, by omega⟩]; rfl
set_option maxHeartbeats 1000000 in
theorem runion_same (B : Nat) (lv : Value) (l : List ROp) (h : List HOp) (x y : Nat) (w : World) (o : OL w B lv l h) (hs : h.length ≤ 1000) (hx : x < nE h) (hy : y < nE h) (he : lab h x = lab h y) :
    Calls Try.prog 33 #[lv, .int .i64 x, .int .i64 y] w fun e w' => e = .returned (.tuple #[lv, .int .i64 (lab h x : Nat), .bool false]) ∧ Below w.heap.size w w' := by
  have f1 := Lib.hid (rfind_any B lv l h x w o hs)
  have f2 := Lib.hid (fun w' (hb : Below w.heap.size w w') => rfind_any B lv l h y w' (o.below hb) hs)
  rw [find_nat h x hx] at f1
  rw [find_nat h y hy, ← he] at f2
  obtain ⟨p, c, rfl⟩ := own_shape o.own
  generalize lab h x = n at f1 f2 ⊢
  have hd : decide ((n : Int) < 0) = false := by simp
  clear he
  go_enter Try.func33, Try.ntmps33
  go_wp2_with fail
  refine f1.out.mono ?_; rintro e w1 ⟨rfl, hb1⟩
  have f3 := Lib.hid (f2.out w1 hb1)
  have Hb1 := Lib.hid hb1
  clear hb1
  go_wp2_with fail
  refine f3.out.mono ?_; rintro e w2 ⟨rfl, hb2⟩
  have Hb2 := Lib.hid hb2
  clear hb2
  go_wp2_with fail
  go_ret3
  exact ⟨rfl, below_chain Hb1.out Hb2.out⟩
end Go.Proofs.Ytihoegihmgeenaa
