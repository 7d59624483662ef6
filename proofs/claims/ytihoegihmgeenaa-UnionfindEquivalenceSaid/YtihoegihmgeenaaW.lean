/- The reference's Union that joins; lists of representatives and of members. -/
import Derived.Test.YtihoegihmgeenaaV
import Derived.Test.YtihoegihmgeenaaQ
import Derived.Deep.DeepMust
namespace Go.Proofs.Ytihoegihmgeenaa
open Go.RowKit
set_option linter.unusedVariables false
set_option linter.unusedSimpArgs false
theorem ret_vib {v : Value} {a a' : Int} {b : Bool} (h : a = a') : Ending.returned (.tuple #[v, .int .i64 a, .bool b]) = .returned (.tuple #[v, .int .i64 a', .bool b]) := by rw [h]
theorem rops_snoc (l : List ROp) (p : ROp) : rops (l ++ [p]) = rops l ++ [.bool p.1, .int .i64 p.2.1, .int .i64 p.2.2] := by simp [rops]
theorem rops_cell (l : List ROp) : ∀ u ∈ rops l, u.oneCell' = true := by
  intro u hu
  simp only [rops, List.mem_flatMap] at hu
  obtain ⟨p, _, hp⟩ := hu
  simp at hp
  rcases hp with rfl | rfl | rfl <;> rfl
set_option maxHeartbeats 2000000 in
theorem runion_join (B : Nat) (lv : Value) (l : List ROp) (h : List HOp) (x y : Nat) (w : World) (o : OL w B lv l h) (hs : h.length ≤ 1000) (hx : x < nE h) (hy : y < nE h) (he : lab h x ≠ lab h y) :
    Calls Try.prog 33 #[lv, .int .i64 x, .int .i64 y] w fun e w' => ∃ v, e = .returned (.tuple #[v, .int .i64 (min (lab h x) (lab h y) : Nat), .bool true]) ∧ w'.ownsRow w.heap.size 58 3 v (l.length + 1) (rops (l ++ [(false, (x : Int), (y : Int))])) ∧ Below w.heap.size w w' := by
  have f1 := Lib.hid (rfind_any B lv l h x w o hs)
  have f2 := Lib.hid (fun w' (hb : Below w.heap.size w w') => rfind_any B lv l h y w' (o.below hb) hs)
  rw [find_nat h x hx] at f1
  rw [find_nat h y hy] at f2
  have hl := M_len h l o.m
  have hn := nE_le h
  obtain ⟨g, c, rfl, _⟩ := World.ownsRow.form o.own (by omega)
  have hll : l.length ≤ 1000 := by omega
  have hl0 : 0 < l.length := by omega
  have HO := Lib.hid o
  obtain ⟨i58, hi58, hz58, hs58, hb58⟩ := info_parts info58
  generalize lab h x = n at f1 he ⊢
  generalize lab h y = m at f2 he ⊢
  have hd : decide ((n : Int) < 0) = false := by simp
  have hd' : decide ((m : Int) < 0) = false := by simp
  have hei : ((n : Int) == (m : Int)) = false := by rw [beq_eq_false_iff_ne]; omega
  clear o hl
  go_enter Try.func33, Try.ntmps33
  go_wp2_with fail
  refine f1.out.mono ?_; rintro e w1 ⟨rfl, hb1⟩
  have f3 := Lib.hid (f2.out w1 hb1)
  have Hb1 := Lib.hid hb1
  clear hb1
  go_wp2_with fail
  refine f3.out.mono ?_; rintro e w2 ⟨rfl, hb2⟩
  have hb2' := below_chain Hb1.out hb2
  have Ho2 := Lib.hid (HO.out.below hb2')
  have Hb2 := Lib.hid hb2'
  clear hb2 hb2' f3 f1 f2
  go_wp2_with (at_builtin; go_must (refine wpList_append_lies _ rfl (.tmp 30) (.tmp 31) 26 rfl w.heap.size 58 i58 (.agg #[.bool false, .int .i64 0, .int .i64 0]) 3 24 Try.underlying26 hi58 hz58 hs58 hb58 rfl (by decide) (.slice none 0 0) 0 [] rfl (World.ownsRow_nil _ _ _ _) ⟨g, 0, none⟩ l.length c (rops l) rfl (len_rops l) (World.ownsRow.cells Ho2.out.own rfl) (rops_cell l) hl0 (by unfold maxLen; omega) (by omega) Hb2.out.size w2.heap.size rfl ?_))
  intro g3 c3 w3 hown3 hgrow3 hat3 hlt3
  have hb3 := Hb2.out.grown hgrow3 Hb2.out.size (by intro j hj; cases hj)
  try simp only [Nat.zero_add, List.nil_append] at hown3
  have Ho3 := Lib.hid hown3
  have Hb3 := Lib.hid hb3
  have hs3' : w.heap.size ≤ w3.heap.size := hb3.size
  clear hown3 hgrow3 hat3 hlt3 hb3
  go_wp2_with (at_builtin; go_must (refine wpList_append_lies _ rfl (.tmp 33) (.tmp 37) 26 rfl w.heap.size 58 i58 (.agg #[.bool false, .int .i64 0, .int .i64 0]) 3 24 Try.underlying26 hi58 hz58 hs58 hb58 rfl (by decide) (.slice (some ⟨g3, 0, none⟩) l.length c3) l.length (rops l) rfl (Ho3.out.alloc _) ⟨w3.heap.size, 0, none⟩ 1 1 [.bool false, .int .i64 x, .int .i64 y] rfl rfl (lit_cells_at w3 #[.bool false, .int .i64 x, .int .i64 y] 58 _ rfl) (by simp [Value.oneCell']) (by decide) (by unfold maxLen; omega) (by omega) (by simp; omega) (w3.heap.size + 1) (by simp) ?_))
  intro g4 c4 w4 hown4 hgrow4 hat4 hlt4
  have hb4 := (Hb3.out.alloc hs3' (.cells #[.bool false, .int .i64 x, .int .i64 y] 58)).grown hgrow4 (by simp; omega) (fun j hj => (Ho3.out.lt j hj).1)
  have Ho4 := Lib.hid hown4
  have Hb4 := Lib.hid hb4
  clear hown4 hgrow4 hat4 hlt4 hb4
  by_cases hm : m < n
  · have em : ((m : Nat) : Int) = ((min n m : Nat) : Int) := by omega
    have Hem := Lib.hid em
    clear em
    go_wp2_with fail
    go_ret3
    exact ⟨_, ret_vib Hem.out, by rw [rops_snoc]; exact Ho4.out, Hb4.out⟩
  · have em : ((n : Nat) : Int) = ((min n m : Nat) : Int) := by omega
    have Hem := Lib.hid em
    clear em
    go_wp2_with fail
    go_ret3
    exact ⟨_, ret_vib Hem.out, by rw [rops_snoc]; exact Ho4.out, Hb4.out⟩
end Go.Proofs.Ytihoegihmgeenaa
