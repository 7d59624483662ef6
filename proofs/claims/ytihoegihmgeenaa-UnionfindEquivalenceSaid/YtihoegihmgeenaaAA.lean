/- The example of the document. -/
import Derived.Test.YtihoegihmgeenaaZ
import Derived.Test.YtihoegihmgeenaaL
namespace Go.Proofs.Ytihoegihmgeenaa
open Go.RowKit
set_option linter.unusedVariables false
set_option linter.unusedSimpArgs false
theorem U.step {w w' : World} {B b : Nat} {h : List HOp} {F F' : Nat → Prop} (u : U w B b h F) (s : Step w w' F F') : Below B w w' := s.below (fun k hk => (u.lt k hk).1) u.base
set_option maxHeartbeats 4000000 in
theorem lives_any (w : World) : Calls Try.prog 9 #[] w fun e w' => e = .returned (.bool true) ∧ Below w.heap.size w w' := by
  go_enter Try.func9, Try.ntmps9
  go_wp2_with fail
  refine (new_any w.heap.size w (Nat.le_refl _)).mono ?_
  rintro e w1 ⟨rfl, ⟨F, u⟩, hb⟩
  have Hu := Lib.hid u
  have Hb := Lib.hid hb
  clear u hb
  go_wp2_with fail
  refine (make_any w.heap.size w.heap.size [] F w1 Hu.out (by simp)).mono ?_
  rintro e w2 ⟨rfl, F2, u2, s2⟩
  have hb2 := Hb.out.trans (Hu.out.step s2)
  have Hu2 := Lib.hid u2
  have Hb2 := Lib.hid hb2
  clear u2 s2 hb2 Hu Hb
  go_wp2_with fail
  refine (make_any w.heap.size w.heap.size _ F2 w2 Hu2.out (by simp)).mono ?_
  rintro e w3 ⟨rfl, F3, u3, s3⟩
  have hb3 := Hb2.out.trans (Hu2.out.step s3)
  have Hu3 := Lib.hid u3
  have Hb3 := Lib.hid hb3
  clear u3 s3 hb3 Hu2 Hb2
  go_wp2_with fail
  refine (make_any w.heap.size w.heap.size _ F3 w3 Hu3.out (by simp)).mono ?_
  rintro e w4 ⟨rfl, F4, u4, s4⟩
  have hb4 := Hb3.out.trans (Hu3.out.step s4)
  have Hu4 := Lib.hid u4
  have Hb4 := Lib.hid hb4
  have hun := Lib.hid (union_joinA w.heap.size w.heap.size [none, none, none] F4 2 1 2 1 w4 u4 (by simp) (by decide) (by decide) (by decide) (by decide) (by decide) (by decide))
  clear u4 s4 hb4 Hu3 Hb3
  go_wp2_with fail
  refine hun.out.mono ?_
  rintro e w5 ⟨rfl, F5, u5, s5⟩
  have hb5 := Hb4.out.trans (Hu4.out.step s5)
  have Hu5 := Lib.hid u5
  have Hb5 := Lib.hid hb5
  have hfd := find_any w.heap.size w.heap.size [some (2, 1), none, none, none] F5 2 w5 u5 (by simp)
  rw [show findI [some (2, 1), none, none, none] 2 = 1 by decide] at hfd
  rw [show ((min ((lst [none, none, none]).getD 2 0) ((lst [none, none, none]).getD 1 0) : Nat) : Int) = 1 by decide]
  have Hfd := Lib.hid hfd
  clear u5 s5 hb5 Hu4 Hb4 hun hfd
  go_wp2_with fail
  refine Hfd.out.mono ?_
  rintro e w6 ⟨rfl, q6, rfl⟩
  have u6 := Hu5.out.drewN q6
  have hb6 := below_drawn Hb5.out q6
  generalize w5.drewN q6 = w6 at u6 hb6 ⊢
  have hud := Lib.hid (undo_yes w.heap.size w.heap.size [some (2, 1), none, none, none] F5 3 w6 u6 (by simp) (by simp))
  have Hu6 := Lib.hid u6
  have Hb6 := Lib.hid hb6
  clear u6 hb6 Hfd Hu5 Hb5
  go_wp2_with fail
  refine hud.out.mono ?_
  rintro e w7 ⟨rfl, F7, u7, s7⟩
  have hb7 := Hb6.out.trans (Hu6.out.step s7)
  have hfd := find_any w.heap.size w.heap.size [none, none, none] F7 2 w7 u7 (by simp)
  rw [show findI [none, none, none] 2 = 2 by decide] at hfd
  have Hfd := Lib.hid hfd
  have Hb7 := Lib.hid hb7
  clear u7 s7 hb7 hud hfd Hu6 Hb6
  go_wp2_with fail
  refine Hfd.out.mono ?_
  rintro e w8 ⟨rfl, q8, rfl⟩
  go_wp2_with fail
  go_ret
  exact ⟨rfl, below_drawn Hb7.out q8⟩
end Go.Proofs.Ytihoegihmgeenaa
