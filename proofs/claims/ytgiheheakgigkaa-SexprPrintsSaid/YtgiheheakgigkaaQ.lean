/- secondOffset. -/
import Derived.Test.YtgiheheakgigkaaO
import Derived.Test.YtgiheheakgigkaaF
namespace Go.Proofs.Ytgiheheakgigkaa
open Go.RowKit
set_option linter.unusedVariables false
set_option linter.unusedSimpArgs false
def pc0 (s : ByteArray) : Obj := .cells #[.string s, .int .i64 0] 51
theorem pb_new (w : World) (s : ByteArray) : PB (w.alloc (pc0 s)) w.heap.size s 0 := heap_alloc_new w _
theorem step_new {w w1 w' : World} {o : Obj} (h : Step (w.alloc o) w' (oneF w.heap.size) (oneF w.heap.size)) : BK w w' :=
  Step.bk_new (bk_alloc (BK.refl w) o) h (fun k hk => by unfold oneF at hk; omega)
set_option maxRecDepth 100000 in
set_option maxHeartbeats 4000000 in
theorem second31 (s : ByteArray) (hs : s.size ≤ 65536) (w : World) (e0 : T) (j : Nat) (hlt : sk (xo s) false 0 < s.size) (hex : exR (xo s) 64 (sk (xo s) false 0) = .ok e0 j) : Calls Try.prog 31 #[.string s] w fun e w' => e = .returned (.int .i64 ((sk (xo s) false j : Nat) : Int)) ∧ BK w w' := by
  have GT := Lib.hid (exR_gt 64 _ _ _ hlt hex)
  have P0 := Lib.hid (pb_new w s)
  have SK := Lib.hid (fun w' pb i (h : PB w' pb s i) hi => skip35 w' pb s i h (by omega) hi)
  have EX := Lib.hid (fun w' pb i hi (h : PB w' pb s i) => expr36 s (by omega) pb 64 1 rfl w' i hi h)
  unfold pc0 at P0
  have HLT := Lib.hid hlt
  have HEX := Lib.hid hex
  have C1 := Lib.hid (SK.out _ _ _ P0.out (by omega))
  unfold SKP at C1
  clear hlt hex
  go_enter Try.func31, Try.ntmps31
  go_wp2_with fail
  refine C1.out.mono ?_
  rintro e w1 ⟨rfl, hp1, hs1⟩
  have C2 := Lib.hid (EX.out _ _ _ HLT.out hp1)
  rw [HEX.out] at C2
  unfold EXP at C2
  dsimp only at C2
  have S1 := Lib.hid hs1
  clear hp1 hs1
  go_wp2_with fail
  refine C2.out.mono ?_
  rintro e w2 ⟨⟨p2, c2, rfl, hr2⟩, hp2, hs2⟩
  have C3 := Lib.hid (SK.out _ _ _ hp2 (by have := GT.out.2; rw [xo_n] at this; exact this))
  unfold SKP at C3
  have S2 := Lib.hid (S1.out.trans hs2)
  clear hp2 hs2 hr2
  go_wp2_with fail
  refine C3.out.mono ?_
  rintro e w3 ⟨rfl, hp3, hs3⟩
  have S3 := Lib.hid (S2.out.trans hs3)
  have c1 := hp3.c1
  clear hp3 hs3
  go_wp2_with fail
  go_ret
  exact ⟨rfl, step_new (w1 := w) S3.out⟩
end Go.Proofs.Ytgiheheakgigkaa
