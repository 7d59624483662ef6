/- The program's Join. -/
import Derived.Test.YtnlpiaejfmdckaaDoorSR
namespace Go.Proofs.YtnlpiaejfmdckaaDoor
open Go.RowKit
set_option linter.unusedVariables false
set_option linter.unusedSimpArgs false
set_option maxRecDepth 100000 in
set_option maxHeartbeats 8000000 in
theorem join29 (ss tt : List S) (hl : ss.length ≤ 100000) (hl2 : tt.length ≤ 100000) (hok : ∀ s ∈ ss, okQ s ∧ ∀ r ∈ s.rf, inR r 0) (hok2 : ∀ s ∈ tt, okQ s) (w : World) (p q : Option Addr) (c d : Nat) (hp : RowS (mem 0 w) w p c ss) (hq : RowS (mem 0 w) w q d tt) : Calls Tryd.prog 29 #[.slice p ss.length c, .slice q tt.length d] w (SL w (ss ++ tt.map (shW (ss.length : Int)))) := by
  have C45 := Lib.hid (copyall45w ss hl hok w p c hp)
  have C49 := Lib.hid (fun wc (hb : BK w wc) => shifted49w tt (ss.length : Int) hl2 hok2 wc q d (hq.bk hb (Nat.le_refl _)))
  have HL := Lib.hid (And.intro hl hl2)
  have TL := Lib.hid (show (tt.map (shW (ss.length : Int))).length ≤ 100000 from by rw [List.length_map]; exact hl2)
  unfold SLG at C45 C49
  unfold SL
  rw [List.length_append]
  clear hp hq hok hok2 hl hl2
  generalize tt.map (shW (ss.length : Int)) = ts at *
  go_enter Tryd.func29, Tryd.ntmps29
  go_wp2_with fail
  refine C45.out.mono ?_
  rintro e w2 ⟨⟨q1, d1, rfl, hg1, -⟩, hb2⟩
  have G1 := Lib.hid hg1
  have K2 := Lib.hid hb2
  clear hg1 hb2 C45
  go_wp2_with fail
  refine (C49.out _ K2.out).mono ?_
  rintro e w3 ⟨⟨q2, d2, rfl, hg2, hz2⟩, hb3⟩
  have G2 := Lib.hid hg2
  have K3 := Lib.hid hb3
  have Z2 := Lib.hid hz2
  clear hg2 hb3 hz2 C49
  have G1' := Lib.hid (G1.out.bk (PS.mono ss) K3.out)
  have S2 := Lib.hid (bk_size K2.out)
  have S3 := Lib.hid (bk_size K3.out)
  have GLT := Lib.hid G1.out.lt
  have RW := Lib.hid (show RowS (memO w.heap.size w3 (.slice q1 ss.length d1)) w3 q2 d2 ts from (gl_rowS G2.out).keep (fun i hi => ⟨rfl, by have := hi.1; have := S2.out; omega, hi.2, fun e => by have := (GLT.out i e).2; have := hi.1; omega⟩))
  have HLO := Lib.hid (show w.heap.size ≤ w3.heap.size from Nat.le_trans S2.out S3.out)
  go_wp2_with (at_builtin; go_must (refine wpList_plain rfl (fun K9 hK9 => gl_app _ _ rfl w.heap.size (.slice q1 ss.length d1) ss ts rfl G1'.out q2 d2 rfl RW.out HLO.out (fun h => .inl (Z2.out h).1) HL.out.1 TL.out (fun q9 d9 w9 hg9 hs9 => hK9 _ _ ?_))))
  have G9 := Lib.hid hg9
  have K9' := Lib.hid (show BK w w9 from Step.bk_new (bk_tr K2.out K3.out) hs9 (fun i hi => (GLT.out i hi).1))
  clear hg9 hs9
  go_wp2_with fail
  go_ret
  exact ⟨⟨q9, d9, rfl, gl_rowS (by rw [List.length_append]; exact G9.out)⟩, K9'.out⟩
end Go.Proofs.YtnlpiaejfmdckaaDoor
