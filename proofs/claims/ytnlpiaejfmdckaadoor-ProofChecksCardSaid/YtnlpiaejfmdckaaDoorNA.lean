/- The chapter's example, walked. -/
import Derived.Test.YtnlpiaejfmdckaaDoorN
namespace Go.Proofs.YtnlpiaejfmdckaaDoor
open Go.RowKit
set_option linter.unusedVariables false
set_option linter.unusedSimpArgs false
theorem sub3 : ∀ s ∈ [sA, sB, sC], okQ s ∧ ∀ r ∈ s.rf, inR r 0 := fun s hs => okAll s (by simp at hs ⊢; rcases hs with h | h | h <;> simp [h])
theorem sub2 : ∀ s ∈ [sA, sD], okQ s ∧ ∀ r ∈ s.rf, inR r 0 := fun s hs => okAll s (by simp at hs ⊢; rcases hs with h | h <;> simp [h])
theorem two_row (w : World) (a b : Int) : RowI (mem 0 (w.alloc (.cells #[.int .i64 a, .int .i64 b] 3))) (w.alloc (.cells #[.int .i64 a, .int .i64 b] 3)) (some ⟨w.heap.size, 0, none⟩) 2 [a, b] :=
  .inr ⟨_, 0, rfl, ⟨Nat.zero_le _, by rw [sz1]; omega⟩, fun k hk => by
    rw [Nat.zero_add]
    match k, hk with
    | 0, _ => exact cell_of_row _ w.heap.size 0 _ 3 (0, 0) (heap_alloc_new w _)
    | 1, _ => exact cell_of_row _ w.heap.size 1 _ 3 (0, 0) (heap_alloc_new w _), Nat.le_refl _⟩
set_option maxRecDepth 100000 in
set_option maxHeartbeats 8000000 in
theorem lives12 (w : World) (ht : Tb w) : Calls Tryd.prog 12 #[] w fun e w' => e = .returned (.bool true) ∧ BK w w' := by
  have HT := Lib.hid ht
  have V32 := Lib.hid (fun w => var32 w)
  have CK3 := Lib.hid (fun wc p c (h1 : Tb wc) h2 => show Calls Tryd.prog 14 #[.slice p 3 c] wc (fun e w' => e = .returned (.tuple #[.int .i64 0, .int .i64 0]) ∧ BK wc w') from by
    have := check14 [sA, sB, sC] (fun s hs => okQ_S (sub3 s hs).1) wc p c h1 h2; rw [k1] at this; exact this)
  have CK2 := Lib.hid (fun wc p c (h1 : Tb wc) h2 => show Calls Tryd.prog 14 #[.slice p 2 c] wc (fun e w' => e = .returned (.tuple #[.int .i64 1, .int .i64 14]) ∧ BK wc w') from by
    have := check14 [sA, sD] (fun s hs => okQ_S (sub2 s hs).1) wc p c h1 h2; rw [k2] at this; exact this)
  have CK0 := Lib.hid (fun wc (h1 : Tb wc) => show Calls Tryd.prog 14 #[.slice none 0 0] wc (fun e w' => e = .returned (.tuple #[.int .i64 0, .int .i64 8]) ∧ BK wc w') from by
    have := check14 [] (fun s hs => by cases hs) wc none 0 h1 (.inl ⟨rfl, fun _ => rfl⟩); rw [k3] at this; exact this)
  have TR := Lib.hid (fun wc p c (h1 : Tb wc) h2 => show Calls Tryd.prog 27 #[.slice p 3 c] wc (fun e w' => (∃ q d, e = .returned (.slice q 2 d) ∧ RowS (mem wc.heap.size w') w' q d [sA, sC]) ∧ BK wc w') from by
    have := trim27 [sA, sB, sC] (by decide) sub3 wc p c h1 h2; unfold SL at this; rw [k5] at this; exact this)
  have ND := Lib.hid (fun wc p c (h1 : Tb wc) h2 => show Calls Tryd.prog 25 #[.slice p 3 c] wc (fun e w' => (∃ q d, e = .returned (.slice q 2 d) ∧ RowI (mem wc.heap.size w') w' q d [0, 2]) ∧ BK wc w') from by
    have := needed25 [sA, sB, sC] (fun s hs => okQ_S (sub3 s hs).1) wc p c h1 h2; rw [k4] at this; exact this)
  have DE := Lib.hid (fun wc p c (h1 : Tb wc) h2 => show Calls Tryd.prog 21 #[.slice p 3 c] wc (fun e w' => e = .returned (.int .i64 2) ∧ BK wc w') from by
    have := depth21 [sA, sB, sC] (fun s hs => okQ_S (sub3 s hs).1) wc p c h1 h2; rw [k6] at this; exact this)
  have KI := Lib.hid (fun wc (h1 : Tb wc) => show Calls Tryd.prog 10 #[.int .i64 9] wc (fun e w' => e = .returned (.string ⟨#[109, 101, 101, 116]⟩) ∧ BK wc w') from by
    have := kind10 9 wc h1; rw [k7] at this; exact this)
  have SM := Lib.hid (fun wc p c q d h1 h2 => show Calls Tryd.prog 18 #[.slice p 2 c, .slice q 2 d] wc (fun e w' => e = .returned (.bool true) ∧ BK wc w') from by
    have := same18 [0, 2] [0, 2] (by decide) wc p q c d h1 h2; rw [eqI_self] at this; exact this)
  have SM1 := Lib.hid (fun wc p c q d h1 h2 => show Calls Tryd.prog 18 #[.slice p 1 c, .slice q 1 d] wc (fun e w' => e = .returned (.bool true) ∧ BK wc w') from by
    have := same18 [0] [0] (by decide) wc p q c d h1 h2; rw [eqI_self] at this; exact this)
  clear ht
  go_enter Tryd.func12, Tryd.ntmps12
  go_wp2_with fail
  refine (V32.out _).mono ?_
  rintro e w1 ⟨rfl, hb1⟩
  have K1 := Lib.hid hb1
  have R3 := Lib.hid (rows3 w1 0 rfl)
  have K3 := Lib.hid (bk_tr (bk_alloc (BK.refl w1) (.cells #[.int .i64 0] 3)) (bk_alloc (BK.refl (w1.alloc (.cells #[.int .i64 0] 3))) (.cells (a3 w1.heap.size) 44)))
  clear hb1
  unfold a3 at R3 K3
  go_wp2_with fail
  generalize (w1.alloc (.cells #[.int .i64 0] 3)).alloc (.cells #[.int .i64 1, .slice none 0 0, .int .i64 0, .slice none 0 0, .int .i64 0, .int .i64 0, .int .u64 0, .string ⟨#[]⟩, .slice none 0 0, .int .i64 0, .int .i64 0, .int .u64 0, .string ⟨#[]⟩, .slice none 0 0, .int .i64 1, .slice none 0 0, .int .i64 0, .slice none 0 0, .int .i64 1, .int .i64 8, .int .u64 0, .string ⟨#[120]⟩, .slice none 0 0, .int .i64 0, .int .i64 0, .int .u64 0, .string ⟨#[]⟩, .slice none 0 0, .int .i64 2, .slice (some ⟨w1.heap.size, 0, none⟩) 1 1, .int .i64 0, .slice none 0 0, .int .i64 0, .int .i64 0, .int .u64 0, .string ⟨#[]⟩, .slice none 0 0, .int .i64 0, .int .i64 0, .int .u64 0, .string ⟨#[]⟩, .slice none 0 0] 44) = w2 at *
  generalize hg : w1.heap.size + 1 = g at *
  have K12 := Lib.hid (bk_tr K1.out K3.out)
  have D1 := Lib.hid (CK3.out w2 _ 3 (HT.out.bk K12.out) R3.out)
  refine D1.out.mono ?_
  rintro e w3 ⟨rfl, hb3⟩
  have K13 := Lib.hid (bk_tr K12.out hb3)
  have P3 := Lib.hid (R3.out.bk hb3 (Nat.le_refl _))
  have Q2 := Lib.hid (rows2 w3)
  have KQ := Lib.hid (bk_tr (bk_alloc (BK.refl w3) (.cells #[.int .i64 1] 3)) (bk_alloc (BK.refl (w3.alloc (.cells #[.int .i64 1] 3))) (.cells (a2 w3.heap.size) 44)))
  clear hb3 D1 R3 K3
  unfold a2 at Q2 KQ
  go_wp2_with fail
  generalize (w3.alloc (.cells #[.int .i64 1] 3)).alloc (.cells #[.int .i64 1, .slice none 0 0, .int .i64 0, .slice none 0 0, .int .i64 0, .int .i64 0, .int .u64 0, .string ⟨#[]⟩, .slice none 0 0, .int .i64 0, .int .i64 0, .int .u64 0, .string ⟨#[]⟩, .slice none 0 0, .int .i64 2, .slice (some ⟨w3.heap.size, 0, none⟩) 1 1, .int .i64 0, .slice none 0 0, .int .i64 0, .int .i64 0, .int .u64 0, .string ⟨#[]⟩, .slice none 0 0, .int .i64 0, .int .i64 0, .int .u64 0, .string ⟨#[]⟩, .slice none 0 0] 44) = w4 at *
  generalize hg4 : w3.heap.size + 1 = g4 at *
  have K14 := Lib.hid (bk_tr K13.out KQ.out)
  have P4 := Lib.hid (P3.out.bk KQ.out (Nat.le_refl _))
  have D2 := Lib.hid (CK2.out w4 _ 2 (HT.out.bk K14.out) Q2.out)
  refine D2.out.mono ?_
  rintro e w5 ⟨rfl, hb5⟩
  have K15 := Lib.hid (bk_tr K14.out hb5)
  have P5 := Lib.hid (P4.out.bk hb5 (Nat.le_refl _))
  clear hb5 D2 P4 P3 Q2 KQ
  go_wp2_with fail
  have D3 := Lib.hid (CK0.out w5 (HT.out.bk K15.out))
  refine D3.out.mono ?_
  rintro e w6 ⟨rfl, hb6⟩
  have K16 := Lib.hid (bk_tr K15.out hb6)
  have P6 := Lib.hid (P5.out.bk hb6 (Nat.le_refl _))
  clear hb6 D3 P5
  go_wp2_with fail
  have D4 := Lib.hid (TR.out w6 _ 3 (HT.out.bk K16.out) P6.out)
  refine D4.out.mono ?_
  rintro e w7 ⟨⟨qT, dT, rfl, hrT⟩, hb7⟩
  have K17 := Lib.hid (bk_tr K16.out hb7)
  have P7 := Lib.hid (P6.out.bk hb7 (Nat.le_refl _))
  have T7 := Lib.hid (hrT.bk (BK.refl _) (Nat.zero_le _))
  clear hb7 hrT D4 P6
  go_wp2_with fail
  have D5 := Lib.hid (ND.out w7 _ 3 (HT.out.bk K17.out) P7.out)
  refine D5.out.mono ?_
  rintro e w8 ⟨⟨qN, dN, rfl, hrN⟩, hb8⟩
  have K18 := Lib.hid (bk_tr K17.out hb8)
  have P8 := Lib.hid (P7.out.bk hb8 (Nat.le_refl _))
  have T8 := Lib.hid (T7.out.bk hb8 (Nat.le_refl _))
  have KT := Lib.hid (bk_alloc (BK.refl w8) (.cells #[.int .i64 0, .int .i64 2] 3))
  have N8 := Lib.hid ((hrN.bk (BK.refl _) (Nat.zero_le 0 |> fun _ => Nat.zero_le _)).bk KT.out (Nat.le_refl _))
  have M8 := Lib.hid (two_row w8 0 2)
  clear hb8 hrN D5 P7 T7
  go_wp2_with fail
  generalize w8.alloc (.cells #[.int .i64 0, .int .i64 2] 3) = w9 at *
  generalize hg9 : w8.heap.size = g9 at *
  have D6 := Lib.hid (SM.out w9 qN dN (some ⟨g9, 0, none⟩) 2 N8.out M8.out)
  refine D6.out.mono ?_
  rintro e w10 ⟨rfl, hb10⟩
  have K110 := Lib.hid (bk_tr K18.out (bk_tr KT.out hb10))
  have P10 := Lib.hid (P8.out.bk (bk_tr KT.out hb10) (Nat.le_refl _))
  have T10 := Lib.hid (T8.out.bk (bk_tr KT.out hb10) (Nat.le_refl _))
  clear hb10 D6 P8 T8 N8 M8
  obtain ⟨b, o, qa, rfl, -, hca, -⟩ := T10.out.get (k := 0) (by simp)
  obtain ⟨b', o', qb, hbo, -, hcb, hpb⟩ := T10.out.get (k := 1) (by simp)
  obtain ⟨rfl, rfl⟩ : b = b' ∧ o = o' := by injection hbo with h; injection h with h1 h2; exact ⟨h1, h2⟩
  obtain ⟨x0, -⟩ := hca.all
  obtain ⟨y0, y1, -⟩ := hcb.all
  have x0' : w10.cell? ⟨b, o, none⟩ = some (.int .i64 1) := by simpa [sA] using x0
  have y0' : w10.cell? ⟨b, o + 14, none⟩ = some (.int .i64 2) := by simpa [sC] using y0
  have y1' : w10.cell? ⟨b, o + 14 + 1, none⟩ = some (.slice qb.p1 1 qb.c1) := by simpa [sC] using y1
  have RB := Lib.hid (show RowI (mem 0 w10) w10 qb.p1 qb.c1 [0] from by have := hpb.rf; simpa [sC] using this)
  have KU := Lib.hid (bk_alloc (BK.refl w10) (.cells #[.int .i64 0] 3))
  have RB2 := Lib.hid (RB.out.bk KU.out (Nat.le_refl _))
  have RU := Lib.hid (one_row w10 0)
  clear x0 y0 y1 hca hcb hpb hbo
  go_wp2_with fail
  generalize w10.alloc (.cells #[.int .i64 0] 3) = w11 at *
  generalize hg10 : w10.heap.size = g10 at *
  have D7 := Lib.hid (SM1.out w11 qb.p1 qb.c1 (some ⟨g10, 0, none⟩) 1 RB2.out RU.out)
  refine D7.out.mono ?_
  rintro e w12 ⟨rfl, hb12⟩
  have K112 := Lib.hid (bk_tr K110.out (bk_tr KU.out hb12))
  have P12 := Lib.hid (P10.out.bk (bk_tr KU.out hb12) (Nat.le_refl _))
  clear hb12 D7 x0' y0' y1'
  go_wp2_with fail
  have D8 := Lib.hid (DE.out w12 _ 3 (HT.out.bk K112.out) P12.out)
  refine D8.out.mono ?_
  rintro e w13 ⟨rfl, hb13⟩
  have K113 := Lib.hid (bk_tr K112.out hb13)
  clear hb13 D8
  go_wp2_with fail
  have D9 := Lib.hid (KI.out w13 (HT.out.bk K113.out))
  refine D9.out.mono ?_
  rintro e w14 ⟨rfl, hb14⟩
  have K114 := Lib.hid (bk_tr K113.out hb14)
  clear hb14 D9
  go_wp2_with fail
  go_ret
  exact ⟨rfl, K114.out⟩
end Go.Proofs.YtnlpiaejfmdckaaDoor
