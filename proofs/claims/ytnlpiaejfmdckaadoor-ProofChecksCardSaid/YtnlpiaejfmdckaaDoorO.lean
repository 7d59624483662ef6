/- The reference's tables. -/
import Derived.Test.YtnlpiaejfmdckaaDoorNA
namespace Go.Proofs.YtnlpiaejfmdckaaDoor
open Go.RowKit
set_option linter.unusedVariables false
set_option linter.unusedSimpArgs false
theorem kinds_or (k : Int) : k = 1 ∨ k = 2 ∨ k = 3 ∨ k = 4 ∨ k = 5 ∨ k = 6 ∨ k = 7 ∨ k = 8 ∨ k = 9 ∨ k = 10 ∨ k = 11 ∨ k = 12 ∨ (isK k = false ∧ (k < 1 ∨ 12 < k)) := by
  by_cases h : 0 < k ∧ k < 13
  · omega
  · have h2 : isK k = false := if_neg h
    exact Or.inr (Or.inr (Or.inr (Or.inr (Or.inr (Or.inr (Or.inr (Or.inr (Or.inr (Or.inr (Or.inr (Or.inr (⟨h2, by omega⟩))))))))))))
set_option maxRecDepth 100000 in
set_option maxHeartbeats 4000000 in
theorem rrefs9 (k : Int) (w : World) : Calls Tryd.prog 9 #[.int .i64 k] w fun e w' => e = .returned (.tuple #[.int .i64 (leastK k), .int .i64 (mostK k)]) ∧ w = w' := by
  rcases kinds_or k with rfl | rfl | rfl | rfl | rfl | rfl | rfl | rfl | rfl | rfl | rfl | rfl | ⟨hk, ho⟩
  · rw [show leastK 1 = 0 from by decide, show mostK 1 = 0 from by decide]
    go_enter Tryd.func9, Tryd.ntmps9
    go_wp2_with fail
    go_ret2
    exact ⟨rfl, rfl⟩
  · rw [show leastK 2 = 1 from by decide, show mostK 2 = 1 from by decide]
    go_enter Tryd.func9, Tryd.ntmps9
    go_wp2_with fail
    go_ret2
    exact ⟨rfl, rfl⟩
  · rw [show leastK 3 = 2 from by decide, show mostK 3 = 2 from by decide]
    go_enter Tryd.func9, Tryd.ntmps9
    go_wp2_with fail
    go_ret2
    exact ⟨rfl, rfl⟩
  · rw [show leastK 4 = 0 from by decide, show mostK 4 = 3 from by decide]
    go_enter Tryd.func9, Tryd.ntmps9
    go_wp2_with fail
    go_ret2
    exact ⟨rfl, rfl⟩
  · rw [show leastK 5 = 0 from by decide, show mostK 5 = 12 from by decide]
    go_enter Tryd.func9, Tryd.ntmps9
    go_wp2_with fail
    go_ret2
    exact ⟨rfl, rfl⟩
  · rw [show leastK 6 = 0 from by decide, show mostK 6 = 0 from by decide]
    go_enter Tryd.func9, Tryd.ntmps9
    go_wp2_with fail
    go_ret2
    exact ⟨rfl, rfl⟩
  · rw [show leastK 7 = 0 from by decide, show mostK 7 = 0 from by decide]
    go_enter Tryd.func9, Tryd.ntmps9
    go_wp2_with fail
    go_ret2
    exact ⟨rfl, rfl⟩
  · rw [show leastK 8 = 0 from by decide, show mostK 8 = 3 from by decide]
    go_enter Tryd.func9, Tryd.ntmps9
    go_wp2_with fail
    go_ret2
    exact ⟨rfl, rfl⟩
  · rw [show leastK 9 = 2 from by decide, show mostK 9 = 2 from by decide]
    go_enter Tryd.func9, Tryd.ntmps9
    go_wp2_with fail
    go_ret2
    exact ⟨rfl, rfl⟩
  · rw [show leastK 10 = 2 from by decide, show mostK 10 = 2 from by decide]
    go_enter Tryd.func9, Tryd.ntmps9
    go_wp2_with fail
    go_ret2
    exact ⟨rfl, rfl⟩
  · rw [show leastK 11 = 1 from by decide, show mostK 11 = 1 from by decide]
    go_enter Tryd.func9, Tryd.ntmps9
    go_wp2_with fail
    go_ret2
    exact ⟨rfl, rfl⟩
  · rw [show leastK 12 = 0 from by decide, show mostK 12 = 0 from by decide]
    go_enter Tryd.func9, Tryd.ntmps9
    go_wp2_with fail
    go_ret2
    exact ⟨rfl, rfl⟩
  · rw [show leastK k = -1 from by unfold leastK; rw [if_neg (by rw [hk]; decide)], show mostK k = -1 from by unfold mostK; rw [if_neg (by rw [hk]; decide)]]
    have e1 : (k == 1) = false := by simp; omega
    have e2 : (k == 2) = false := by simp; omega
    have e3 : (k == 3) = false := by simp; omega
    have e4 : (k == 4) = false := by simp; omega
    have e5 : (k == 5) = false := by simp; omega
    have e6 : (k == 6) = false := by simp; omega
    have e7 : (k == 7) = false := by simp; omega
    have e8 : (k == 8) = false := by simp; omega
    have e9 : (k == 9) = false := by simp; omega
    have e10 : (k == 10) = false := by simp; omega
    have e11 : (k == 11) = false := by simp; omega
    have e12 : (k == 12) = false := by simp; omega
    clear ho hk
    go_enter Tryd.func9, Tryd.ntmps9
    go_wp2_with fail
    go_ret2
    exact ⟨rfl, rfl⟩
def kArr : Array Value := #[.string ⟨#[114, 101, 102, 108]⟩, .string ⟨#[115, 121, 109]⟩, .string ⟨#[116, 114, 97, 110, 115]⟩, .string ⟨#[99, 111, 110, 103]⟩, .string ⟨#[114, 117, 108, 101]⟩, .string ⟨#[102, 111, 108, 100]⟩, .string ⟨#[116, 111, 112]⟩, .string ⟨#[110, 111, 100, 101]⟩, .string ⟨#[109, 101, 101, 116]⟩, .string ⟨#[109, 111, 118, 101]⟩, .string ⟨#[115, 105, 110, 103, 108, 101]⟩, .string ⟨#[103, 105, 118, 101, 110]⟩]
set_option maxRecDepth 100000 in
set_option maxHeartbeats 4000000 in
theorem rkind11 (k : Int) (w : World) : Calls Tryd.prog 11 #[.int .i64 k] w fun e w' => e = .returned (.string (nameK k)) ∧ BK w w' := by
  have KA := Lib.hid (bk_alloc (BK.refl w) (.cells kArr 9))
  have NA := Lib.hid (heap_alloc_new w (.cells kArr 9))
  unfold kArr at KA NA
  rcases kinds_or k with rfl | rfl | rfl | rfl | rfl | rfl | rfl | rfl | rfl | rfl | rfl | rfl | ⟨hk, ho⟩
  · rw [show nameK 1 = ⟨#[114, 101, 102, 108]⟩ from by kernel_rfl]
    have x0 := cell_of_row _ w.heap.size 0 _ 9 (0, 0) NA.out
    go_enter Tryd.func11, Tryd.ntmps11
    go_wp2_with fail
    go_ret
    exact ⟨rfl, KA.out⟩
  · rw [show nameK 2 = ⟨#[115, 121, 109]⟩ from by kernel_rfl]
    have x0 := cell_of_row _ w.heap.size 1 _ 9 (0, 0) NA.out
    go_enter Tryd.func11, Tryd.ntmps11
    go_wp2_with fail
    go_ret
    exact ⟨rfl, KA.out⟩
  · rw [show nameK 3 = ⟨#[116, 114, 97, 110, 115]⟩ from by kernel_rfl]
    have x0 := cell_of_row _ w.heap.size 2 _ 9 (0, 0) NA.out
    go_enter Tryd.func11, Tryd.ntmps11
    go_wp2_with fail
    go_ret
    exact ⟨rfl, KA.out⟩
  · rw [show nameK 4 = ⟨#[99, 111, 110, 103]⟩ from by kernel_rfl]
    have x0 := cell_of_row _ w.heap.size 3 _ 9 (0, 0) NA.out
    go_enter Tryd.func11, Tryd.ntmps11
    go_wp2_with fail
    go_ret
    exact ⟨rfl, KA.out⟩
  · rw [show nameK 5 = ⟨#[114, 117, 108, 101]⟩ from by kernel_rfl]
    have x0 := cell_of_row _ w.heap.size 4 _ 9 (0, 0) NA.out
    go_enter Tryd.func11, Tryd.ntmps11
    go_wp2_with fail
    go_ret
    exact ⟨rfl, KA.out⟩
  · rw [show nameK 6 = ⟨#[102, 111, 108, 100]⟩ from by kernel_rfl]
    have x0 := cell_of_row _ w.heap.size 5 _ 9 (0, 0) NA.out
    go_enter Tryd.func11, Tryd.ntmps11
    go_wp2_with fail
    go_ret
    exact ⟨rfl, KA.out⟩
  · rw [show nameK 7 = ⟨#[116, 111, 112]⟩ from by kernel_rfl]
    have x0 := cell_of_row _ w.heap.size 6 _ 9 (0, 0) NA.out
    go_enter Tryd.func11, Tryd.ntmps11
    go_wp2_with fail
    go_ret
    exact ⟨rfl, KA.out⟩
  · rw [show nameK 8 = ⟨#[110, 111, 100, 101]⟩ from by kernel_rfl]
    have x0 := cell_of_row _ w.heap.size 7 _ 9 (0, 0) NA.out
    go_enter Tryd.func11, Tryd.ntmps11
    go_wp2_with fail
    go_ret
    exact ⟨rfl, KA.out⟩
  · rw [show nameK 9 = ⟨#[109, 101, 101, 116]⟩ from by kernel_rfl]
    have x0 := cell_of_row _ w.heap.size 8 _ 9 (0, 0) NA.out
    go_enter Tryd.func11, Tryd.ntmps11
    go_wp2_with fail
    go_ret
    exact ⟨rfl, KA.out⟩
  · rw [show nameK 10 = ⟨#[109, 111, 118, 101]⟩ from by kernel_rfl]
    have x0 := cell_of_row _ w.heap.size 9 _ 9 (0, 0) NA.out
    go_enter Tryd.func11, Tryd.ntmps11
    go_wp2_with fail
    go_ret
    exact ⟨rfl, KA.out⟩
  · rw [show nameK 11 = ⟨#[115, 105, 110, 103, 108, 101]⟩ from by kernel_rfl]
    have x0 := cell_of_row _ w.heap.size 10 _ 9 (0, 0) NA.out
    go_enter Tryd.func11, Tryd.ntmps11
    go_wp2_with fail
    go_ret
    exact ⟨rfl, KA.out⟩
  · rw [show nameK 12 = ⟨#[103, 105, 118, 101, 110]⟩ from by kernel_rfl]
    have x0 := cell_of_row _ w.heap.size 11 _ 9 (0, 0) NA.out
    go_enter Tryd.func11, Tryd.ntmps11
    go_wp2_with fail
    go_ret
    exact ⟨rfl, KA.out⟩
  · rw [show nameK k = ⟨#[]⟩ from by unfold nameK; rw [if_neg (by rw [hk]; decide)]]
    clear hk NA
    rcases ho with h | h
    · go_enter Tryd.func11, Tryd.ntmps11
      go_wp2_with fail
      go_ret
      exact ⟨rfl, KA.out⟩
    · have h1 : ¬ k < 1 := by omega
      go_enter Tryd.func11, Tryd.ntmps11
      go_wp2_with fail
      go_ret
      exact ⟨rfl, KA.out⟩
set_option maxRecDepth 100000 in
set_option maxHeartbeats 4000000 in
theorem tables_law (k : Int) (w : World) (ht : Tb w) : Calls Tryd.prog 3 #[.int .i64 k] w fun e w' => e = .returned (.bool true) ∧ BK w w' := by
  have HT := Lib.hid ht
  have C8 := Lib.hid (refs8 k w ht)
  have C9 := Lib.hid (fun w => rrefs9 k w)
  have C10 := Lib.hid (fun wc (hb : BK w wc) => kind10 k wc (ht.bk hb))
  have C11 := Lib.hid (fun w => rkind11 k w)
  have LV := Lib.hid (fun wc (hb : BK w wc) => lives12 wc (ht.bk hb))
  clear ht
  generalize leastK k = le at *
  generalize mostK k = mo at *
  generalize nameK k = nm at *
  go_enter Tryd.func3, Tryd.ntmps3
  go_wp2_with fail
  refine C8.out.mono ?_
  rintro e w2 ⟨rfl, hb2⟩
  have K2 := Lib.hid hb2
  clear hb2
  go_wp2_with fail
  refine (C9.out _).mono ?_
  rintro e w' ⟨rfl, rfl⟩
  have D10 := Lib.hid (C10.out _ K2.out)
  go_wp2_with fail
  refine D10.out.mono ?_
  rintro e w3 ⟨rfl, hb3⟩
  have K3 := Lib.hid (bk_tr K2.out hb3)
  clear hb3
  go_wp2_with fail
  refine (C11.out _).mono ?_
  rintro e w4 ⟨rfl, hb4⟩
  have K4 := Lib.hid (bk_tr K3.out hb4)
  clear hb4
  have D12 := Lib.hid (LV.out _ K4.out)
  go_wp2_with fail
  refine D12.out.mono ?_
  rintro e w5 ⟨rfl, hb5⟩
  have K5 := Lib.hid (bk_tr K4.out hb5)
  clear hb5
  go_wp2_with fail
  go_ret
  exact ⟨rfl, K5.out⟩
end Go.Proofs.YtnlpiaejfmdckaaDoor
