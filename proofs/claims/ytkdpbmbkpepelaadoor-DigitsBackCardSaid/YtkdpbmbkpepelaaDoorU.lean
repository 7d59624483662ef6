/- The examples of the document. -/
import Derived.Test.YtkdpbmbkpepelaaDoorT
namespace Go.Proofs.YtkdpbmbkpepelaaDoor
open Go.RowKit
set_option linter.unusedVariables false
set_option linter.unusedSimpArgs false
theorem ex1 : resU (parseS (bl ⟨#[48, 120, 102, 102]⟩)) = .tuple #[.int .u64 255, .int .i64 0] := by rw [show parseS (bl ⟨#[48, 120, 102, 102]⟩) = .ok 255 by decide +kernel]; rfl
theorem ex2 : resU (parseS (bl ⟨#[48, 48, 55]⟩)) = .tuple #[.int .u64 0, .int .i64 6] := by rw [show parseS (bl ⟨#[48, 48, 55]⟩) = .syntax by decide +kernel]; rfl
theorem ex3 : resU (parseS (bl ⟨#[48, 120, 70, 70]⟩)) = .tuple #[.int .u64 0, .int .i64 6] := by rw [show parseS (bl ⟨#[48, 120, 70, 70]⟩) = .syntax by decide +kernel]; rfl
theorem ex4 : resU (parseS (bl ⟨#[49, 56, 52, 52, 54, 55, 52, 52, 48, 55, 51, 55, 48, 57, 53, 53, 49, 54, 49, 54]⟩)) = .tuple #[.int .u64 0, .int .i64 2] := by rw [show parseS (bl ⟨#[49, 56, 52, 52, 54, 55, 52, 52, 48, 55, 51, 55, 48, 57, 53, 53, 49, 54, 49, 54]⟩) = .range by decide +kernel]; rfl
theorem ex5 : parseL (bl ⟨#[45, 49, 32, 50, 48]⟩) = .ok [-1, 20] := by decide +kernel
theorem ex6 : parseL (bl ⟨#[49, 32, 32, 50]⟩) = .syntax := by decide +kernel
theorem ex7 : (48 :: 120 :: wrn 16 255 : List UInt8) = [48, 120, 102, 102] := by
  rw [numE_uniq (b := 16) (l := [102, 102]) (.inr rfl) (by decide +kernel)]
theorem ex8 : lst [-1, 20] = [45, 49, 32, 50, 48] := (parseL_uniq ex5).1
theorem in64a : ∀ z ∈ [(-1 : Int), 20], In64 z := by
  intro z hz
  simp at hz
  unfold In64
  omega
theorem ra_alloc (w : World) (zs : List Int) : Ra (w.alloc (.cells (zs.map (Value.int .i64)).toArray 3)) (some ⟨w.heap.size, 0, none⟩) zs := fun _ => ⟨w.heap.size, 0, rfl, by simp, fun k hk => by
  rw [World.cell?_alloc_new]; simp [hk]⟩
set_option maxRecDepth 100000 in
set_option maxHeartbeats 4000000 in
theorem live15 (w : World) (ht : Tb w) : Calls Tryd.prog 15 #[] w fun e w' => e = .returned (.bool true) ∧ BK w w' := by
  have HT := Lib.hid ht
  have H1 := Lib.hid (fun (wc : World) (hb : BK w wc) => by have h := parse16 ⟨#[48, 120, 102, 102]⟩ (by decide) wc (ht.keep hb); rw [ex1] at h; exact h)
  have H2 := Lib.hid (fun (wc : World) (hb : BK w wc) => by have h := parse16 ⟨#[48, 48, 55]⟩ (by decide) wc (ht.keep hb); rw [ex2] at h; exact h)
  have H3 := Lib.hid (fun (wc : World) (hb : BK w wc) => by have h := parse16 ⟨#[48, 120, 70, 70]⟩ (by decide) wc (ht.keep hb); rw [ex3] at h; exact h)
  have H4 := Lib.hid (fun (wc : World) (hb : BK w wc) => by have h := parse16 ⟨#[49, 56, 52, 52, 54, 55, 52, 52, 48, 55, 51, 55, 48, 57, 53, 53, 49, 54, 49, 54]⟩ (by decide) wc (ht.keep hb); rw [ex4] at h; exact h)
  have H5 := Lib.hid (fun (wc : World) (hb : BK w wc) => by have h := plist20 ⟨#[45, 49, 32, 50, 48]⟩ (by decide) wc (ht.keep hb); rw [ex5] at h; exact h)
  have H6 := Lib.hid (fun (wc : World) (hb : BK w wc) => by have h := plist20 ⟨#[49, 32, 32, 50]⟩ (by decide) wc (ht.keep hb); rw [ex6] at h; exact h)
  have H7 := Lib.hid (fun (wc : World) (hb : BK w wc) => by have h := hex11 255 (by omega) wc (ht.keep hb); rw [ex7] at h; exact h)
  have H8 := Lib.hid (fun (wc : World) (hb : BK w wc) (p : Option Addr) (c : Nat) (hr : Ra wc p [-1, 20]) => by have h := list22 p c [-1, 20] wc (ht.keep hb) hr (by decide) in64a; rw [ex8] at h; exact h)
  clear ht
  go_enter Tryd.func15, Tryd.ntmps15
  go_wp2_with fail
  refine (H1.out _ (BK.refl _)).mono ?_
  rintro e w1 ⟨rfl, b1⟩
  have K1 := Lib.hid b1
  clear b1
  go_wp2_with fail
  refine (H2.out _ K1.out).mono ?_
  rintro e w2 ⟨rfl, b2⟩
  have K2 := Lib.hid (bk_tr K1.out b2)
  clear b2
  go_wp2_with fail
  refine (H3.out _ K2.out).mono ?_
  rintro e w3 ⟨rfl, b3⟩
  have K3 := Lib.hid (bk_tr K2.out b3)
  clear b3
  go_wp2_with fail
  refine (H4.out _ K3.out).mono ?_
  rintro e w4 ⟨rfl, b4⟩
  have K4 := Lib.hid (bk_tr K3.out b4)
  clear b4
  go_wp2_with fail
  refine (H5.out _ K4.out).mono ?_
  rintro e w5 ⟨p, c, rfl, hra, b5⟩
  have K5 := Lib.hid (bk_tr K4.out b5)
  obtain ⟨bb, off, rfl, hlt, hcell⟩ := hra (by decide)
  have d0 : w5.cell? ⟨bb, off, none⟩ = some (.int .i64 (-1)) := hcell 0 (by decide)
  have d1 : w5.cell? ⟨bb, off + 1, none⟩ = some (.int .i64 20) := hcell 1 (by decide)
  have D0 := Lib.hid d0
  have D1 := Lib.hid d1
  have e2 : (lz (.ok [-1, 20])).length = 2 := rfl
  have e3 : cd (.ok [-1, 20]) = 0 := rfl
  rw [e2, e3]
  clear b5 hra d0 d1 hcell hlt e2 e3
  go_wp2_with fail
  refine (H6.out _ K5.out).mono ?_
  rintro e w6 ⟨p6, c6, rfl, hra6, b6⟩
  have J6 := Lib.hid b6
  have K6 := Lib.hid (bk_tr K5.out b6)
  have e2 : (lz .syntax).length = 0 := rfl
  have e3 : cd .syntax = 6 := rfl
  rw [e2, e3]
  clear b6 hra6 e2 e3
  go_wp2_with fail
  refine (H7.out _ K6.out).mono ?_
  rintro e w7 ⟨rfl, b7⟩
  have K7 := Lib.hid (bk_tr K6.out b7)
  have d0 := cellBk D0.out (bk_tr J6.out b7)
  have d1 := cellBk D1.out (bk_tr J6.out b7)
  clear b7
  go_wp2_with fail
  have k8 := bk_alloc K7.out (.cells #[.int .i64 (-1), .int .i64 20] 3)
  refine (H8.out _ k8 _ _ (ra_alloc w7 [-1, 20])).mono ?_
  rintro e w8 ⟨rfl, b8⟩
  have K8 := Lib.hid (bk_tr k8 b8)
  clear b8 k8
  go_wp2_with fail
  go_ret
  exact ⟨rfl, K8.out⟩
end Go.Proofs.YtkdpbmbkpepelaaDoor
