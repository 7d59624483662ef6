/- Out checked. -/
import Derived.Test.YtneidfbgdgegjaaGreatDoorLK
namespace Go.Proofs.YtneidfbgdgegjaaGreatDoor
open Go.RowKit
set_option linter.unusedVariables false
set_option linter.unusedSimpArgs false
theorem outE_miss {R : Int} {out : List Int} (h : anyMiss R out = true) : outE R out = 18 := by unfold outE; exact if_pos h
theorem outE_dup {R : Int} {out : List Int} (h : anyMiss R out = false) : outE R out = if dupB out = true then 9 else 0 := by
  have h : out.any (fun r => !inB R r) = false := h
  unfold outE; rw [h]; rfl
theorem all_in {R : Int} {out : List Int} (h : anyMiss R out = false) (h8 : R ≤ 8) : ∀ y ∈ out, 0 ≤ y ∧ y < 8 := by
  intro y hy
  have h := List.any_eq_false.1 h y hy
  have h : ¬ (!inB R y) = true := h
  unfold inB at h
  have : 0 ≤ y ∧ y < R := by simpa using h
  omega
theorem B4.other {w : World} {b : Nat} {x0 x1 x2 x3 : Value} (h : B4 w b x0 x1 x2 x3) (p : Addr) (u : Value) (hp : b ≠ p.block) : B4 (w.setCell p u) b x0 x1 x2 x3 := by
  have he := Below.heap_setCell w p u b hp
  obtain ⟨a0, a1, a2, a3⟩ := h
  exact ⟨(World.cell?_of_block (a := ⟨b, 0, none⟩) he).trans a0, (World.cell?_of_block (a := ⟨b, 1, none⟩) he).trans a1, (World.cell?_of_block (a := ⟨b, 2, none⟩) he).trans a2, (World.cell?_of_block (a := ⟨b, 3, none⟩) he).trans a3⟩
theorem X6.other {w : World} {b : Nat} {i : I6} (h : X6 w b i) (p : Addr) (u : Value) (hp : b ≠ p.block) : X6 (w.setCell p u) b i := by
  have he := Below.heap_setCell w p u b hp
  obtain ⟨a0, a1, a2, a3, a4, a5⟩ := h
  exact ⟨(World.cell?_of_block (a := ⟨b, 0, none⟩) he).trans a0, (World.cell?_of_block (a := ⟨b, 1, none⟩) he).trans a1, (World.cell?_of_block (a := ⟨b, 2, none⟩) he).trans a2, (World.cell?_of_block (a := ⟨b, 3, none⟩) he).trans a3, (World.cell?_of_block (a := ⟨b, 4, none⟩) he).trans a4, (World.cell?_of_block (a := ⟨b, 5, none⟩) he).trans a5⟩
set_option maxRecDepth 100000 in
set_option maxHeartbeats 1000000 in
theorem out82 (W R : Int) (p q : Option Addr) (pc qc : Nat) (ins : List I6) (out : List Int) (w : World) (h : RO w q qc out) (hl : out.length ≤ 1000000) (h8 : R ≤ 8) :
    Calls Tryz.prog 42 #[.agg #[.int .i64 W, .int .i64 R, .slice p ins.length pc, .slice q out.length qc]] w fun e w' => e = .returned (.int .i64 (outE R out)) ∧ BK w w' := by
  have b4 := (b4_new w (.int .i64 W) (.int .i64 R) (.slice p ins.length pc) (.slice q out.length qc) 34).keep (bk_alloc (BK.refl _) (.cells (ca (cl [])) 87))
  have hk := bk_alloc (bk_alloc (BK.refl w) (.cells #[.int .i64 W, .int .i64 R, .slice p ins.length pc, .slice q out.length qc] 34)) (.cells (ca (cl [])) 87)
  have hb := heap_alloc_new (w.alloc (.cells #[.int .i64 W, .int .i64 R, .slice p ins.length pc, .slice q out.length qc] 34)) (.cells (ca (cl [])) 87)
  rw [sz1] at hb
  have HR := Lib.hid h
  have HZ := Lib.hid (show anyMiss R (out.drop out.length) = false by rw [List.drop_length]; rfl)
  clear h
  go_enter Tryz.func42, Tryz.ntmps42
  go_wp2_with fail
  rw [← cl_zero]
  generalize (w.alloc (.cells #[.int .i64 W, .int .i64 R, .slice p ins.length pc, .slice q out.length qc] 34)).alloc (.cells (ca (cl [])) 87) = w0 at b4 hk hb ⊢
  obtain ⟨c0, c1, c2, c3⟩ := b4
  have B0 := Lib.hid (show B4 w0 w.heap.size (.int .i64 W) (.int .i64 R) (.slice p ins.length pc) (.slice q out.length qc) from ⟨c0, c1, c2, c3⟩)
  have K0 := Lib.hid hk
  have HB := Lib.hid hb
  clear hk hb
  go_wp2_with fail
  clear c0 c1 c2 c3
  go_loopw [9] (fun i wr => ∃ k : Nat, k ≤ out.length ∧ i = .int .i64 k ∧ anyMiss R out = anyMiss R (out.drop k) ∧ B4 wr w.heap.size (.int .i64 W) (.int .i64 R) (.slice p ins.length pc) (.slice q out.length qc) ∧ wr.heap[w.heap.size + 1]? = some (.cells (ca (cl (out.take k))) 87 (0, 0)) ∧ BK w wr) (fun i _ => out.length - (intOf i).toNat)
  case atStart => exact ⟨0, Nat.zero_le _, rfl, rfl, B0.out, HB.out, K0.out⟩
  case round =>
    obtain ⟨k, hk, rfl, hs, hb4, hbl, hkw⟩ := hrel
    have H4 := Lib.hid hb4
    have HBL := Lib.hid hbl
    have HK := Lib.hid hkw
    obtain ⟨c0, c1, c2, c3⟩ := hb4
    by_cases hlt : k < out.length
    · have HS := Lib.hid (hs.trans (anyMiss_drop R out k hlt))
      obtain ⟨b, o, rfl, hc⟩ := (HR.out.keep hkw).get k hlt
      have hcl := cnt_le (out.take k)
      have htl : (out.take k).length ≤ k := List.length_take_le _ _
      have hsn := List.take_succ_eq_append_getElem hlt
      clear hs hbl hkw
      generalize out[k] = y at hc HS hsn
      have R94 := Lib.hid (reg94 W R y (some ⟨b, o, none⟩) (some ⟨b, o, none⟩) 0 0 0 0)
      cases hz : missB R y
      · have hin : inB R y = true := by unfold missB at hz; simpa using hz
        have hy : 0 ≤ y ∧ y < R := by unfold inB at hin; simpa using hin
        rw [hz] at HS
        obtain ⟨a, rfl⟩ : ∃ a : Nat, y = a := ⟨y.toNat, by omega⟩
        have ha8 : a < 8 := by omega
        have R94 := Lib.hid (fun wc => by have := reg94 W R (a : Int) p (some ⟨b, o, none⟩) ins.length pc out.length qc wc; rw [hin] at this; exact this)
        obtain ⟨x0, x1⟩ := hcl a
        have hcs := cl_snoc (out.take k) a ha8
        rw [← hsn] at hcs
        have hlen := cl_len (out.take k)
        have hget : (cl (out.take k))[a]'(by omega) = cnt (out.take k) a := by unfold cl; simp
        have HCS := Lib.hid hcs
        have HG := Lib.hid (ca_get (cl (out.take k)) a (by omega))
        rw [hget] at HG
        have xb : cnt (out.take k) a ≤ 1000000 := by omega
        clear hz hin hsn hcs hget hlen htl x1
        generalize cnt (out.take k) a = x at HCS HG x0 xb
        have hi0 : (0 : Int) ≤ a := by omega
        have hi1 : (a : Int) < 8 := by omega
        clear hy
        generalize cl (out.take k) = cs at HBL HCS HG
        go_wp2_with fail
        refine (R94.out _).mono ?_
        rintro e w1 ⟨rfl, hb1⟩
        have d1 := (bk_block hb1 (b := w.heap.size + 1) ((Array.getElem?_eq_some_iff.1 HBL.out).1)).trans HBL.out
        have D1 := Lib.hid d1
        have e1 : w1.cell? ⟨w.heap.size + 1, a, none⟩ = some (.int .i64 x) := by rw [cell_of_row w1 _ _ _ _ _ d1]; exact HG.out
        have f1 : w1.frozen? ⟨w.heap.size + 1, a, none⟩ = false := by simp [World.frozen?, d1]
        have HK1 := Lib.hid (bk_tr HK.out hb1)
        have H41 := Lib.hid (H4.out.keep hb1)
        clear hb1 d1
        go_wp2_with fail
        go_roundw
        case rel =>
          refine ⟨k + 1, by omega, by go_num, by rw [HS.out]; rfl, H41.out.other _ _ (by show w.heap.size ≠ w.heap.size + 1; omega), ?_, bk_set HK1.out _ _ (by show w.heap.size ≤ w.heap.size + 1; omega)⟩
          rw [heap_setCell_same w1 (w.heap.size + 1) a (ca cs) 87 (.int .i64 (x + 1)) D1.out, ca_set, HCS.out]
        case measure => simp [intOf]; omega
      · have hin : inB R y = false := by unfold missB at hz; simpa using hz
        rw [hz] at HS
        have R94 := Lib.hid (fun wc => by have := reg94 W R y p (some ⟨b, o, none⟩) ins.length pc out.length qc wc; rw [hin] at this; exact this)
        have HE := Lib.hid (outE_miss (R := R) (out := out) (by rw [HS.out]; rfl))
        clear hz hin hsn
        go_wp2_with fail
        refine (R94.out _).mono ?_
        rintro e w1 ⟨rfl, hb1⟩
        have HK1 := Lib.hid (bk_tr HK.out hb1)
        clear hb1
        go_wp2_with fail
        go_ret
        exact ⟨ret_int HE.out.symm, HK1.out⟩
    · obtain rfl : k = out.length := by omega
      have hm := hs.trans HZ.out
      rw [List.take_length] at hbl
      have HAI := Lib.hid (all_in hm h8)
      have HOE := Lib.hid (outE_dup hm)
      have hro := ro_block hbl
      rw [cl_len] at hro
      have HM8 := Lib.hid (show ∀ wc, RO wc (some ⟨w.heap.size + 1, 0, none⟩) 8 (cl out) → Calls Tryz.prog 66 #[.slice (some ⟨w.heap.size + 1, 0, none⟩) 8 8] wc (MP (cl out) wc) from fun wc h => by
        have := max98 (cl out) _ 8 wc h (by rw [cl_len]; omega) (by rw [cl_len]; omega)
        rw [cl_len] at this; exact this)
      have HRO := Lib.hid hro
      clear hs hkw hbl hro hm c0 c1 c2 c3
      go_wp2_with fail
      refine (HM8.out _ HRO.out).mono ?_
      rintro e w1 ⟨x, rfl, hx, rfl⟩
      have HD := Lib.hid (max_dup HAI.out hx)
      clear hx
      by_cases h1 : 1 < x
      · have HE := Lib.hid (HOE.out.trans (if_pos (by rw [← HD.out]; simpa using h1)))
        go_wp2_with fail
        go_ret
        exact ⟨ret_int HE.out.symm, HK.out⟩
      · have HE := Lib.hid (HOE.out.trans (if_neg (by rw [← HD.out]; simpa using h1)))
        go_wp2_with fail
        go_ret
        exact ⟨ret_int HE.out.symm, HK.out⟩
end Go.Proofs.YtneidfbgdgegjaaGreatDoor
