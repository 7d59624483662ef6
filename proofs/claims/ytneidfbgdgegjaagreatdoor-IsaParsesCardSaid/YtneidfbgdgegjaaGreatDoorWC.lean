/- The fields of an instruction's line. -/
import Derived.Test.YtneidfbgdgegjaaGreatDoorWA
namespace Go.Proofs.YtneidfbgdgegjaaGreatDoor
open Go.RowKit
set_option linter.unusedVariables false
set_option linter.unusedSimpArgs false
theorem own_new (w : World) (B : Nat) (hB : B ≤ w.heap.size) (ys : List (List UInt8)) (hl : ys.length ≤ 1000000) : (w.alloc (.cells (strs ys).toArray 9)).ownsRow B 9 1 (.slice (some ⟨w.heap.size, 0, none⟩) ys.length ys.length) ys.length (strs ys) :=
  ⟨by rw [strs_len]; omega, .inr ⟨w.heap.size, ys.length, (strs ys).toArray, rfl, hB, heap_alloc_new w _, Nat.le_refl _, by unfold maxLen; omega, by simp [strs_len], by simp; rw [← strs_len, List.take_length]⟩⟩
/-- an instruction of 64-bit values -/
structure I64 (i : I6) : Prop where
  d : In64 i.dst
  a : In64 i.a
  b : In64 i.b
  c : In64 i.c
  m0 : 0 ≤ i.imm
  m1 : i.imm < 18446744073709551616
theorem uses64 {i : I6} (h : I64 i) : ∀ x ∈ usesL i, In64 x := by
  intro x hx
  unfold usesL at hx
  have := List.mem_of_mem_take hx
  simp at this
  rcases this with rfl | rfl | rfl
  · exact h.a
  · exact h.b
  · exact h.c
theorem uses_len (i : I6) : (usesL i).length ≤ 3 := by unfold usesL; simp; omega
theorem ro_one (w : World) (x : Int) : RO (w.alloc (.cells #[.int .i64 x] 3)) (some ⟨w.heap.size, 0, none⟩) 1 [x] := by
  refine ⟨fun h => (by cases h), by simp, fun k hk => ⟨_, _, rfl, ?_⟩⟩
  obtain rfl : k = 0 := by simpa using hk
  rw [Nat.zero_add, World.cell?_alloc_new]
  rfl
def mid (i : I6) : List (List UInt8) := nameL i.op :: (if dfB i.op = true then [regT i.dst] else [])
def mid2 (i : I6) : List (List UInt8) := mid i ++ (if i.op = 1 then [wrn 10 i.imm.toNat] else [])
theorem insW_mid (i : I6) : insW i = mid2 i ++ regsT (usesL i) := by unfold insW mid2 mid regsT; simp
def FP (w : World) (xs : List (List UInt8)) (e : Ending) (w' : World) : Prop := ∃ p' c', e = .returned (.slice p' xs.length c') ∧ w'.ownsRow w.heap.size 9 1 (.slice p' xs.length c') xs.length (strs xs) ∧ BK w w'
theorem fp_end {w wB W : World} {i : I6} {xs : List (List UInt8)} {n : Nat} {p : Option Addr} {c : Nat} (hx : insW i = xs ++ regsT (usesL i)) (hn : xs.length = n) (ho : W.ownsRow wB.heap.size 9 1 (.slice p (n + (regsT (usesL i)).length) c) (xs ++ regsT (usesL i)).length (strs (xs ++ regsT (usesL i)))) (h1 : BK w wB) (h2 : w.heap.size < wB.heap.size) (h3 : BK wB W) : FP w (insW i) (.returned (.slice p (n + (regsT (usesL i)).length) c)) W := by
  subst hn
  have hl : xs.length + (regsT (usesL i)).length = (insW i).length := by rw [hx]; simp
  rw [hl] at ho ⊢
  rw [← hx] at ho
  exact ⟨p, c, rfl, own_mono ho (by omega), bk_tr h1 h3⟩
set_option maxRecDepth 100000 in
set_option maxHeartbeats 4000000 in
theorem flds48 (i : I6) (h : I64 i) (w : World) (ht : Tb w) : Calls Tryz.prog 48 #[.agg #[.int .i64 i.op, .int .i64 i.dst, .int .i64 i.a, .int .i64 i.b, .int .i64 i.c, .int .u64 i.imm]] w (FP w (insW i)) := by
  have HK := Lib.hid (bk_alloc (BK.refl w) (.cells #[.int .i64 i.op, .int .i64 i.dst, .int .i64 i.a, .int .i64 i.b, .int .i64 i.c, .int .u64 i.imm] 42))
  have HN := Lib.hid (heap_alloc_new w (.cells #[.int .i64 i.op, .int .i64 i.dst, .int .i64 i.a, .int .i64 i.b, .int .i64 i.c, .int .u64 i.imm] 42))
  have HT := Lib.hid ht
  have H := Lib.hid h
  have HD := Lib.hid (fun W => def45 i W)
  have HU := Lib.hid (fun W => uses58 i W)
  have HM := Lib.hid (insW_mid i)
  have HL := Lib.hid (uses_len i)
  have HR := Lib.hid (fun W p c (ht : Tb W) hr => reg49 (usesL i) (by have := uses_len i; omega) (uses64 h) W ht p c hr)
  have HRD := Lib.hid (show ∀ W, Tb W → Calls Tryz.prog 49 #[.slice (some ⟨W.heap.size, 0, none⟩) 1 1] (W.alloc (.cells #[.int .i64 i.dst] 3)) fun e w' => ∃ p' c', e = .returned (.slice p' 1 c') ∧ w'.ownsRow (W.alloc (.cells #[.int .i64 i.dst] 3)).heap.size 9 1 (.slice p' 1 c') 1 (strs [regT i.dst]) ∧ BK (W.alloc (.cells #[.int .i64 i.dst] 3)) w' from fun W ht => reg49 [i.dst] (by simp) (by simp; exact h.d) (W.alloc (.cells #[.int .i64 i.dst] 3)) (ht.keep (bk_alloc (BK.refl W) _)) _ 1 (ro_one W i.dst))
  have HDEC := Lib.hid (show ∀ W, Tb W → Calls Tryz.prog 72 #[.int .u64 i.imm] W fun e w' => e = .returned (.string (sB (wrn 10 i.imm.toNat))) ∧ BK W w' from fun W ht => by
    have := dec72 i.imm.toNat (by have := h.m1; have := h.m0; omega) W ht
    rw [show ((i.imm.toNat : Nat) : Int) = i.imm from Int.toNat_of_nonneg h.m0] at this
    exact this)
  clear ht h
  go_enter Tryz.func48, Tryz.ntmps48
  go_upto_region 1 with (fail)
  have HB := Lib.hid (show w.heap.size < (w.alloc (.cells #[.int .i64 i.op, .int .i64 i.dst, .int .i64 i.a, .int .i64 i.b, .int .i64 i.c, .int .u64 i.imm] 42)).heap.size from box_lt w _ _)
  generalize w.alloc (.cells #[.int .i64 i.op, .int .i64 i.dst, .int .i64 i.a, .int .i64 i.b, .int .i64 i.c, .int .u64 i.imm] 42) = wB at HK HN HB ⊢
  have NN := Lib.hid (fun W (hb : BK wB W) => (bk_block hb HB.out).trans HN.out)
  clear HN
  have c0 := cell_of_row _ w.heap.size 0 _ 42 (0, 0) (NN.out wB (BK.refl _))
  have C := Lib.hid (name13 i.op wB (HT.out.keep HK.out))
  go_upto_region 2 with (go_at_call 13; refine C.out.mono ?_; rintro e w1 ⟨rfl, rfl⟩)
  have HO := Lib.hid (show (wB.alloc (.cells #[.string (nameB i.op)] 9)).ownsRow wB.heap.size 9 1 (.slice (some ⟨wB.heap.size, 0, none⟩) 1 1) [nameL i.op].length (strs [nameL i.op]) from own_new wB _ (Nat.le_refl _) [nameL i.op] (by simp))
  have K1 := Lib.hid (bk_alloc (BK.refl wB) (.cells #[.string (nameB i.op)] 9))
  clear c0 C
  generalize wB.alloc (.cells #[.string (nameB i.op)] 9) = w1 at HO K1 ⊢
  have C := Lib.hid (HD.out w1)
  have N := NN.out w1 K1.out
  have c0 := cell_of_row _ w.heap.size 0 _ 42 (0, 0) N
  have c1 := cell_of_row _ w.heap.size 1 _ 42 (0, 0) N
  have c2 := cell_of_row _ w.heap.size 2 _ 42 (0, 0) N
  have c3 := cell_of_row _ w.heap.size 3 _ 42 (0, 0) N
  have c4 := cell_of_row _ w.heap.size 4 _ 42 (0, 0) N
  have c5 := cell_of_row _ w.heap.size 5 _ 42 (0, 0) N
  clear N
  go_upto_region 3 with (go_at_call 27; refine C.out.mono ?_; rintro e w2 ⟨rfl, hb2⟩)
  have K2 := Lib.hid (bk_tr K1.out hb2)
  have O2 := Lib.hid (own_below HO.out hb2)
  clear hb2 c0 c1 c2 c3 c4 c5 K1 HO C
  cases hd : dfB i.op with
  | true =>
    have HMID := Lib.hid (show mid i = [nameL i.op, regT i.dst] from by unfold mid; rw [if_pos hd])
    generalize nameL i.op = nm at HMID O2
    have hdv : defV i = i.dst := by unfold defV; rw [if_pos hd]
    have D := Lib.hid (HRD.out w2 (HT.out.keep (bk_tr HK.out K2.out)))
    have KA := Lib.hid (bk_alloc (BK.refl w2) (.cells #[.int .i64 i.dst] 3))
    go_wp2_with fail
    refine D.out.mono ?_
    rintro e w3 ⟨p3, q3, rfl, o3, b3⟩
    have K3' := Lib.hid (bk_tr KA.out b3)
    have K3 := Lib.hid (bk_tr K2.out K3'.out)
    have O3 := Lib.hid (own_below O2.out K3'.out)
    have P3 := Lib.hid o3
    clear o3 b3 D KA K3'
    go_wp2_with (at_builtin; go_must (refine wpA rfl (.tmp 16) (.tmp 19) rfl wB.heap.size (.slice (some ⟨wB.heap.size, 0, none⟩) 1 1) [nm] rfl O3.out (.slice p3 1 q3) [regT i.dst] rfl (SrcS.own P3.out rfl) ?c1 ?c2 ?_))
    case c1 => simp
    case c2 => exact bk_size K3.out
    intro p4 q4 w4 o4 g4
    have K4 := Lib.hid (bk_grown K3.out O3.out (Nat.le_refl _) g4)
    have O4 := Lib.hid o4
    clear o4 g4 O3 P3 K3 O2 K2
    go_upto_region 5 with (fail)
    clear hdv
    by_cases he : i.op = 1
    · have hm2 : mid2 i = [nm, regT i.dst] ++ [wrn 10 i.imm.toNat] := by unfold mid2; rw [if_pos he, HMID.out]
      have DC := Lib.hid (HDEC.out w4 (HT.out.keep (bk_tr HK.out K4.out)))
      have N := NN.out w4 K4.out
      have c0 := cell_of_row _ w.heap.size 0 _ 42 (0, 0) N
      have c5 := cell_of_row _ w.heap.size 5 _ 42 (0, 0) N
      clear N
      go_wp2_with fail
      refine DC.out.mono ?_
      rintro e w5 ⟨rfl, b5⟩
      have K5 := Lib.hid (bk_tr K4.out b5)
      have O5 := Lib.hid (own_below O4.out b5)
      clear b5 DC c0 c5
      go_wp2_with (at_builtin; go_must (refine wpA rfl (.tmp 24) (.tmp 28) rfl wB.heap.size (.slice p4 2 q4) [nm, regT i.dst] rfl (own_below O5.out (bk_alloc (BK.refl w5) _)) (.slice (some ⟨w5.heap.size, 0, none⟩) 1 1) [wrn 10 i.imm.toNat] rfl (src_alloc1 w5 _) ?c1 ?c2 ?_))
      case c1 => simp
      case c2 => have := bk_size K5.out; simp; omega
      intro p6 q6 w6 o6 g6
      have K6 := Lib.hid (bk_grown (bk_alloc K5.out _) (own_below O5.out (bk_alloc (BK.refl w5) _)) (Nat.le_refl _) g6)
      have O6 := Lib.hid o6
      clear o6 g6 O5 K5
      go_upto_region 7 with (fail)
      clear he
      have U := Lib.hid (HU.out w6)
      have N := NN.out w6 K6.out
      have c0 := cell_of_row _ w.heap.size 0 _ 42 (0, 0) N
      have c1 := cell_of_row _ w.heap.size 1 _ 42 (0, 0) N
      have c2 := cell_of_row _ w.heap.size 2 _ 42 (0, 0) N
      have c3 := cell_of_row _ w.heap.size 3 _ 42 (0, 0) N
      have c4 := cell_of_row _ w.heap.size 4 _ 42 (0, 0) N
      have c5 := cell_of_row _ w.heap.size 5 _ 42 (0, 0) N
      clear N
      go_wp2_with fail
      refine U.out.mono ?_
      rintro e w8 ⟨p8, q8, rfl, ro8, b8⟩
      have K8 := Lib.hid (bk_tr K6.out b8)
      have O8 := Lib.hid (own_below O6.out b8)
      have R8 := Lib.hid (HR.out w8 p8 q8 (HT.out.keep (bk_tr HK.out K8.out)) ro8)
      clear ro8 b8 U c0 c1 c2 c3 c4 c5
      go_wp2_with fail
      refine R8.out.mono ?_
      rintro e w9 ⟨p9, q9, rfl, o9, b9⟩
      have K9 := Lib.hid (bk_tr K8.out b9)
      have O9 := Lib.hid (own_below O8.out b9)
      have P9 := Lib.hid o9
      clear o9 b9 R8 O8
      go_wp2_with (at_builtin; go_must (refine wpA rfl (.tmp 30) (.tmp 33) rfl wB.heap.size (.slice p6 3 q6) ([nm, regT i.dst] ++ [wrn 10 i.imm.toNat]) rfl O9.out (.slice p9 (usesL i).length q9) (regsT (usesL i)) (by simp [Act.eval, Act.put, regsT]) (by have := SrcS.own P9.out rfl; exact this) ?c1 ?c2 ?_))
      case c1 => have := HL.out; simp [regsT]; omega
      case c2 => exact bk_size K9.out
      intro p10 q10 w10 o10 g10
      have K10 := Lib.hid (bk_grown K9.out O9.out (Nat.le_refl _) g10)
      have O10 := Lib.hid o10
      clear o10 g10
      go_wp2_with fail
      go_ret
      exact fp_end (i := i) (xs := ([nm, regT i.dst] ++ [wrn 10 i.imm.toNat])) (n := 3) (by rw [HM.out, hm2]) rfl (by simpa using O10.out) HK.out HB.out K10.out
    · have hm2 : mid2 i = [nm, regT i.dst] := by unfold mid2; rw [if_neg he, HMID.out]; simp
      have N := NN.out w4 K4.out
      have c0 := cell_of_row _ w.heap.size 0 _ 42 (0, 0) N
      clear N
      go_upto_region 7 with (fail)
      clear c0
      have U := Lib.hid (HU.out w4)
      have N := NN.out w4 K4.out
      have c0 := cell_of_row _ w.heap.size 0 _ 42 (0, 0) N
      have c1 := cell_of_row _ w.heap.size 1 _ 42 (0, 0) N
      have c2 := cell_of_row _ w.heap.size 2 _ 42 (0, 0) N
      have c3 := cell_of_row _ w.heap.size 3 _ 42 (0, 0) N
      have c4 := cell_of_row _ w.heap.size 4 _ 42 (0, 0) N
      have c5 := cell_of_row _ w.heap.size 5 _ 42 (0, 0) N
      clear N
      go_wp2_with fail
      refine U.out.mono ?_
      rintro e w8 ⟨p8, q8, rfl, ro8, b8⟩
      have K8 := Lib.hid (bk_tr K4.out b8)
      have O8 := Lib.hid (own_below O4.out b8)
      have R8 := Lib.hid (HR.out w8 p8 q8 (HT.out.keep (bk_tr HK.out K8.out)) ro8)
      clear ro8 b8 U c0 c1 c2 c3 c4 c5
      go_wp2_with fail
      refine R8.out.mono ?_
      rintro e w9 ⟨p9, q9, rfl, o9, b9⟩
      have K9 := Lib.hid (bk_tr K8.out b9)
      have O9 := Lib.hid (own_below O8.out b9)
      have P9 := Lib.hid o9
      clear o9 b9 R8 O8
      go_wp2_with (at_builtin; go_must (refine wpA rfl (.tmp 30) (.tmp 33) rfl wB.heap.size (.slice p4 2 q4) [nm, regT i.dst] rfl O9.out (.slice p9 (usesL i).length q9) (regsT (usesL i)) (by simp [Act.eval, Act.put, regsT]) (by have := SrcS.own P9.out rfl; exact this) ?c1 ?c2 ?_))
      case c1 => have := HL.out; simp [regsT]; omega
      case c2 => exact bk_size K9.out
      intro p10 q10 w10 o10 g10
      have K10 := Lib.hid (bk_grown K9.out O9.out (Nat.le_refl _) g10)
      have O10 := Lib.hid o10
      clear o10 g10
      go_wp2_with fail
      go_ret
      exact fp_end (i := i) (xs := [nm, regT i.dst]) (n := 2) (by rw [HM.out, hm2]) rfl (by simpa using O10.out) HK.out HB.out K10.out
  | false =>
    have HMID := Lib.hid (show mid i = [nameL i.op] from by unfold mid; rw [if_neg (by rw [hd]; decide)])
    generalize nameL i.op = nm at HMID O2
    have he : ¬ i.op = 1 := fun e => by rw [e] at hd; revert hd; decide
    go_upto_region 5 with (fail)
    have hm2 : mid2 i = [nm] := by unfold mid2; rw [if_neg he, HMID.out]; simp
    have N := NN.out w2 K2.out
    have c0 := cell_of_row _ w.heap.size 0 _ 42 (0, 0) N
    clear N
    go_upto_region 7 with (fail)
    clear c0
    have U := Lib.hid (HU.out w2)
    have N := NN.out w2 K2.out
    have c0 := cell_of_row _ w.heap.size 0 _ 42 (0, 0) N
    have c1 := cell_of_row _ w.heap.size 1 _ 42 (0, 0) N
    have c2 := cell_of_row _ w.heap.size 2 _ 42 (0, 0) N
    have c3 := cell_of_row _ w.heap.size 3 _ 42 (0, 0) N
    have c4 := cell_of_row _ w.heap.size 4 _ 42 (0, 0) N
    have c5 := cell_of_row _ w.heap.size 5 _ 42 (0, 0) N
    clear N
    go_wp2_with fail
    refine U.out.mono ?_
    rintro e w8 ⟨p8, q8, rfl, ro8, b8⟩
    have K8 := Lib.hid (bk_tr K2.out b8)
    have O8 := Lib.hid (own_below O2.out b8)
    have R8 := Lib.hid (HR.out w8 p8 q8 (HT.out.keep (bk_tr HK.out K8.out)) ro8)
    clear ro8 b8 U c0 c1 c2 c3 c4 c5
    go_wp2_with fail
    refine R8.out.mono ?_
    rintro e w9 ⟨p9, q9, rfl, o9, b9⟩
    have K9 := Lib.hid (bk_tr K8.out b9)
    have O9 := Lib.hid (own_below O8.out b9)
    have P9 := Lib.hid o9
    clear o9 b9 R8 O8
    go_wp2_with (at_builtin; go_must (refine wpA rfl (.tmp 30) (.tmp 33) rfl wB.heap.size (.slice (some ⟨wB.heap.size, 0, none⟩) 1 1) [nm] rfl O9.out (.slice p9 (usesL i).length q9) (regsT (usesL i)) (by simp [Act.eval, Act.put, regsT]) (by have := SrcS.own P9.out rfl; exact this) ?c1 ?c2 ?_))
    case c1 => have := HL.out; simp [regsT]; omega
    case c2 => exact bk_size K9.out
    intro p10 q10 w10 o10 g10
    have K10 := Lib.hid (bk_grown K9.out O9.out (Nat.le_refl _) g10)
    have O10 := Lib.hid o10
    clear o10 g10
    go_wp2_with fail
    go_ret
    exact fp_end (i := i) (xs := [nm]) (n := 1) (by rw [HM.out, hm2]) rfl (by simpa using O10.out) HK.out HB.out K10.out
end Go.Proofs.YtneidfbgdgegjaaGreatDoor
