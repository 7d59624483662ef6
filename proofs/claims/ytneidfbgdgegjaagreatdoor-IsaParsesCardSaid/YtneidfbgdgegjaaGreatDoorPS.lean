/- Parse of the program. -/
import Derived.Test.YtneidfbgdgegjaaGreatDoorRS
import Derived.Test.YtneidfbgdgegjaaGreatDoorLM
namespace Go.Proofs.YtneidfbgdgegjaaGreatDoor
open Go.RowKit Go.Shelf
set_option linter.unusedVariables false
set_option linter.unusedSimpArgs false
/-- a program, a line and a code come back -/
def RCP (w : World) (c : RC) (e : Ending) (w' : World) : Prop :=
  ∃ (p q : Option Addr) (pc qc : Nat), e = .returned (.tuple #[.agg #[.int .i64 c.w, .int .i64 c.regs, .slice p c.ins.length pc, .slice q c.out.length qc], .int .i64 c.line, .int .i64 c.err]) ∧ RI w' p pc c.ins ∧ RO w' q qc c.out ∧ BK w w'
theorem ri_nil (w : World) : RI w none 0 [] := ⟨fun _ => rfl, Nat.le_refl _, fun k h => by simp at h⟩
theorem ro_nil (w : World) : RO w none 0 [] := ⟨fun _ => rfl, Nat.le_refl _, fun k h => by simp at h⟩
theorem parseT_long {s : ByteArray} (h : 65536 < s.size) : parseT (bl s) = ⟨0, 0, [], [], 0, 7⟩ := by
  unfold parseT; rw [if_pos (by rw [bl_len]; exact h)]
theorem parseT_bad {s : ByteArray} (h : s.size ≤ 65536) {n : Nat} (hp : progP (lns (bl s)) = .bad n) : parseT (bl s) = ⟨0, 0, [], [], n, 6⟩ := by
  unfold parseT parseP; rw [if_neg (by rw [bl_len]; omega), hp]
theorem parseT_ok {s : ByteArray} (h : s.size ≤ 65536) {W R : Int} {ins : List I6} {out : List Int} (hp : progP (lns (bl s)) = .ok W R ins out) : parseT (bl s) = if chkE W R ins out = 0 then ⟨W, R, ins, out, 0, 0⟩ else ⟨0, 0, [], [], chkK W R ins out + 2, chkE W R ins out⟩ := by
  unfold parseT parseP; rw [if_neg (by rw [bl_len]; omega), hp]
/-- a code is stored -/
def cod (Y : World) (n0 : Nat) (W R : Int) (vi vo : Value) : World := (((Y.setCell ⟨n0, 0, none⟩ (.int .i64 W)).setCell ⟨n0, 1, none⟩ (.int .i64 R)).setCell ⟨n0, 2, none⟩ vi).setCell ⟨n0, 3, none⟩ vo
theorem cod_all {w Y : World} {n0 : Nat} {a b : Int} {x y : Value} (hc : C4 Y n0 a b x y) (hb : BK w Y) (hn : w.heap.size ≤ n0) (W R : Int) (vi vo : Value) : C4 (cod Y n0 W R vi vo) n0 W R vi vo ∧ BK w (cod Y n0 W R vi vo) ∧ St (isB n0) Y (cod Y n0 W R vi vo) :=
  ⟨(((hc.set0 W).set1 R).set2 vi).set3 vo, bk_set (bk_set (bk_set (bk_set hb _ _ hn) _ _ hn) _ _ hn) _ _ hn, (((st_set Y n0 0 _).trans (st_set _ n0 1 _)).trans (st_set _ n0 2 _)).trans (st_set _ n0 3 _)⟩
theorem C4.b4 {w : World} {c : Nat} {x0 x1 : Int} {vi vo : Value} (h : C4 w c x0 x1 vi vo) : B4 w c (.int .i64 x0) (.int .i64 x1) vi vo := by
  unfold C4 at h
  refine ⟨?_, ?_, ?_, ?_⟩ <;> (rw [cell_of_row w c _ _ 34 _ h]; rfl)
theorem C4.fr {w : World} {c : Nat} {x0 x1 : Int} {vi vo : Value} (h : C4 w c x0 x1 vi vo) (j : Nat) : w.frozen? ⟨c, j, none⟩ = false := frozen_of_row w c j _ 34 h
theorem ri_st4 {X Z : World} {n0 c : Nat} {p : Option Addr} {l : List I6} {a b : Int} {x y : Value} (h : RI X p c l) (s : St (isB n0) X Z) (hc : C4 X n0 a b x y) : RI Z p c l :=
  ⟨h.nl, h.le, fun k hk => by
    obtain ⟨b', o, h1, h2⟩ := h.get k hk
    refine ⟨b', o, h1, ?_⟩
    have hne : ¬ isB n0 b' := fun e => by
      have e : b' = n0 := e
      subst e
      -- six cells do not fit into four
      have h5 := h2.2.2.2.2.2
      rw [cell_of_row X b' _ _ 34 _ hc] at h5
      have : ∃ j, o + k * 6 + 5 = j ∧ 5 ≤ j := ⟨_, rfl, by omega⟩
      obtain ⟨j, ej, hj⟩ := this
      rw [ej] at h5
      rw [Array.getElem?_eq_none (by simp; omega)] at h5
      cases h5
    have e := s.block b' (World.block_lt_of_cell? X _ h2.1) hne
    obtain ⟨q0, q1, q2, q3, q4, q5⟩ := h2
    exact ⟨(cell_at e).trans q0, (cell_at e).trans q1, (cell_at e).trans q2, (cell_at e).trans q3, (cell_at e).trans q4, (cell_at e).trans q5⟩⟩
theorem ro_st4 {X Z : World} {n0 c : Nat} {p : Option Addr} {l : List Int} (h : RO X p c l) (s : St (isB n0) X Z) (hp : ∀ b o, p = some ⟨b, o, none⟩ → b ≠ n0) : RO Z p c l :=
  ⟨h.nl, h.le, fun k hk => by
    obtain ⟨b', o, h1, h2⟩ := h.get k hk
    have e := s.block b' (World.block_lt_of_cell? X _ h2) (fun e => hp b' o h1 e)
    exact ⟨b', o, h1, (cell_at e).trans h2⟩⟩
theorem chk_err {W R : Int} {ins : List I6} {out : List Int} (h : chkE W R ins out ≠ 0) : (chkE W R ins out != 0) = true := by simpa using h
theorem firstK_le (m R : Int) : ∀ (l : List I6) (j : Nat), j ≤ firstK m R j l ∧ firstK m R j l ≤ j + l.length
  | [], j => ⟨Nat.le_refl _, Nat.le_refl _⟩
  | i :: t, j => by
    unfold firstK
    split
    · have := firstK_le m R t (j + 1)
      simp; omega
    · simp
theorem chkK_bd (W R : Int) (ins : List I6) (out : List Int) (h : ins.length ≤ 1000000) : -1 ≤ chkK W R ins out ∧ chkK W R ins out ≤ 1000000 := by
  have := firstK_le (maskI W) R ins 0
  unfold chkK
  (repeat' split) <;> omega
set_option maxRecDepth 100000 in
set_option maxHeartbeats 4000000 in
theorem parse37 (s : ByteArray) (hs : s.size ≤ 100000) (w : World) (ht : Tb w) : Calls Tryz.prog 37 #[.string s] w (RCP w (parseT (bl s))) := by
  have k0 := bk_alloc (BK.refl w) (.cells #[.int .i64 0, .int .i64 0, .slice none 0 0, .slice none 0 0] 34)
  have B0 : C4 (w.alloc (.cells #[.int .i64 0, .int .i64 0, .slice none 0 0, .slice none 0 0] 34)) w.heap.size 0 0 (.slice none 0 0) (.slice none 0 0) := heap_alloc_new w (.cells #[.int .i64 0, .int .i64 0, .slice none 0 0, .slice none 0 0] 34)
  by_cases h : 65536 < s.size
  · have HV := Lib.hid (parseT_long h)
    have hi : (65536 : Int) < (s.size : Int) := by omega
    go_enter Tryz.func37, Tryz.ntmps37
    go_upto_region 1 with (fail)
    generalize w.alloc (.cells #[.int .i64 0, .int .i64 0, .slice none 0 0, .slice none 0 0] 34) = w0 at k0 B0 ⊢
    obtain ⟨c0, c1, c2, c3⟩ := B0.b4
    have f0 := B0.fr 0
    have f1 := B0.fr 1
    have f2 := B0.fr 2
    have f3 := B0.fr 3
    have E := Lib.hid (cod_all B0 k0 (Nat.le_refl _) 0 0 (.slice none 0 0) (.slice none 0 0))
    unfold cod at E
    clear h B0 k0
    go_wp2_with fail
    generalize hZ : World.setCell _ ⟨w.heap.size, 3, none⟩ _ = Z at E ⊢
    clear hZ c0 c1 c2 c3 f0 f1 f2 f3
    obtain ⟨c0, c1, c2, c3⟩ := E.out.1.b4
    refine bodyPost_ret (v := .tuple #[.agg #[.int .i64 0, .int .i64 0, .slice none 0 0, .slice none 0 0], .int .i64 0, .int .i64 7]) (by simp [results, Tryz.results37, go_sem, c0, c1, c2, c3]) rfl ?_
    rw [HV.out]
    exact ⟨none, none, 0, 0, rfl, ri_nil _, ro_nil _, E.out.2.1⟩
  · have hi : ¬ (65536 : Int) < (s.size : Int) := by omega
    have h6 : s.size ≤ 65536 := by omega
    have HBAD := Lib.hid (fun n => parseT_bad h6 (n := n))
    have HOK := Lib.hid (fun W R ins out => parseT_ok h6 (W := W) (R := R) (ins := ins) (out := out))
    have H56 := Lib.hid (fun W (hT : Tb W) => read56 s hs W hT)
    have T0 := Lib.hid (ht.keep k0)
    clear h h6 ht
    go_enter Tryz.func37, Tryz.ntmps37
    go_upto_region 1 with (fail)
    generalize w.alloc (.cells #[.int .i64 0, .int .i64 0, .slice none 0 0, .slice none 0 0] 34) = w0 at k0 B0 T0 ⊢
    have HB0 := Lib.hid B0
    have K0 := Lib.hid k0
    clear B0 k0
    go_wp2_with fail
    have C := H56.out w0 T0.out
    refine C.mono ?_
    clear C
    rintro e w1 ⟨W, R, pi, po, ni, ci, no, co, line, rfl, b1, hcase⟩
    have HCASE := Lib.hid hcase
    have KB := Lib.hid (bk_alloc b1 (.cells #[.int .i64 W, .int .i64 R, .slice pi ni ci, .slice po no co] 34))
    have HB1 := Lib.hid (HB0.out.keep KB.out)
    have N1 := Lib.hid (show C4 (w1.alloc (.cells #[.int .i64 W, .int .i64 R, .slice pi ni ci, .slice po no co] 34)) w1.heap.size W R (.slice pi ni ci) (.slice po no co) from heap_alloc_new w1 _)
    have K1 := Lib.hid (bk_tr K0.out KB.out)
    have KW := Lib.hid (bk_alloc (BK.refl w1) (.cells #[.int .i64 W, .int .i64 R, .slice pi ni ci, .slice po no co] 34))
    have WN := Lib.hid (show w.heap.size < w1.heap.size from by have := bk_size b1; have := (Array.getElem?_eq_some_iff.1 HB0.out).1; omega)
    clear hcase b1
    go_upto_region 4 with (fail)
    generalize w1.alloc (.cells #[.int .i64 W, .int .i64 R, .slice pi ni ci, .slice po no co] 34) = w2 at KB HB1 N1 K1 KW ⊢
    generalize w1.heap.size = b at N1 WN ⊢
    rcases HCASE.out with ⟨n, hp, rfl, hn⟩ | ⟨ins, out, hp, rfl, rfl, rfl, hi1, ho1, li, lo, hge⟩
    · have HV := Lib.hid (HBAD.out _ hp)
      have hnz : (0 : Int) < (line : Int) := by omega
      obtain ⟨c0, c1, c2, c3⟩ := HB1.out.b4
      have f0 := HB1.out.fr 0
      have f1 := HB1.out.fr 1
      have f2 := HB1.out.fr 2
      have f3 := HB1.out.fr 3
      have E := Lib.hid (cod_all HB1.out K1.out (Nat.le_refl _) 0 0 (.slice none 0 0) (.slice none 0 0))
      unfold cod at E
      clear hp hn
      go_wp2_with fail
      generalize hZ : World.setCell _ ⟨w.heap.size, 3, none⟩ _ = Z at E ⊢
      clear hZ c0 c1 c2 c3 f0 f1 f2 f3
      obtain ⟨c0, c1, c2, c3⟩ := E.out.1.b4
      refine bodyPost_ret (v := .tuple #[.agg #[.int .i64 0, .int .i64 0, .slice none 0 0, .slice none 0 0], .int .i64 (line : Int), .int .i64 6]) (by simp [results, Tryz.results37, go_sem, c0, c1, c2, c3]) rfl ?_
      rw [HV.out]
      exact ⟨none, none, 0, 0, rfl, ri_nil _, ro_nil _, E.out.2.1⟩
    · have HV := Lib.hid (HOK.out _ _ _ _ hp)
      have HGE := Lib.hid (show ∀ b o, po = some ⟨b, o, none⟩ → w.heap.size < b from fun b o e => by have := hge b o e; have := (Array.getElem?_eq_some_iff.1 HB0.out).1; omega)
      clear hge
      have HI1 := Lib.hid (hi1.keep KW.out)
      have HO1 := Lib.hid (ho1.keep KW.out)
      have hK := chkK_bd W R ins out (by omega)
      have C23 := Lib.hid (fun (W' : World) (hi : RI W' pi ci ins) (ho : RO W' po co out) => chk53 W R pi po ci co ins out W' hi ho (by omega) (by omega))
      obtain ⟨c0, c1, c2, c3⟩ := N1.out.b4
      clear hp hi1 ho1 li lo
      generalize chkK W R ins out = k at HV C23 hK
      have hk0 := hK.1
      have hk1 := hK.2
      clear hK
      by_cases hx : chkE W R ins out = 0
      · have HV2 := Lib.hid (HV.out.trans (if_pos hx))
        rw [hx] at C23
        clear hx
        go_wp2_with fail
        have C := C23.out w2 HI1.out HO1.out
        refine C.mono ?_
        clear C
        rintro e w3 ⟨rfl, b3⟩
        have K3 := Lib.hid (bk_tr K1.out b3)
        have HB3 := Lib.hid (HB1.out.keep b3)
        have N3 := Lib.hid (N1.out.keep b3)
        have HI3 := Lib.hid (HI1.out.keep b3)
        have HO3 := Lib.hid (HO1.out.keep b3)
        clear b3 c0 c1 c2 c3
        obtain ⟨c0, c1, c2, c3⟩ := N3.out.b4
        obtain ⟨d0, d1, d2, d3⟩ := HB3.out.b4
        have f0 := HB3.out.fr 0
        have f1 := HB3.out.fr 1
        have f2 := HB3.out.fr 2
        have f3 := HB3.out.fr 3
        have E := Lib.hid (cod_all HB3.out K3.out (Nat.le_refl _) W R (.slice pi ins.length ci) (.slice po out.length co))
        unfold cod at E
        go_wp2_with fail
        generalize hZ : World.setCell _ ⟨w.heap.size, 3, none⟩ _ = Z at E ⊢
        clear hZ c0 c1 c2 c3 d0 d1 d2 d3 f0 f1 f2 f3
        obtain ⟨c0, c1, c2, c3⟩ := E.out.1.b4
        refine bodyPost_ret (v := .tuple #[.agg #[.int .i64 W, .int .i64 R, .slice pi ins.length ci, .slice po out.length co], .int .i64 0, .int .i64 0]) (by simp [results, Tryz.results37, go_sem, c0, c1, c2, c3]) rfl ?_
        rw [HV2.out]
        exact ⟨pi, po, ci, co, rfl, ri_st4 HI3.out E.out.2.2 HB3.out, ro_st4 HO3.out E.out.2.2 (fun b o e => by have := HGE.out b o e; omega), E.out.2.1⟩
      · have HV2 := Lib.hid (HV.out.trans (if_neg hx))
        have hne := chk_err hx
        clear hx
        generalize chkE W R ins out = x at C23 HV2 hne
        go_wp2_with fail
        have C := C23.out w2 HI1.out HO1.out
        refine C.mono ?_
        clear C
        rintro e w3 ⟨rfl, b3⟩
        have K3 := Lib.hid (bk_tr K1.out b3)
        have HB3 := Lib.hid (HB1.out.keep b3)
        clear b3 c0 c1 c2 c3
        obtain ⟨d0, d1, d2, d3⟩ := HB3.out.b4
        have f0 := HB3.out.fr 0
        have f1 := HB3.out.fr 1
        have f2 := HB3.out.fr 2
        have f3 := HB3.out.fr 3
        have E := Lib.hid (cod_all HB3.out K3.out (Nat.le_refl _) 0 0 (.slice none 0 0) (.slice none 0 0))
        unfold cod at E
        go_wp2_with fail
        generalize hZ : World.setCell _ ⟨w.heap.size, 3, none⟩ _ = Z at E ⊢
        clear hZ d0 d1 d2 d3 f0 f1 f2 f3
        obtain ⟨c0, c1, c2, c3⟩ := E.out.1.b4
        refine bodyPost_ret (v := .tuple #[.agg #[.int .i64 0, .int .i64 0, .slice none 0 0, .slice none 0 0], .int .i64 (k + 2), .int .i64 x]) (by simp [results, Tryz.results37, go_sem, c0, c1, c2, c3]) rfl ?_
        rw [HV2.out]
        exact ⟨none, none, 0, 0, rfl, ri_nil _, ro_nil _, E.out.2.1⟩
end Go.Proofs.YtneidfbgdgegjaaGreatDoor
