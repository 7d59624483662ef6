/- Before an instruction. -/
import Derived.Test.YtjmmaaphadeokaaN
import Derived.Test.YtjmmaaphadeokaaD
namespace Go.Proofs.Ytjmmaaphadeokaa
open Go.RowKit
set_option linter.unusedVariables false
set_option linter.unusedSimpArgs false
/-- the registers before an instruction, k of its sources seen -/
def bfL (i : I6) (s : List Bool) (k : Nat) : List Bool := (List.range 8).map (fun r : Nat => hasB ((usesL i).take k) r || (!defB i r && s.getD r false))
theorem bfL_len (i : I6) (s : List Bool) (k : Nat) : (bfL i s k).length = 8 := by simp [bfL]
theorem list8 (s : List Bool) (h : s.length = 8) : s = (List.range 8).map (fun r => s.getD r false) := by
  apply List.ext_getElem
  · simp [h]
  · intro j h1 h2
    simp [h1]
theorem bfL_no (i : I6) (s : List Bool) (h : s.length = 8) (hd : dfB i.op = false) : s = bfL i s 0 := by
  refine (list8 s h).trans ?_
  unfold bfL
  refine map8 _ _ fun r hr => ?_
  have h1 : hasB ((usesL i).take 0) (r : Int) = false := rfl
  have h2 : defB i (r : Int) = false := by unfold defB; rw [hd]; rfl
  rw [h1, h2]; rfl
theorem bfL_yes (i : I6) (s : List Bool) (h : s.length = 8) (hd : dfB i.op = true) (a : Nat) (ha : i.dst = a) (h8 : a < 8) : s.set a false = bfL i s 0 := by
  conv => lhs; rw [list8 s h]
  rw [set8 _ _ _ h8]
  unfold bfL
  refine map8 _ _ fun r hr => ?_
  have h1 : hasB ((usesL i).take 0) (r : Int) = false := rfl
  rw [h1]
  by_cases e : r = a
  · subst e
    have h2 : defB i (r : Int) = true := by unfold defB; rw [hd, ha]; simp
    rw [h2]; simp
  · have h2 : defB i (r : Int) = false := by unfold defB; rw [hd, ha]; simp; omega
    rw [h2, if_neg e]; rfl
theorem bfL_succ (i : I6) (s : List Bool) (k : Nat) (hk : k < (usesL i).length) (a : Nat) (ha : (usesL i)[k] = a) (h8 : a < 8) : (bfL i s k).set a true = bfL i s (k + 1) := by
  unfold bfL
  rw [set8 _ _ _ h8]
  refine map8 _ _ fun r hr => ?_
  rw [List.take_succ_eq_append_getElem hk, ha]
  have h1 : hasB ((usesL i).take k ++ [(a : Int)]) r = (hasB ((usesL i).take k) r || decide (r = a)) := by
    rw [Bool.eq_iff_iff]
    simp only [Bool.or_eq_true, hasB_mem, List.mem_append, List.mem_singleton, decide_eq_true_eq]
    constructor
    · rintro (h | h)
      · exact .inl h
      · exact .inr (by omega)
    · rintro (h | h)
      · exact .inl h
      · exact .inr (by omega)
  rw [h1]
  by_cases e : r = a
  · subst e; simp
  · rw [if_neg e]; simp [e]
def lvL (t : List I6) (out : List Int) : List Bool := (List.range 8).map (fun r : Nat => usedB t out r)
theorem lvL_len (t : List I6) (out : List Int) : (lvL t out).length = 8 := by simp [lvL]
theorem lvL_nil (out : List Int) : hvL out = lvL [] out := rfl
theorem lvL_get (t : List I6) (out : List Int) (r : Nat) (h : r < 8) : (lvL t out).getD r false = usedB t out r := by
  unfold lvL; simp [h]
theorem lvL_cons (i : I6) (t : List I6) (out : List Int) : bfL i (lvL t out) (usesL i).length = lvL (i :: t) out := by
  unfold bfL
  conv => rhs; unfold lvL
  refine map8 _ _ fun r hr => ?_
  rw [List.take_length, lvL_get t out r hr]
  rfl
/-- an instruction whose registers are below 8 -/
def RegOk (i : I6) : Prop := (∀ r ∈ usesL i, 0 ≤ r ∧ r < 8) ∧ (dfB i.op = true → 0 ≤ i.dst ∧ i.dst < 8)
structure BX4 (w w0 : World) (i : I6) (s : List Bool) : Prop where
  i : X6 w0 w.heap.size i
  r : SH w0 (w.heap.size + 2) (hvL [])
  l : SH w0 (w.heap.size + 3) s
  k : BK w w0
theorem size_lt4 {w w0 : World} {i : I6} {s : List Bool} (h : BX4 w w0 i s) : w.heap.size + 3 < w0.heap.size := h.l.lt
def LvPost (w : World) (s : List Bool) (e : Ending) (w' : World) : Prop := e = .returned (.agg (ba s)) ∧ BK w w'
theorem RO.other {w : World} {p : Option Addr} {c : Nat} {l : List Int} (h : RO w p c l) (x : Addr) (u : Value) (hp : ∀ b o, p = some ⟨b, o, none⟩ → b ≠ x.block) : RO (w.setCell x u) p c l :=
  ⟨h.nl, h.le, fun k hk => by
    obtain ⟨b, o, h1, h2⟩ := h.get k hk
    exact ⟨b, o, h1, (World.cell?_of_block (a := ⟨b, o + k, none⟩) (Below.heap_setCell w x u b (hp b o h1))).trans h2⟩⟩
set_option maxRecDepth 100000 in
set_option maxHeartbeats 1000000 in
theorem before39_yes (i : I6) (s : List Bool) (w : World) (hs : s.length = 8) (hr : RegOk i) (hd : dfB i.op = true) :
    Calls Try.prog 39 #[.agg #[.int .i64 i.op, .int .i64 i.dst, .int .i64 i.a, .int .i64 i.b, .int .i64 i.c, .int .u64 i.imm], .agg (ba s)] w (LvPost w (bfL i s (usesL i).length)) := by
  have a1 := (SH.new (w.alloc (.cells #[.int .i64 i.op, .int .i64 i.dst, .int .i64 i.a, .int .i64 i.b, .int .i64 i.c, .int .u64 i.imm] 54)) s).old (.cells (ba (hvL [])) 58)
  rw [sz1] at a1
  have a2 := SH.new ((w.alloc (.cells #[.int .i64 i.op, .int .i64 i.dst, .int .i64 i.a, .int .i64 i.b, .int .i64 i.c, .int .u64 i.imm] 54)).alloc (.cells (ba s) 58)) (hvL [])
  rw [sz1, sz1] at a2
  have x6 := (x6_new w i 54).keep (bk_alloc (bk_alloc (BK.refl _) (.cells (ba s) 58)) (.cells (ba (hvL [])) 58))
  have k0 := bk_alloc (bk_alloc (bk_alloc (BK.refl w) (.cells #[.int .i64 i.op, .int .i64 i.dst, .int .i64 i.a, .int .i64 i.b, .int .i64 i.c, .int .u64 i.imm] 54)) (.cells (ba s) 58)) (.cells (ba (hvL [])) 58)
  have sz : (((w.alloc (.cells #[.int .i64 i.op, .int .i64 i.dst, .int .i64 i.a, .int .i64 i.b, .int .i64 i.c, .int .u64 i.imm] 54)).alloc (.cells (ba s) 58)).alloc (.cells (ba (hvL [])) 58)).heap.size = w.heap.size + 3 := by simp
  have HRO := Lib.hid hr
  have hlen : (ba s).size = 8 := by rw [ba_size, hs]
  obtain ⟨d0, d8⟩ := hr.2 hd
  obtain ⟨a, ha⟩ : ∃ a : Nat, i.dst = a := ⟨i.dst.toNat, by omega⟩
  have ha8 : a < 8 := by omega
  have hi0 : (0 : Int) ≤ a := by omega
  have hi1 : (a : Int) < 8 := by omega
  have HB := Lib.hid (bfL_yes i s hs hd a ha ha8)
  have HD := Lib.hid (fun wc : World => (def45 i wc).mono (R' := fun e w' => e = .returned (.tuple #[.int .i64 (a : Int), .bool true]) ∧ BK wc w') fun e w' ⟨h1, h2⟩ => ⟨by rw [h1, hd, show defV i = a from by unfold defV; rw [if_pos hd, ha]], h2⟩)
  clear hd ha d0 d8
  go_enter Try.func39, Try.ntmps39
  go_upto_region 1 with (fail)
  rw [← zeros58]
  generalize ((w.alloc (.cells #[.int .i64 i.op, .int .i64 i.dst, .int .i64 i.a, .int .i64 i.b, .int .i64 i.c, .int .u64 i.imm] 54)).alloc (.cells (ba s) 58)).alloc (.cells (ba (hvL [])) 58) = w1 at a1 a2 x6 k0 sz ⊢
  have A1 := Lib.hid a1
  have A2 := Lib.hid a2
  have HS := Lib.hid hs
  have HL := Lib.hid hlen
  have SZ := Lib.hid sz
  clear hs hlen sz
  refine wp_region_lit ?_
  refine wpList_load_row rfl 58 _ rfl (w.heap.size + 1) rfl 58 (ba s) (0, 0) _ A1.out Try.underlying58 rfl (by rw [HL.out]; kernel_rfl) ?_
  go_upto_region 2 with (refine wpList_store_row rfl 58 _ _ rfl w1.heap.size (ba s) rfl rfl 58 _ (heap_alloc_last _ _) (by rw [HL.out]; kernel_rfl) (by rw [HL.out]; rfl) (ba_one _) ?_; rw [World.setRow_alloc_new])
  have bx : BX4 w (w1.alloc (.cells (ba s) 58)) i s := ⟨x6.keep (bk_alloc (BK.refl _) _), a2.old _, by have := SH.new w1 s; rw [SZ.out] at this; exact this, bk_alloc k0 _⟩
  rw [SZ.out]
  generalize w1.alloc (.cells (ba s) 58) = w2 at bx ⊢
  have X := Lib.hid bx.i
  have KW := Lib.hid bx.k
  have R2 := Lib.hid bx.r
  have L2 := Lib.hid bx.l
  obtain ⟨y0, y1, y2, y3, y4, y5⟩ := bx.i
  clear bx a1 a2 x6 k0 A1 A2
  go_wp2_with fail
  refine (HD.out _).mono ?_
  rintro e w3 ⟨rfl, hb3⟩
  have L3 := L2.out.keep hb3
  have e1 := L3.cell a (by rw [HS.out]; exact ha8)
  have f1 := L3.frozen a
  have b4 : BX4 w (w3.setCell ⟨w.heap.size + 3, a, none⟩ (.bool false)) i (bfL i s 0) := ⟨(X.out.keep hb3).other _ _ (by show w.heap.size ≠ w.heap.size + 3; omega), (R2.out.keep hb3).other _ _ (by show w.heap.size + 2 ≠ w.heap.size + 3; omega), by have := L3.set a false; rw [HB.out] at this; exact this, bk_set (bk_tr KW.out hb3) _ _ (by show w.heap.size ≤ w.heap.size + 3; omega)⟩
  have B4' := Lib.hid b4
  clear b4 L3 hb3 X KW R2 L2 y0 y1 y2 y3 y4 y5
  generalize s[a]'(by rw [HS.out]; exact ha8) = z at e1
  go_upto_region 5 with (fail)
  have b4 := B4'.out
  clear e1 f1 B4'
  generalize w3.setCell ⟨w.heap.size + 3, a, none⟩ (.bool false) = w4 at b4 ⊢
  have X := Lib.hid b4.i
  have KW := Lib.hid b4.k
  have R2 := Lib.hid b4.r
  have L2 := Lib.hid b4.l
  obtain ⟨y0, y1, y2, y3, y4, y5⟩ := b4.i
  clear b4
  go_wp2_with fail
  refine (uses58 i w4).mono ?_
  rintro e w5 ⟨p, c, rfl, hu, hb5⟩
  have K5 := Lib.hid (bk_tr KW.out hb5)
  have R5 := Lib.hid (R2.out.keep hb5)
  have L5 := Lib.hid (L2.out.keep hb5)
  have HU := Lib.hid hu
  have hul := usesL_len i
  clear hu hb5 y0 y1 y2 y3 y4 y5
  go_wp2_with fail
  go_loopw [22] (fun j wr => ∃ k : Nat, k ≤ (usesL i).length ∧ j = .int .i64 k ∧ SH wr (w.heap.size + 2) (hvL []) ∧ SH wr (w.heap.size + 3) (bfL i s k) ∧ RO wr p c (usesL i) ∧ BK w wr) (fun j _ => (usesL i).length - (intOf j).toNat)
  case atStart => exact ⟨0, Nat.zero_le _, rfl, R5.out, L5.out, HU.out, K5.out⟩
  case round =>
    obtain ⟨k, hk, rfl, s0, s1, hro, hkw⟩ := hrel
    have S0 := Lib.hid s0
    have S1 := Lib.hid s1
    have HRU := Lib.hid hro
    have HKW := Lib.hid hkw
    by_cases hlt : k < (usesL i).length
    · obtain ⟨b, o, rfl, hc⟩ := hro.get k hlt
      have hbn : b ≠ w.heap.size + 3 := by
        intro e; subst e
        have h1 := cell_of_row wr _ (o + k) _ _ _ s1
        rw [hc] at h1
        by_cases h8 : o + k < (bfL i s k).length
        · rw [ba_get _ _ h8] at h1; cases h1
        · rw [show (ba (bfL i s k))[o + k]? = none from by rw [Array.getElem?_eq_none]; rw [ba_size]; omega] at h1; cases h1
      have hy := HRO.out.1 (usesL i)[k] (List.getElem_mem hlt)
      have hsn := fun (a : Nat) (ha : (usesL i)[k] = a) h8 => bfL_succ i s k hlt a ha h8
      clear s0 s1 hro hkw
      generalize (usesL i)[k] = y at hc hy hsn
      obtain ⟨a, rfl⟩ : ∃ a : Nat, y = a := ⟨y.toNat, by omega⟩
      have ha8 : a < 8 := by omega
      have HS := Lib.hid (S1.out.set a true)
      rw [hsn a rfl ha8] at HS
      have e1 := S1.out.cell a (by rw [bfL_len]; exact ha8)
      have f1 := S1.out.frozen a
      have hi0 : (0 : Int) ≤ a := by omega
      have hi1 : (a : Int) < 8 := by omega
      have HBN := Lib.hid hbn
      clear hsn hy hbn
      generalize (bfL i s k)[a]'(by rw [bfL_len]; exact ha8) = z at e1
      go_wp2_with fail
      go_roundw
      case rel =>
        refine ⟨k + 1, by omega, by go_num, S0.out.other _ _ (by show w.heap.size + 2 ≠ w.heap.size + 3; omega), HS.out, ?_, bk_set HKW.out _ _ (by show w.heap.size ≤ w.heap.size + 3; omega)⟩
        exact HRU.out.other _ _ (fun b' o' e => by simp only [Option.some.injEq, Addr.mk.injEq, and_true] at e; rw [← e.1]; exact HBN.out)
      case measure => simp [intOf]; omega
    · obtain rfl : k = (usesL i).length := by omega
      have HSR := Lib.hid (S0.out.row (s' := bfL i s (usesL i).length))
      clear s0 s1 hro hkw
      go_upto_region 10 with (fail)
      refine wp_region_lit ?_
      refine wpList_load_row rfl 58 _ rfl (w.heap.size + 3) rfl 58 (ba (bfL i s (usesL i).length)) (0, 0) _ S1.out Try.underlying58 rfl (by rw [ba_size, bfL_len]; kernel_rfl) ?_
      refine wpList_store_row rfl 58 _ _ rfl (w.heap.size + 2) (ba (bfL i s (usesL i).length)) rfl rfl 58 (ba (hvL [])) S0.out (by rw [ba_size, bfL_len]; kernel_rfl) (by rw [ba_size, ba_size, hvL_len, bfL_len]) (ba_one _) ?_
      go_wp2_with fail
      exact bodyPost_ret (v := .agg (ba (bfL i s (usesL i).length))) (results_cell_row Try.results39 _ _ (w.heap.size + 2) 58 (ba (bfL i s (usesL i).length)) (0, 0) _ rfl HSR.out Try.underlying58 rfl (by rw [ba_size, bfL_len]; kernel_rfl)) rfl ⟨rfl, below_setRow (show Below w.heap.size w wr from HKW.out) (by omega) _⟩
set_option maxRecDepth 100000 in
set_option maxHeartbeats 1000000 in
theorem before39_no (i : I6) (s : List Bool) (w : World) (hs : s.length = 8) (hr : RegOk i) (hd : dfB i.op = false) :
    Calls Try.prog 39 #[.agg #[.int .i64 i.op, .int .i64 i.dst, .int .i64 i.a, .int .i64 i.b, .int .i64 i.c, .int .u64 i.imm], .agg (ba s)] w (LvPost w (bfL i s (usesL i).length)) := by
  have a1 := (SH.new (w.alloc (.cells #[.int .i64 i.op, .int .i64 i.dst, .int .i64 i.a, .int .i64 i.b, .int .i64 i.c, .int .u64 i.imm] 54)) s).old (.cells (ba (hvL [])) 58)
  rw [sz1] at a1
  have a2 := SH.new ((w.alloc (.cells #[.int .i64 i.op, .int .i64 i.dst, .int .i64 i.a, .int .i64 i.b, .int .i64 i.c, .int .u64 i.imm] 54)).alloc (.cells (ba s) 58)) (hvL [])
  rw [sz1, sz1] at a2
  have x6 := (x6_new w i 54).keep (bk_alloc (bk_alloc (BK.refl _) (.cells (ba s) 58)) (.cells (ba (hvL [])) 58))
  have k0 := bk_alloc (bk_alloc (bk_alloc (BK.refl w) (.cells #[.int .i64 i.op, .int .i64 i.dst, .int .i64 i.a, .int .i64 i.b, .int .i64 i.c, .int .u64 i.imm] 54)) (.cells (ba s) 58)) (.cells (ba (hvL [])) 58)
  have sz : (((w.alloc (.cells #[.int .i64 i.op, .int .i64 i.dst, .int .i64 i.a, .int .i64 i.b, .int .i64 i.c, .int .u64 i.imm] 54)).alloc (.cells (ba s) 58)).alloc (.cells (ba (hvL [])) 58)).heap.size = w.heap.size + 3 := by simp
  have HRO := Lib.hid hr
  have hlen : (ba s).size = 8 := by rw [ba_size, hs]
  have HB := Lib.hid (bfL_no i s hs hd)
  have HD := Lib.hid (fun wc : World => (def45 i wc).mono (R' := fun e w' => e = .returned (.tuple #[.int .i64 0, .bool false]) ∧ BK wc w') fun e w' ⟨h1, h2⟩ => ⟨by rw [h1, hd, show defV i = 0 from by unfold defV; rw [hd]; rfl], h2⟩)
  clear hd
  go_enter Try.func39, Try.ntmps39
  go_upto_region 1 with (fail)
  rw [← zeros58]
  generalize ((w.alloc (.cells #[.int .i64 i.op, .int .i64 i.dst, .int .i64 i.a, .int .i64 i.b, .int .i64 i.c, .int .u64 i.imm] 54)).alloc (.cells (ba s) 58)).alloc (.cells (ba (hvL [])) 58) = w1 at a1 a2 x6 k0 sz ⊢
  have A1 := Lib.hid a1
  have A2 := Lib.hid a2
  have HS := Lib.hid hs
  have HL := Lib.hid hlen
  have SZ := Lib.hid sz
  clear hs hlen sz
  refine wp_region_lit ?_
  refine wpList_load_row rfl 58 _ rfl (w.heap.size + 1) rfl 58 (ba s) (0, 0) _ A1.out Try.underlying58 rfl (by rw [HL.out]; kernel_rfl) ?_
  go_upto_region 2 with (refine wpList_store_row rfl 58 _ _ rfl w1.heap.size (ba s) rfl rfl 58 _ (heap_alloc_last _ _) (by rw [HL.out]; kernel_rfl) (by rw [HL.out]; rfl) (ba_one _) ?_; rw [World.setRow_alloc_new])
  have bx : BX4 w (w1.alloc (.cells (ba s) 58)) i s := ⟨x6.keep (bk_alloc (BK.refl _) _), a2.old _, by have := SH.new w1 s; rw [SZ.out] at this; exact this, bk_alloc k0 _⟩
  rw [SZ.out]
  generalize w1.alloc (.cells (ba s) 58) = w2 at bx ⊢
  have X := Lib.hid bx.i
  have KW := Lib.hid bx.k
  have R2 := Lib.hid bx.r
  have L2 := Lib.hid bx.l
  obtain ⟨y0, y1, y2, y3, y4, y5⟩ := bx.i
  clear bx a1 a2 x6 k0 A1 A2
  go_wp2_with fail
  refine (HD.out _).mono ?_
  rintro e w3 ⟨rfl, hb3⟩
  have b4 : BX4 w w3 i (bfL i s 0) := ⟨X.out.keep hb3, R2.out.keep hb3, by have := L2.out.keep hb3; rw [HB.out] at this; exact this, bk_tr KW.out hb3⟩
  have B4' := Lib.hid b4
  clear b4 hb3 X KW R2 L2 y0 y1 y2 y3 y4 y5
  go_upto_region 5 with (fail)
  have b4 := B4'.out
  clear B4'
  generalize w3 = w4 at b4 ⊢
  have X := Lib.hid b4.i
  have KW := Lib.hid b4.k
  have R2 := Lib.hid b4.r
  have L2 := Lib.hid b4.l
  obtain ⟨y0, y1, y2, y3, y4, y5⟩ := b4.i
  clear b4
  go_wp2_with fail
  refine (uses58 i w4).mono ?_
  rintro e w5 ⟨p, c, rfl, hu, hb5⟩
  have K5 := Lib.hid (bk_tr KW.out hb5)
  have R5 := Lib.hid (R2.out.keep hb5)
  have L5 := Lib.hid (L2.out.keep hb5)
  have HU := Lib.hid hu
  have hul := usesL_len i
  clear hu hb5 y0 y1 y2 y3 y4 y5
  go_wp2_with fail
  go_loopw [22] (fun j wr => ∃ k : Nat, k ≤ (usesL i).length ∧ j = .int .i64 k ∧ SH wr (w.heap.size + 2) (hvL []) ∧ SH wr (w.heap.size + 3) (bfL i s k) ∧ RO wr p c (usesL i) ∧ BK w wr) (fun j _ => (usesL i).length - (intOf j).toNat)
  case atStart => exact ⟨0, Nat.zero_le _, rfl, R5.out, L5.out, HU.out, K5.out⟩
  case round =>
    obtain ⟨k, hk, rfl, s0, s1, hro, hkw⟩ := hrel
    have S0 := Lib.hid s0
    have S1 := Lib.hid s1
    have HRU := Lib.hid hro
    have HKW := Lib.hid hkw
    by_cases hlt : k < (usesL i).length
    · obtain ⟨b, o, rfl, hc⟩ := hro.get k hlt
      have hbn : b ≠ w.heap.size + 3 := by
        intro e; subst e
        have h1 := cell_of_row wr _ (o + k) _ _ _ s1
        rw [hc] at h1
        by_cases h8 : o + k < (bfL i s k).length
        · rw [ba_get _ _ h8] at h1; cases h1
        · rw [show (ba (bfL i s k))[o + k]? = none from by rw [Array.getElem?_eq_none]; rw [ba_size]; omega] at h1; cases h1
      have hy := HRO.out.1 (usesL i)[k] (List.getElem_mem hlt)
      have hsn := fun (a : Nat) (ha : (usesL i)[k] = a) h8 => bfL_succ i s k hlt a ha h8
      clear s0 s1 hro hkw
      generalize (usesL i)[k] = y at hc hy hsn
      obtain ⟨a, rfl⟩ : ∃ a : Nat, y = a := ⟨y.toNat, by omega⟩
      have ha8 : a < 8 := by omega
      have HS := Lib.hid (S1.out.set a true)
      rw [hsn a rfl ha8] at HS
      have e1 := S1.out.cell a (by rw [bfL_len]; exact ha8)
      have f1 := S1.out.frozen a
      have hi0 : (0 : Int) ≤ a := by omega
      have hi1 : (a : Int) < 8 := by omega
      have HBN := Lib.hid hbn
      clear hsn hy hbn
      generalize (bfL i s k)[a]'(by rw [bfL_len]; exact ha8) = z at e1
      go_wp2_with fail
      go_roundw
      case rel =>
        refine ⟨k + 1, by omega, by go_num, S0.out.other _ _ (by show w.heap.size + 2 ≠ w.heap.size + 3; omega), HS.out, ?_, bk_set HKW.out _ _ (by show w.heap.size ≤ w.heap.size + 3; omega)⟩
        exact HRU.out.other _ _ (fun b' o' e => by simp only [Option.some.injEq, Addr.mk.injEq, and_true] at e; rw [← e.1]; exact HBN.out)
      case measure => simp [intOf]; omega
    · obtain rfl : k = (usesL i).length := by omega
      have HSR := Lib.hid (S0.out.row (s' := bfL i s (usesL i).length))
      clear s0 s1 hro hkw
      go_upto_region 10 with (fail)
      refine wp_region_lit ?_
      refine wpList_load_row rfl 58 _ rfl (w.heap.size + 3) rfl 58 (ba (bfL i s (usesL i).length)) (0, 0) _ S1.out Try.underlying58 rfl (by rw [ba_size, bfL_len]; kernel_rfl) ?_
      refine wpList_store_row rfl 58 _ _ rfl (w.heap.size + 2) (ba (bfL i s (usesL i).length)) rfl rfl 58 (ba (hvL [])) S0.out (by rw [ba_size, bfL_len]; kernel_rfl) (by rw [ba_size, ba_size, hvL_len, bfL_len]) (ba_one _) ?_
      go_wp2_with fail
      exact bodyPost_ret (v := .agg (ba (bfL i s (usesL i).length))) (results_cell_row Try.results39 _ _ (w.heap.size + 2) 58 (ba (bfL i s (usesL i).length)) (0, 0) _ rfl HSR.out Try.underlying58 rfl (by rw [ba_size, bfL_len]; kernel_rfl)) rfl ⟨rfl, below_setRow (show Below w.heap.size w wr from HKW.out) (by omega) _⟩
theorem before39 (i : I6) (s : List Bool) (w : World) (hs : s.length = 8) (hr : RegOk i) :
    Calls Try.prog 39 #[.agg #[.int .i64 i.op, .int .i64 i.dst, .int .i64 i.a, .int .i64 i.b, .int .i64 i.c, .int .u64 i.imm], .agg (ba s)] w (LvPost w (bfL i s (usesL i).length)) := by
  cases hd : dfB i.op
  · exact before39_no i s w hs hr hd
  · exact before39_yes i s w hs hr hd
end Go.Proofs.Ytjmmaaphadeokaa
