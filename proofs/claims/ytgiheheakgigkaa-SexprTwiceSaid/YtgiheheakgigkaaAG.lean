/- The law Long. -/
import Derived.Test.YtgiheheakgigkaaAF
import Derived.Laws.MakeOwn
namespace Go.Proofs.Ytgiheheakgigkaa
open Go.RowKit
set_option linter.unusedVariables false
set_option linter.unusedSimpArgs false
theorem made_b (n : Nat) : madeCells (Value.int .u8 0).cells (n * 1) = (Lib.byteCells (List.replicate n 0)).toArray := by
  apply Array.ext
  · simp [madeCells, Lib.byteCells]
  · intro i h1 h2
    simp [madeCells, Value.cells, Nat.mod_one, Lib.byteCells]
theorem make42 (n : Nat) (h : n ≤ 100000) (w : World) : (Instr.makeSlice 42 (.int .i64 (n : Int)) (.int .i64 (n : Int))).run Try.prog w = .ok (.slice (some ⟨w.heap.size, 0, none⟩) n n) (w.alloc (.cells (Lib.byteCells (List.replicate n 0)).toArray 5)) := by
  obtain ⟨i0, hi, hz0, hz1, hz2⟩ := info_parts info5
  have hr := run_make (P := Try.prog) w 42 5 i0 (.int .u8 0) Try.underlying42 hi hz0 .i64 .i64 n n (by omega) (by omega) (by rw [hz2]; omega) (by omega)
  simp only [Int.toNat_natCast] at hr
  rw [hz1, made_b] at hr
  exact hr
theorem bc_set (L : List UInt8) (k : Nat) (c : UInt8) : (Lib.byteCells L).set k (.int .u8 (c.toNat : Int)) = Lib.byteCells (L.set k c) := by
  simp [Lib.byteCells, List.map_set]
/-- a row of bytes of the law's own -/
structure Rw (w : World) (wr : World) (m : Nat) (L : List UInt8) : Prop where
  own : wr.ownsRow w.heap.size 5 1 (.slice (some ⟨w.heap.size, 0, none⟩) m m) m (Lib.byteCells L)
  len : L.length = m
  bk : BK w wr
theorem Rw.c {w wr : World} {m k : Nat} {L : List UInt8} (h : Rw w wr m L) (hk : k < m) : wr.cell? ⟨w.heap.size, k, none⟩ = some (.int .u8 ((L[k]'(by rw [h.len]; exact hk)).toNat : Int)) := by
  rw [h.own.cellAt k (by omega)]
  simp [Lib.byteCells, h.len, hk]
theorem Rw.f {w wr : World} {m k : Nat} {L : List UInt8} (h : Rw w wr m L) : wr.frozen? ⟨w.heap.size, k, none⟩ = false := h.own.frozenAt k
theorem Rw.set {w wr : World} {m : Nat} {L : List UInt8} (h : Rw w wr m L) (k : Nat) (c : UInt8) : Rw w (wr.setCell ⟨w.heap.size, k, none⟩ (.int .u8 (c.toNat : Int))) m (L.set k c) :=
  ⟨by rw [← bc_set]; exact (h.own.stored k _).1, by rw [List.length_set]; exact h.len, bk_set h.bk _ _ (Nat.le_refl _)⟩
theorem Rw.new (w : World) (m : Nat) (hm : m ≤ 100000) : Rw w (w.alloc (.cells (Lib.byteCells (List.replicate m 0)).toArray 5)) m (List.replicate m 0) :=
  ⟨by have := World.ownsRow_lit (base := w.heap.size) (e := 5) (size := 1) w (Lib.byteCells (List.replicate m 0)).toArray m (Nat.le_refl _) (by unfold maxLen; omega) (by simp [Lib.byteCells]); simpa using this, by simp, bk_alloc (BK.refl w) _⟩
theorem Rw.conv {w wr : World} {m : Nat} {L : List UInt8} (h : Rw w wr m L) : (convert 42 9 (.slice (some ⟨w.heap.size, 0, none⟩) m m)).run Try.prog wr = .ok (.string ⟨L.toArray⟩) wr := by
  have := run_convert_bytes_back (P := Try.prog) wr 42 9 5 ⟨w.heap.size, 0, none⟩ m L Try.underlying42 Try.underlying5 Try.underlying9 (fun j hj => by
    rw [show (⟨w.heap.size, 0, none⟩ : Addr).add j = ⟨w.heap.size, 0 + j, none⟩ from Go.WideShapes.add_plain _ _ _, Nat.zero_add]
    exact h.c (k := j) (by rw [← h.len]; exact hj))
  rw [h.len] at this
  exact this
theorem Rw.keep {w wr wr' : World} {m : Nat} {L : List UInt8} (h : Rw w wr m L) (hb : BK wr wr') : Rw w wr' m L := ⟨own_below h.own hb, h.len, bk_tr h.bk hb⟩
theorem p11_long (s : ByteArray) (hs : 65536 < s.size) (hm : s.size ≤ maxLen) (w : World) : Calls Try.prog 11 #[.string s] w (ONE w (zeroT, 0, 7)) :=
  parse11_err s w 0 7 (by decide) (fun w => parse13_long s hs hm w)
set_option maxRecDepth 100000 in
set_option maxHeartbeats 4000000 in
theorem long9 (b : Nat) (hb : b < 256) (w : World) : Calls Try.prog 9 #[.int .u8 (b : Int)] w fun e w' => e = .returned (.bool true) ∧ BK w w' := by
  obtain ⟨m, hm⟩ : ∃ m, m = 65533 + b % 7 := ⟨_, rfl⟩
  have hm1 : 65533 ≤ m ∧ m ≤ 65539 := by omega
  have EM := Lib.hid (show 65533 + (b : Int) % 7 = (m : Int) from by omega)
  have MK := Lib.hid (fun w => make42 m (by omega) w)
  have HM := Lib.hid hm1
  have RN := Lib.hid (Rw.new w m (by omega))
  have hb7 : 0 ≤ (b : Int) % 7 ∧ (b : Int) % 7 < 7 := by omega
  clear hm hm1
  go_enter Try.func9, Try.ntmps9
  go_wp2_with fail
  rw [EM.out]
  have hm1 := HM.out
  rw [MK.out w]
  simp only [Result.andThen]
  rw [Oper.upon_value]
  go_wp2_with fail
  clear hb7
  go_loopw [5] (fun iv wr => ∃ (k : Nat) (L : List UInt8), k ≤ m ∧ iv = .int .i64 (k : Int) ∧ (∀ i, i < k → L[i]? = some 32) ∧ Rw w wr m L) (fun iv _ => m - (intOf iv).toNat)
  case atStart => exact ⟨0, _, Nat.zero_le _, rfl, fun i h => by omega, RN.out⟩
  case round =>
    obtain ⟨k, L, hk, rfl, h32, hrw⟩ := hrel
    have H32 := Lib.hid h32
    have RW := Lib.hid hrw
    clear h32 hrw
    by_cases e : k = m
    · have hd : decide (k < m) = false := by simp [e]
      subst e
      have c0 := RW.out.c (k := k - 1) (by omega)
      have f0 := RW.out.f (k := k - 1)
      have RZ := Lib.hid (show Rw w (wr.setCell ⟨w.heap.size, k - 1, none⟩ (.int .u8 97)) k (L.set (k - 1) 97) from RW.out.set (k - 1) 97)
      have hk1 : (k : Int) - 1 = ((k - 1 : Nat) : Int) := by omega
      have hlt : ((k - 1 : Nat) : Int) < (k : Int) := by omega
      have ew : IntKind.i64.wrap ((k : Int) - 1) = ((k - 1 : Nat) : Int) := by rw [IntWalk.i64_in _ (by omega)]; omega
      go_upto_region 8 with (fail)
      generalize wr.setCell ⟨w.heap.size, k - 1, none⟩ (.int .u8 97) = wz at *
      have hS : Sp ⟨(L.set (k - 1) 97).toArray⟩ (k - 1) := Sp.of _ _ (by rw [List.length_set, RW.out.len]; have := HM.out; omega)
        (fun i hi => by rw [List.getElem?_set_ne (by omega)]; exact H32.out i (by omega))
        (List.getElem?_set_self (by rw [RW.out.len]; have := HM.out; omega))
      have RZ2 := Lib.hid (show Rw w wz k (L.set (k - 1) 97) from RZ.out)
      have cv := RZ2.out.conv
      have hsz : (⟨(L.set (k - 1) 97).toArray⟩ : ByteArray).size = k := by rw [hS.size]; have := HM.out; omega
      have CV := Lib.hid (fun wx hb => (RZ2.out.keep (wr' := wx) hb).conv)
      have LV := Lib.hid live10
      have KZ := Lib.hid RZ2.out.bk
      generalize (⟨(L.set (k - 1) 97).toArray⟩ : ByteArray) = s at *
      clear c0 f0 hk1 hlt ew RZ RW H32 RZ2 RN MK EM hm1
      by_cases hk6 : k ≤ 65536
      · have C11 := Lib.hid (show Calls Try.prog 11 #[.string s] wz (fun e w' => (∃ p c, e = .returned (.tuple #[.agg #[.string ⟨#[97]⟩, .slice p 0 c], .int .i64 0, .int .i64 0])) ∧ BK wz w') from by
          have := p11 s (by omega) wz; rw [sp_one hS] at this; exact this.mono fun e w' ⟨⟨p, c, h1, _⟩, h2⟩ => ⟨⟨p, c, h1⟩, h2⟩)
        have C13 := Lib.hid (fun wx => show Calls Try.prog 13 #[.string s] wx (fun e w' => (∃ p c, e = .returned (.tuple #[.slice p 1 c, .int .i64 0, .int .i64 0]) ∧ RowD (mem wx.heap.size w') w' p c [lf ⟨#[97]⟩]) ∧ BK wx w') from by
          have := parse13 s (by omega) wx; rw [sp_all hS] at this; exact this)
        have hki : ¬ (65536 : Int) < (k : Int) := by omega
        clear hS hsz hk6
        go_wp2_with fail
        refine C11.out.mono ?_
        rintro e w2 ⟨⟨p, c, rfl⟩, hb2⟩
        have KB := Lib.hid (bk_alloc (BK.refl w2) (.cells #[.string ⟨#[97]⟩, .slice p 0 c] 25))
        have NB := Lib.hid (heap_alloc_new w2 (.cells #[.string ⟨#[97]⟩, .slice p 0 c] 25))
        have K2 := Lib.hid hb2
        have cv2 := CV.out _ (bk_tr hb2 KB.out)
        clear hb2 cv
        go_wp2_with fail
        refine (C13.out _).mono ?_
        rintro e w3 ⟨⟨p4, c4, rfl, hr⟩, hb3⟩
        have K3 := Lib.hid hb3
        have N3 := Lib.hid ((bk_block hb3 (Array.getElem?_eq_some_iff.1 NB.out).1).trans NB.out)
        obtain ⟨b', o, a, us, q, d, rfl, -, he, z0, -, -⟩ := hr.get (k := 0) (by simp)
        have ha : a = ⟨#[97]⟩ := by
          have : lf ⟨#[97]⟩ = T.mk a us := he
          unfold lf at this
          injection this with h1 h2
          exact h1.symm
        subst ha
        simp only [Nat.zero_mul, Nat.add_zero] at z0
        have x0 := cell_of_row w3 w2.heap.size 0 _ 25 (0, 0) N3.out
        have C10 := Lib.hid (LV.out w3)
        clear he hr hb3 cv2
        go_wp2_with fail
        refine C10.out.mono ?_
        rintro e w5 ⟨rfl, hb5⟩
        have K5 := Lib.hid hb5
        clear hb5
        go_wp2_with fail
        go_ret
        exact ⟨rfl, bk_tr KZ.out (bk_tr K2.out (bk_tr KB.out (bk_tr K3.out K5.out)))⟩
      · have C11 := Lib.hid (show Calls Try.prog 11 #[.string s] wz (fun e w' => (∃ p c, e = .returned (.tuple #[.agg #[.string ⟨#[]⟩, .slice p 0 c], .int .i64 0, .int .i64 7])) ∧ BK wz w') from
          (p11_long s (by omega) (by rw [hsz]; have := HM.out; unfold maxLen; omega) wz).mono fun e w' ⟨⟨p, c, h1, _⟩, h2⟩ => ⟨⟨p, c, h1⟩, h2⟩)
        have C13 := Lib.hid (fun wx => show Calls Try.prog 13 #[.string s] wx (fun e w' => e = .returned (.tuple #[.slice none 0 0, .int .i64 0, .int .i64 7]) ∧ BK wx w') from parse13_long s (by omega) (by rw [hsz]; have := HM.out; unfold maxLen; omega) wx)
        have hki : (65536 : Int) < (k : Int) := by omega
        clear hS hsz hk6
        go_wp2_with fail
        refine C11.out.mono ?_
        rintro e w2 ⟨⟨p, c, rfl⟩, hb2⟩
        have KB := Lib.hid (bk_alloc (BK.refl w2) (.cells #[.string ⟨#[]⟩, .slice p 0 c] 25))
        have NB := Lib.hid (heap_alloc_new w2 (.cells #[.string ⟨#[]⟩, .slice p 0 c] 25))
        have K2 := Lib.hid hb2
        have cv2 := CV.out _ (bk_tr hb2 KB.out)
        clear hb2 cv
        go_wp2_with fail
        refine (C13.out _).mono ?_
        rintro e w3 ⟨rfl, hb3⟩
        have K3 := Lib.hid hb3
        have N3 := Lib.hid ((bk_block hb3 (Array.getElem?_eq_some_iff.1 NB.out).1).trans NB.out)
        have x0 := cell_of_row w3 w2.heap.size 0 _ 25 (0, 0) N3.out
        have C10 := Lib.hid (LV.out w3)
        clear hb3 cv2
        go_wp2_with fail
        refine C10.out.mono ?_
        rintro e w5 ⟨rfl, hb5⟩
        have K5 := Lib.hid hb5
        clear hb5
        go_wp2_with fail
        go_ret
        exact ⟨rfl, bk_tr KZ.out (bk_tr K2.out (bk_tr KB.out (bk_tr K3.out K5.out)))⟩
    · have hlt : k < m := by omega
      have hd : decide (k < m) = true := by simpa using hlt
      have c0 := RW.out.c hlt
      have f0 := RW.out.f (k := k)
      have RZ := Lib.hid (RW.out.set k 32)
      have ei : IntKind.i64.wrap ((k : Int) + 1) = (k : Int) + 1 := IntWalk.i64_in _ (by omega)
      have hki : (k : Int) < (m : Int) := by omega
      have HLT := Lib.hid hlt
      clear e
      go_wp2_with fail
      go_roundw
      case rel => exact ⟨k + 1, _, by have := HLT.out; omega, by go_num, fun i hi => by
        by_cases q : i = k
        · subst q; exact List.getElem?_set_self (by rw [RW.out.len]; exact HLT.out)
        · rw [List.getElem?_set_ne (fun e => q e.symm)]; exact H32.out i (by omega), RZ.out⟩
      case measure => have := HLT.out; simp [intOf]; omega
end Go.Proofs.Ytgiheheakgigkaa
