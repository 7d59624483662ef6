/- The law of a nil forest. -/
import Derived.Test.YtpnjmkmobdaefaaV
namespace Go.Proofs.Ytpnjmkmobdaefaa
open Go.RowKit Go.Maps
set_option linter.unusedVariables false
set_option linter.unusedSimpArgs false
def UN (w : World) (v : Value) : Prop := v = .pointer none ∨ ∃ f, v = .pointer (some ⟨f, 0, none⟩) ∧ w.cell? ⟨f, 0, none⟩ = some (.pointer none)
theorem un26 {w : World} {v : Value} (h : UN w v) : Calls Try.prog 26 #[v] w fun e w' => e = .returned (.bool false) ∧ w = w' := by
  rcases h with rfl | ⟨f, rfl, hc⟩
  · exact usable_nil w
  · exact usable_zero f w hc
theorem un23 {w : World} {v : Value} (h : UN w v) (a b : Int) : Calls Try.prog 23 #[v, .int .i64 a, .int .i64 b] w fun e w' => e = .returned (.bool false) ∧ w = w' := by
  have U := Lib.hid (un26 h)
  clear h
  go_enter Try.func23, Try.ntmps23
  go_wp2_with fail
  refine U.out.mono ?_
  rintro e w' ⟨rfl, rfl⟩
  go_wp2_with fail
  go_ret
  exact ⟨rfl, rfl⟩
set_option maxRecDepth 100000 in
set_option maxHeartbeats 2000000 in
theorem un21 {w : World} {v : Value} (h : UN w v) (a b : Int) : Calls Try.prog 21 #[v, .int .i64 a, .int .i64 b] w fun e w' => e = .returned (.tuple #[.slice none 0 0, .bool false]) ∧ BK w w' := by
  obtain ⟨p, rfl⟩ : ∃ p, v = .pointer p := by
    rcases h with h | ⟨f, h1, h2⟩
    · exact ⟨_, h⟩
    · exact ⟨_, h1⟩
  have k1 := bk_alloc (BK.refl w) (.cells #[.pointer p] 23)
  have hf0 : (w.alloc (.cells #[.pointer p] 23)).heap[w.heap.size]? = some (.cells #[.pointer p] 23 (0, 0)) := heap_alloc_new w _
  have cf0 := one_cell hf0
  have U := Lib.hid (fun w' (hb : BK w w') => un23 (w := w') (v := .pointer p) (by
    rcases h with h | ⟨f, h1, h2⟩
    · exact .inl h
    · exact .inr ⟨f, h1, cellBk h2 hb⟩) a b)
  clear h hf0
  have K1 := Lib.hid k1
  clear k1
  go_enter Try.func21, Try.ntmps21
  go_wp2_with fail
  refine (U.out _ (by first | exact K1.out | exact BK.refl _)).mono ?_
  rintro e w' ⟨rfl, rfl⟩
  go_wp2_with fail
  go_ret2
  exact ⟨rfl, by first | exact K1.out | exact BK.refl _⟩
theorem un16 {w : World} {v : Value} (h : UN w v) (a b y : Int) : Calls Try.prog 16 #[v, .int .i64 a, .int .i64 b, .int .i64 y] w fun e w' => e = .returned (.bool false) ∧ w = w' := by
  have U := Lib.hid (un26 h)
  clear h
  go_enter Try.func16, Try.ntmps16
  go_wp2_with fail
  refine U.out.mono ?_
  rintro e w' ⟨rfl, rfl⟩
  go_wp2_with fail
  go_ret
  exact ⟨rfl, rfl⟩
theorem un19 {w : World} {v : Value} (h : UN w v) : Calls Try.prog 19 #[v] w fun e w' => e = .returned (.slice none 0 0) ∧ w = w' := by
  have U := Lib.hid (un26 h)
  clear h
  go_enter Try.func19, Try.ntmps19
  go_wp2_with fail
  refine U.out.mono ?_
  rintro e w' ⟨rfl, rfl⟩
  go_wp2_with fail
  go_ret
  exact ⟨rfl, rfl⟩
theorem un17 {w : World} {v : Value} (h : UN w v) : Calls Try.prog 17 #[v] w fun e w' => e = .returned (.int .i64 0) ∧ w = w' := by
  have U := Lib.hid (un26 h)
  clear h
  go_enter Try.func17, Try.ntmps17
  go_wp2_with fail
  refine U.out.mono ?_
  rintro e w' ⟨rfl, rfl⟩
  go_wp2_with fail
  go_ret
  exact ⟨rfl, rfl⟩
theorem un14 {w : World} {v : Value} (h : UN w v) (n : Int) : Calls Try.prog 14 #[v, .int .i64 n] w fun e w' => e = .returned (.bool false) ∧ w = w' := by
  have U := Lib.hid (un26 h)
  clear h
  go_enter Try.func14, Try.ntmps14
  go_wp2_with fail
  refine U.out.mono ?_
  rintro e w' ⟨rfl, rfl⟩
  go_wp2_with fail
  go_ret
  exact ⟨rfl, rfl⟩
set_option maxRecDepth 100000 in
set_option maxHeartbeats 4000000 in
theorem nil_law (a b y : Int) (w : World) : Calls Try.prog 10 #[.int .i64 a, .int .i64 b, .int .i64 y] w fun e w' => e = .returned (.bool true) ∧ BK w w' := by
  go_enter Try.func10, Try.ntmps10
  go_wp2_with fail
  go_loopw [7, 8] (fun v i wr => ∃ k : Nat, i = .int .i64 k ∧ k ≤ 2 ∧ BK w wr ∧ UN wr v) (fun _ i _ => 2 - (intOf i).toNat)
  case atStart => exact ⟨0, rfl, by omega, BK.refl w, .inl rfl⟩
  case round =>
    obtain ⟨k, rfl, hk, hb, hu⟩ := hrel
    have HB := Lib.hid hb
    clear hb
    by_cases e : k = 2
    · subst e
      have C6 := Lib.hid (live12 wr)
      go_wp2_with fail
      refine C6.out.mono ?_
      rintro e w6 ⟨rfl, hb6⟩
      have B6 := Lib.hid (bk_tr HB.out hb6)
      clear hb6
      go_wp2_with fail
      go_ret
      exact ⟨rfl, B6.out⟩
    · have hlt : (k : Int) < 2 := by omega
      have C21 := Lib.hid (un21 hu a b)
      have HU := Lib.hid (fun w' (hb : BK wr w') => show UN w' u7 from by
        rcases hu with h | ⟨f, h1, h2⟩
        · exact .inl h
        · exact .inr ⟨f, h1, cellBk h2 hb⟩)
      clear hu
      generalize u7 = vv at *
      go_wp2_with fail
      refine C21.out.mono ?_
      rintro e w1 ⟨rfl, hb1⟩
      have C16 := Lib.hid (un16 (HU.out _ hb1) a b y)
      have C23 := Lib.hid (un23 (HU.out _ hb1) a b)
      have C19 := Lib.hid (un19 (HU.out _ hb1))
      have C17 := Lib.hid (un17 (HU.out _ hb1))
      have C14 := Lib.hid (un14 (HU.out _ hb1) a)
      have C140 := Lib.hid (un14 (HU.out _ hb1) 0)
      have B1 := Lib.hid (bk_tr HB.out hb1)
      clear hb1 HU C21
      go_wp2_with fail
      refine C16.out.mono ?_
      rintro e w' ⟨rfl, rfl⟩
      go_wp2_with fail
      refine C23.out.mono ?_
      rintro e w' ⟨rfl, rfl⟩
      go_wp2_with fail
      refine C19.out.mono ?_
      rintro e w' ⟨rfl, rfl⟩
      go_wp2_with fail
      refine C17.out.mono ?_
      rintro e w' ⟨rfl, rfl⟩
      go_wp2_with fail
      refine C14.out.mono ?_
      rintro e w' ⟨rfl, rfl⟩
      go_wp2_with fail
      refine C140.out.mono ?_
      rintro e w' ⟨rfl, rfl⟩
      go_wp2_with fail
      go_roundw
      case rel => exact ⟨k + 1, by go_num, by omega, bk_alloc B1.out _, .inr ⟨_, rfl, by simp⟩⟩
      case measure => simp [intOf]; omega
end Go.Proofs.Ytpnjmkmobdaefaa
