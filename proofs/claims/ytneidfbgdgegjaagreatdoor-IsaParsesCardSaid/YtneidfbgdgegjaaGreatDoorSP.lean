/- strings.Split at a blank. -/
import Derived.Test.YtneidfbgdgegjaaGreatDoorShelf
import Derived.Test.YtneidfbgdgegjaaGreatDoorShelf2
import Derived.Test.YtneidfbgdgegjaaGreatDoorDQ
import Derived.Test.YtneidfbgdgegjaaGreatDoorRA
import Derived.Lib.SplitLaws
namespace Go.Proofs.YtneidfbgdgegjaaGreatDoor
open Go.RowKit
set_option linter.unusedVariables false
set_option linter.unusedSimpArgs false
theorem splitK_sp : ∀ (k : Nat) (l : List UInt8), l.count 32 ≤ k → Lib.splitK [32] 0 k l = sp l
  | 0, l, h => by
    show [l] = sp l
    rw [sp_plain]
    intro c hc e
    subst e
    have := List.count_pos_iff.2 hc
    omega
  | k + 1, l, h => by
    unfold Lib.splitK
    rcases idxb 32 l with ⟨h1, h2⟩ | ⟨i, h1, h2, h3, h4⟩
    · rw [Lib.index_one, h1, sp_plain h2]; rfl
    · have hi : (Lib.index l [32] == -1) = false := by rw [Lib.index_one, h1, beq_eq_false_iff_ne]; omega
      have hc : (l.drop (i + 1)).count 32 ≤ k := by
        have e : l.count 32 = (l.take i).count 32 + (1 + (l.drop (i + 1)).count 32) := by
          conv => lhs; rw [h3]
          rw [List.count_append, List.count_cons]
          simp; omega
        omega
      rw [hi, if_neg (by simp), Lib.index_one, h1, sp_at h3 h4]
      show l.take ((i : Int).toNat + 0) :: Lib.splitK [32] 0 k (l.drop ((i : Int).toNat + 1)) = _
      rw [show (i : Int).toNat = i by omega, Nat.add_zero, splitK_sp k _ hc]
/-- the fields of a line -/
def toks (s : ByteArray) : List ByteArray := Lib.splitB ⟨#[32]⟩ 0 (Lib.countB s ⟨#[32]⟩) s
theorem countB32 (s : ByteArray) : Lib.countB s ⟨#[32]⟩ = (bl s).count 32 := by
  show Lib.count s.data.toList [32] = _
  rw [Lib.count_one]
theorem toks_sp (s : ByteArray) : (toks s).map bl = sp (bl s) := by
  have := Lib.splitB_data ⟨#[32]⟩ 0 (Lib.countB s ⟨#[32]⟩) s
  unfold toks
  refine Eq.trans this ?_
  exact splitK_sp _ _ (by rw [countB32]; exact Nat.le_refl _)
theorem toks_len (s : ByteArray) : (toks s).length = Lib.countB s ⟨#[32]⟩ + 1 := Lib.splitB_all _ (by decide) 0 _ s rfl
theorem toks_le (s : ByteArray) : (toks s).length ≤ s.size + 1 := by
  rw [toks_len, countB32, ← bl_len]
  have := List.count_le_length (a := (32 : UInt8)) (l := bl s)
  omega
set_option maxHeartbeats 1000000 in
theorem gen94 (s : ByteArray) (hs : s.size ≤ 1000000) (w : World) : Calls Tryz.prog 94 #[.string s, .string ⟨#[32]⟩, .int .i64 0, .int .i64 (-1)] w fun e w' => e = .returned (.slice (some ⟨w.heap.size, 0, none⟩) (toks s).length (toks s).length) ∧ w' = w.alloc (.cells ((toks s).map Value.string).toArray 9) := by
  have c := Any.strings_genSplit_core Tryz.lays221 (by kernel_rfl) s ⟨#[32]⟩ 0 (-1) (Lib.countB s ⟨#[32]⟩ + 1) w (by omega) (by decide) (Nat.zero_le _)
    (fun x cs hx => (Tryz.strings_Index_one x 32 _).mono fun e w' ⟨h1, h2⟩ => ⟨by rw [h1]; show _ = Ending.returned (Value.int .i64 (Lib.index x.data.toList [32])); rw [Lib.index_one], h2⟩)
    ((Tryz.strings_Count_one s 32 w).mono fun e w' ⟨h1, h2⟩ => ⟨by rw [h1]; show _ = Ending.returned (Value.int .i64 ((Lib.count s.data.toList [32] : Nat) : Int)); rw [Lib.count_one]; rfl, h2⟩)
    (by decide) (by decide) (by rw [if_pos (by decide)]; have := toks_le s; rw [toks_len] at this; omega)
  refine c.mono fun e w' ⟨h1, h2⟩ => ?_
  have e0 : Lib.splitB ⟨#[32]⟩ 0 (Lib.countB s ⟨#[32]⟩ + 1 - 1) s = toks s := rfl
  rw [e0] at h1 h2
  have e1 : Lib.countB s ⟨#[32]⟩ + 1 = (toks s).length := (toks_len s).symm
  rw [e1] at h1 h2
  rw [Lib.cellsOf_full] at h2
  exact ⟨h1, h2⟩
set_option maxHeartbeats 1000000 in
theorem split75 (s : ByteArray) (hs : s.size ≤ 1000000) (w : World) : Calls Tryz.prog 75 #[.string s, .string ⟨#[32]⟩] w fun e w' => e = .returned (.slice (some ⟨w.heap.size, 0, none⟩) (toks s).length (toks s).length) ∧ w' = w.alloc (.cells ((toks s).map Value.string).toArray 9) := by
  have H := gen94 s hs w
  go_enter Tryz.func75, Tryz.ntmps75
  go_wp2_with (go_at_call 94; refine H.mono ?_; rintro e w' ⟨rfl, rfl⟩)
  go_ret
  exact ⟨rfl, rfl⟩
theorem rt_new (w : World) (ts : List ByteArray) : RT (w.alloc (.cells (ts.map Value.string).toArray 9)) (some ⟨w.heap.size, 0, none⟩) ts.length ts := by
  refine ⟨Nat.le_refl _, fun b o e => ?_, fun k hk => ⟨w.heap.size, 0, rfl, ?_⟩⟩
  · cases e; exact ⟨_, heap_alloc_new w _⟩
  · rw [World.cell?_alloc_new]; simp [hk]
end Go.Proofs.YtneidfbgdgegjaaGreatDoor
