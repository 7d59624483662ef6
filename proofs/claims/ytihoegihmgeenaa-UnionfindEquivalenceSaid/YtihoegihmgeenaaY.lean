/- Roots and Members. -/
import Derived.Test.YtihoegihmgeenaaX
import Derived.Test.YtihoegihmgeenaaSh
import Derived.Sort.OwnSortedInts
import Derived.Deep.DeepMust
namespace Go.Proofs.Ytihoegihmgeenaa
open Go.RowKit
set_option linter.unusedVariables false
set_option linter.unusedSimpArgs false
theorem below_drawn {B : Nat} {a b : World} (h : Below B a b) (q : Nat) : Below B a (b.drewN q) := ⟨h.os, h.tape, h.output, h.size, h.block⟩
set_option maxHeartbeats 2000000 in
theorem roots_any (B b : Nat) (h : List HOp) (F : Nat → Prop) (w : World) (u : U w B b h F) (hs : h.length ≤ 1000) :
    Calls Try.prog 19 #[.pointer (some ⟨b, 0, none⟩)] w (LPost w (fl (isRoot h) (nE h))) := by
  have hln := Lib.hid (len_any B b h F w u)
  have hu := Lib.hid u
  have hn := nE_le h
  obtain ⟨i3, hi3, hz3, hs3, hb3⟩ := info_parts info3
  clear u
  go_enter Try.func19, Try.ntmps19
  go_wp2_with fail
  refine hln.out.mono ?_
  rintro e w1 ⟨rfl, rfl⟩
  go_wp2_with fail
  go_loopw [3, 7] (fun u i wr => ∃ k : Nat, k ≤ nE h ∧ i = .int .i64 k ∧ wr.ownsRow w.heap.size 3 1 u (fl (isRoot h) k).length (nums (fl (isRoot h) k)) ∧ Below w.heap.size w wr) (fun _ i _ => nE h - (intOf i).toNat)
  case atStart => exact ⟨0, Nat.zero_le _, rfl, World.ownsRow_nil _ _ _ _, Below.refl _ _⟩
  case round =>
    obtain ⟨k, hk, rfl, ou, hb⟩ := hrel
    by_cases hkl : k < nE h
    · have hfd := find_any B b h F k wr (hu.out.below hb) hs
      rw [find_nat h k hkl] at hfd
      have Hfd := Lib.hid hfd
      have hwz : w.heap.size ≤ wr.heap.size := hb.size
      have hfl := fl_len (isRoot h) k
      obtain ⟨q, e, rfl⟩ := own_shape ou
      have Hou := Lib.hid ou
      have Hb2 := Lib.hid hb
      have hP : isRoot h k = (lab h k == k) := rfl
      have hyes := Lib.hid (@fl_yes (isRoot h) k)
      have hno := Lib.hid (@fl_no (isRoot h) k)
      have HP := Lib.hid hP
      clear ou hb hP hfd
      generalize lab h k = z at Hfd HP
      go_wp2_with fail
      refine Hfd.out.mono ?_
      rintro e' w2 ⟨rfl, nq, rfl⟩
      by_cases hz : z = k
      · have hroot := hyes.out (by rw [HP.out]; simp [hz])
        have Hroot := Lib.hid hroot
        subst hz
        clear hroot
        generalize fl (isRoot h) z = xs at Hou hfl Hroot ⊢
        go_wp2_with (at_builtin; go_must (refine wpList_append_lies _ rfl (.tmp 15) (.tmp 17) 42 rfl w.heap.size 3 i3 (.int .i64 0) 1 8 Try.underlying42 hi3 hz3 hs3 hb3 rfl (by decide) _ _ _ rfl (by exact Hou.out.alloc _) ⟨wr.heap.size, 0, none⟩ 1 1 [.int .i64 z] rfl rfl (by exact lit_cells_at wr #[.int .i64 z] 3 _ rfl) (by simp [Value.oneCell']) (by decide) (by unfold maxLen; omega) (by omega) (by simp; omega) (wr.heap.size + 1) (by simp) ?_))
        intro g2 e2 w2 hown hgrow hat hlt2
        have R := Lib.hid (grow_rel Hb2.out hwz Hou.out hown ⟨hgrow.os, hgrow.tape, hgrow.output, hgrow.size, hgrow.block⟩ Hroot.out)
        clear hown hgrow hat hlt2
        go_wp2_with fail
        go_roundw
        case rel => exact ⟨z + 1, by omega, by go_num, R.out.1, R.out.2⟩
        case measure => simp [intOf]; omega
      · have hroot := hno.out (by rw [HP.out]; simp [hz])
        have Hroot := Lib.hid hroot
        have hzi : ((z : Int) == (k : Int)) = false := by rw [beq_eq_false_iff_ne]; omega
        clear hroot
        go_wp2_with fail
        go_roundw
        case rel => exact ⟨k + 1, by omega, by go_num, by rw [Hroot.out]; exact Hou.out, below_drawn Hb2.out _⟩
        case measure => simp [intOf]; omega
    · have hke : k = nE h := by omega
      subst hke
      have Hou := Lib.hid ou
      have Hb2 := Lib.hid hb
      clear ou hb
      go_wp2_with fail
      go_ret
      exact ⟨_, rfl, Hou.out, Hb2.out⟩
end Go.Proofs.Ytihoegihmgeenaa
