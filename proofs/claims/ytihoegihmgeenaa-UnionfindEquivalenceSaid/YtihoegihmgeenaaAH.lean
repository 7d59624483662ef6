/- A sequence of calls on both. -/
import Derived.Test.YtihoegihmgeenaaAG
import Derived.Laws.AppendOwnNone
namespace Go.Proofs.Ytihoegihmgeenaa
open Go.RowKit
set_option linter.unusedVariables false
set_option linter.unusedSimpArgs false
abbrev AAct := Int × Int × Int
/-- v reads ac the calls ac -/
def Acts (w : World) (B : Nat) (v : Value) (ac : List AAct) : Prop :=
  (∃ a cap, v = .slice a 0 cap ∧ ac = []) ∨ ∃ b off cap, v = .slice (some ⟨b, off, none⟩) ac.length cap ∧ 0 < ac.length ∧ b < B ∧
    ∀ k, k < ac.length → w.cell? ⟨b, off + k * 3, none⟩ = some (.int .i64 (ac.getD k (0, 0, 0)).1) ∧ w.cell? ⟨b, off + k * 3 + 1, none⟩ = some (.int .i64 (ac.getD k (0, 0, 0)).2.1) ∧ w.cell? ⟨b, off + k * 3 + 2, none⟩ = some (.int .i64 (ac.getD k (0, 0, 0)).2.2)
theorem Acts.below {w w' : World} {B : Nat} {v : Value} {ac : List AAct} (h : Acts w B v ac) (hb : Below B w w') : Acts w' B v ac := by
  rcases h with h | ⟨b, off, cap, h1, h2, h3, h4⟩
  · exact .inl h
  · refine .inr ⟨b, off, cap, h1, h2, h3, fun k hk => ?_⟩
    obtain ⟨a1, a2, a3⟩ := h4 k hk
    exact ⟨(hb.cell (p := ⟨b, _, none⟩) h3).trans a1, (hb.cell (p := ⟨b, _, none⟩) h3).trans a2, (hb.cell (p := ⟨b, _, none⟩) h3).trans a3⟩
theorem Acts.shape {w : World} {B : Nat} {v : Value} {ac : List AAct} (h : Acts w B v ac) : ∃ p c, v = .slice p ac.length c := by
  rcases h with ⟨a, cap, h1, h2⟩ | ⟨b, off, cap, h1, _⟩
  · exact ⟨a, cap, by rw [h1, h2]; rfl⟩
  · exact ⟨_, _, h1⟩
def RunPost (w : World) (B b n : Nat) (e : Ending) (w' : World) : Prop :=
  ∃ lv l h F', e = .returned (.tuple #[lv, .bool true]) ∧ Both w' B b h F' lv l ∧ h.length ≤ n ∧ Below B w w'
/-- l = append(own, m...) -/
theorem both_copy {w w2 : World} {B b n : Nat} {h : List HOp} {F : Nat → Prop} {mv v : Value} {l : List ROp} (k : Both w B b h F mv l) (hg : w.grownBy w2 none) (hown : w2.ownsRow w.heap.size 58 3 v l.length (rops l)) : Both w2 B b h F v l ∧ Below w.heap.size w w2 := by
  have hb : Below w.heap.size w w2 := (Below.refl _ w).grown hg (Nat.le_refl _) (by intro j hj; cases hj)
  refine ⟨⟨k.u.below hb, ⟨own_weak hown k.u.base, k.o.m, k.o.ok⟩, fun j hj hF => ?_⟩, hb⟩
  have a1 := (hown.lt j hj).1
  have a2 := (k.u.lt j hF).2
  omega
set_option maxHeartbeats 4000000 in
theorem run_any (B b : Nat) (F : Nat → Prop) (v : Value) (ac : List AAct) (w : World) (u : U w B b [] F) (ha : Acts w B v ac) (hl : ac.length ≤ 60) :
    Calls Try.prog 10 #[.pointer (some ⟨b, 0, none⟩), v] w (RunPost w B b ac.length) := by
  obtain ⟨p, c, rfl⟩ := ha.shape
  have HA := Lib.hid ha
  have hB := u.base
  obtain ⟨i58, hi58, hz58, hs58, hb58⟩ := info_parts info58
  have hst : Both w B b [] F (.slice none 0 0) [] := ⟨u, ⟨World.ownsRow_nil _ _ _ _, rfl, trivial⟩, fun k hk => by cases hk⟩
  have Hst := Lib.hid hst
  clear ha u hst
  go_enter Try.func10, Try.ntmps10
  go_wp2_with fail
  go_loopw [6, 13] (fun lv i wr => ∃ (k : Nat) (l : List ROp) (h : List HOp) (F' : Nat → Prop), k ≤ ac.length ∧ i = .int .i64 k ∧ Both wr B b h F' lv l ∧ h.length ≤ k ∧ Below B w wr) (fun _ i _ => ac.length - (intOf i).toNat)
  case atStart => exact ⟨0, [], [], F, Nat.zero_le _, rfl, Hst.out, Nat.le_refl _, Below.refl _ _⟩
  case round =>
    obtain ⟨k, l, h, F', hk, rfl, kb, hh, hb⟩ := hrel
    by_cases hkl : k < ac.length
    · rcases HA.out with ⟨a, cap, h1, h2⟩ | ⟨ab, off, cap, h1, h2, h3, h4⟩
      · rw [h2] at hkl; simp at hkl
      cases h1
      obtain ⟨c0, c1, c2⟩ := h4 k hkl
      rw [← hb.cell (p := ⟨ab, _, none⟩) h3] at c0 c1 c2
      have hstep := Lib.hid (fun kd x y => step_any B b h F' _ l kd x y wr kb (by omega))
      have hwz := kb.u.base
      have Hb := Lib.hid hb
      obtain ⟨q, e, rfl⟩ := own_shape kb.o.own
      clear h4 hb kb
      generalize ac.getD k (0, 0, 0) = act at c0 c1 c2
      obtain ⟨kd, x, y⟩ := act
      simp only at c0 c1 c2
      go_wp2_with fail
      refine (hstep.out kd x y).mono ?_
      rintro e' w1 ⟨mv, l', h', F2, rfl, k1, hh1, hb1⟩
      have K1 := Lib.hid k1
      have Hb1 := Lib.hid (Hb.out.trans hb1)
      have hl1 := M_len h' l' k1.o.m
      have hll : l'.length ≤ 61 := by omega
      have HL := Lib.hid hl1
      obtain ⟨mp, mc, rfl⟩ := own_shape k1.o.own
      clear k1 hb1 hl1 c0 c1 c2 hstep
      cases mp with
      | none =>
        have hl0 : l'.length = 0 := by
          rcases K1.out.o.own.2 with ⟨_, h0⟩ | ⟨g, cap', cur, hv, _⟩
          · exact h0
          · cases hv
        have hc0 : mc = 0 := by
          rcases K1.out.o.own.2 with ⟨hv, h0⟩ | ⟨g, cap', cur, hv, _⟩
          · injection hv
          · cases hv
        have hl00 : l' = [] := List.eq_nil_of_length_eq_zero hl0
        subst hl00
        subst hc0
        clear hl0
        go_wp2_with (at_builtin; go_must (refine wpList_append_own_none rfl (.tmp 28) (.tmp 29) 26 rfl B 58 i58 3 Try.underlying26 hi58 (.slice none 0 0) 0 [] rfl (World.ownsRow_nil w1 _ _ _) rfl ?_))
        go_wp2_with fail
        go_roundw
        case rel => exact ⟨k + 1, [], h', F2, by omega, by go_num, K1.out, by omega, Hb1.out⟩
        case measure => simp [intOf]; omega
      | some ad =>
        obtain ⟨g, rfl⟩ : ∃ g, ad = ⟨g, 0, none⟩ := by
          rcases K1.out.o.own.2 with ⟨hv, h0⟩ | ⟨g, cap', cur, hv, _⟩
          · cases hv
          · cases hv; exact ⟨g, rfl⟩
        go_wp2_with (at_builtin; go_must (refine wpList_append_own _ rfl (.tmp 28) (.tmp 29) 26 rfl w1.heap.size 58 i58 (.agg #[.bool false, .int .i64 0, .int .i64 0]) 3 24 Try.underlying26 hi58 hz58 hs58 hb58 rfl (by decide) (.slice none 0 0) 0 [] rfl (World.ownsRow_nil w1 _ _ _) ⟨g, 0, none⟩ l'.length mc (rops l') rfl (len_rops l') (World.ownsRow.cells K1.out.o.own rfl) (rops_cell l') (by unfold maxLen; omega) (by omega) (Nat.le_refl _) ?_))
        intro v2 w2 hown hgrow _
        have hown' : w2.ownsRow w1.heap.size 58 3 v2 l'.length (rops l') := by simpa using hown
        have C := both_copy (n := 0) K1.out hgrow hown'
        have HC := Lib.hid C.1
        have hbw := Lib.hid (Hb1.out.trans (below_mono C.2 K1.out.u.base))
        obtain ⟨vp, vc, rfl⟩ := own_shape hown'
        clear hown hown' hgrow C
        go_wp2_with fail
        go_roundw
        case rel => exact ⟨k + 1, l', h', F2, by omega, by go_num, HC.out, by omega, hbw.out⟩
        case measure => simp [intOf]; omega
    · obtain ⟨q, e, rfl⟩ := own_shape kb.o.own
      have fin : RunPost w B b ac.length (.returned (.tuple #[.slice q l.length e, .bool true])) wr := ⟨_, l, h, F', rfl, kb, by omega, hb⟩
      have Fin := Lib.hid fin
      clear kb hb fin
      go_wp2_with fail
      go_ret2
      exact Fin.out
end Go.Proofs.Ytihoegihmgeenaa
