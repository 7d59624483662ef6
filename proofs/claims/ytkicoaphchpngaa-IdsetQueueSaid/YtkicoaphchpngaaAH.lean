/- Operations on a work list: the walk. -/
import Derived.Test.YtkicoaphchpngaaAG
import Derived.Deep.RegionHeld3
import Derived.Deep.DeepMust
namespace Go.Proofs.Ytkicoaphchpngaa
open Go.RowKit Go.Lib Go.Sort Go.Maps
set_option linter.unusedVariables false
set_option linter.unusedSimpArgs false
abbrev QOp := Int × Int
/-- v reads as the operations ac -/
def QOps (w : World) (B : Nat) (v : Value) (ac : List QOp) : Prop :=
  (∃ a cap, v = .slice a 0 cap ∧ ac = []) ∨ ∃ b off cap, v = .slice (some ⟨b, off, none⟩) ac.length cap ∧ 0 < ac.length ∧ b < B ∧
    ∀ k, k < ac.length → w.cell? ⟨b, off + k * 2, none⟩ = some (.int .i64 (ac.getD k (0, 0)).1) ∧ w.cell? ⟨b, off + k * 2 + 1, none⟩ = some (.int .i64 (ac.getD k (0, 0)).2) ∧ (Lit.int .i64 (ac.getD k (0, 0)).2).wf = true
theorem QOps.shape {w : World} {B : Nat} {v : Value} {ac : List QOp} (h : QOps w B v ac) : ∃ p c, v = .slice p ac.length c := by
  rcases h with ⟨a, cap, h1, h2⟩ | ⟨b, off, cap, h1, _⟩
  · exact ⟨a, cap, by rw [h1, h2]; rfl⟩
  · exact ⟨_, _, h1⟩
set_option maxHeartbeats 4000000 in
theorem queue_long (a : Option Addr) (n c0 : Nat) (w : World) (hl : 300 < n) :
    Calls Try.prog 6 #[.slice a n c0] w fun e w' => e = .returned (.bool true) ∧ Below w.heap.size w w' := by
  go_enter Try.func6, Try.ntmps6
  go_wp2_with (go_at_call 10; refine (lives_any _).mono ?_; rintro e w4 ⟨rfl, hb4⟩)
  go_ret
  exact ⟨rfl, hb4⟩
set_option maxRecDepth 100000 in
set_option maxHeartbeats 8000000 in
theorem queue_short (v : Value) (ac : List QOp) (w : World) (ha : QOps w w.heap.size v ac) (hl : ac.length ≤ 300) :
    Calls Try.prog 6 #[v] w fun e w' => e = .returned (.bool true) ∧ Below w.heap.size w w' := by
  obtain ⟨p, c0, rfl⟩ := ha.shape
  have HA := Lib.hid ha
  clear ha
  go_enter Try.func6, Try.ntmps6
  go_wp2_with fail
  refine (new_any w.heap.size w (Nat.le_refl _)).mono ?_
  rintro e w1 ⟨rfl, hq1, hb1⟩
  have HS := Lib.hid (QI.start hq1 hb1)
  clear hq1 hb1
  generalize w.heap.size + 1 = bq at HS ⊢
  go_wp2_with fail
  go_loopw [4, 5] (fun v i wr => ∃ (k : Nat), k ≤ ac.length ∧ i = .int .i64 k ∧ QF w bq w.heap.size k v wr) (fun _ i _ => ac.length - (intOf i).toNat)
  case atStart => exact ⟨0, Nat.zero_le _, rfl, 0, _, [], [], HS.out, Nat.le_refl _, Nat.le_refl _⟩
  case round =>
    clear HS
    obtain ⟨k, hk, rfl, c, sv, zs, ss, hI, hsl, hck⟩ := hrel
    obtain ⟨q, e, rfl⟩ := own_shape hI.row
    have K0 : BK wr wr := BK.refl _
    have H := Lib.hid hI
    have HSL := Lib.hid hsl
    have HCK := Lib.hid hck
    have HL := Lib.hid hl
    have hsz : ss.length ≤ 400 := by omega
    have hcz : c ≤ 400 := by omega
    by_cases hkl : k < ac.length
    · rcases HA.out with ⟨a, cap, h1, h2⟩ | ⟨ab, off, cap, h1, h2, h3, h4⟩
      · rw [h2] at hkl; simp at hkl
      cases h1
      obtain ⟨c0, c1, hwx⟩ := h4 k hkl
      have HC1 := Lib.hid c1
      rw [← hI.bel.cell (p := ⟨ab, _, none⟩) h3] at c0 c1
      clear h4
      generalize ac.getD k (0, 0) = act at c0 c1 hwx HC1
      obtain ⟨kd, x⟩ := act
      simp only at c0 c1 hwx HC1
      have KC : Hid (∀ ss' wc, PK w wr bq w.heap.size c sv ss' wc → wc.cell? ⟨ab, off + k * 2 + 1, none⟩ = some (.int .i64 x)) := Lib.hid (fun ss' wc h => ((h.bel H.out).cell (p := ⟨ab, _, none⟩) h3).trans HC1.out)
      have KB : Hid (∀ wc, BK wr wc → wc.cell? ⟨ab, off + k * 2 + 1, none⟩ = some (.int .i64 x)) := Lib.hid (fun wc h => ((H.out.bel.trans (Below.mono h H.out.bel.size)).cell (p := ⟨ab, _, none⟩) h3).trans HC1.out)
      by_cases e0 : kd = 0
      · subst e0
        have P34 := Lib.hid (p34 hI x hwx hsz hcz)
        have P17 := Lib.hid (fun wc => p17 (ss' := ofL (ss ++ [x])) hI x hsz wc)
        have P21 := Lib.hid (p21 hI x (k + 1) hsz (by omega) (by omega))
        clear hI hsl hck hsz hcz hwx hl h3 h2
        generalize memB ss x = hm at P34 P17
        generalize ofL (ss ++ [x]) = ss' at P34 P17 P21
        cases hm
        all_goals
          go_wp2_with fail
          go_region_held3 (fun w' => w'.cell? ⟨ab, off + k * 2 + 1, none⟩ = some (.int .i64 x))
            (first | go_keep | exact KC.out _ _ (by first | assumption | exact pk_drew (by assumption)) | exact KB.out _ (by first | assumption | exact bk_drew (by assumption)))
            (first | (go_at_call 34; go_must (refine (P34.out _ (by first | assumption | exact bk_drew (by assumption) | exact pk_drew (by assumption) | exact ik_drew (by assumption))).mono ?_); rintro e' w' ⟨rfl, hpk⟩) | (go_at_call 17; go_must (refine (P17.out _ (by first | assumption | exact bk_drew (by assumption) | exact pk_drew (by assumption) | exact ik_drew (by assumption))).mono ?_); rintro e' w' ⟨rfl, hpk⟩))
          have c1 := KC.out _ _ (by first | assumption | exact pk_drew (by assumption))
          go_wp2_with (first | (go_at_call 21; go_must (refine (P21.out _ (by first | assumption | exact bk_drew (by assumption) | exact pk_drew (by assumption) | exact ik_drew (by assumption))).mono ?_); rintro e' w' ⟨v', rfl, hqf⟩))
          go_roundw
          case rel => exact ⟨k + 1, by omega, by go_num, by assumption⟩
          case measure => simp [intOf]; omega
      by_cases e1 : kd = 1
      · subst e1
        clear e0
        by_cases hz : 0 < ss.length
        · have P35 := Lib.hid (p35 hI hz hsz)
          have P23 := Lib.hid (p23 hI (ss.getD 0 0) (k + 1) hsz (by omega) (by omega))
          obtain ⟨g, cap2, hv⟩ := Joins.ownsRow_form hI.row hz
          have hq2 : q = some ⟨g, 0, none⟩ := by cases hv; rfl
          subst hq2
          clear hv
          have HC : Hid (∀ ss' wc, PK w wr bq w.heap.size c sv ss' wc → wc.cell? ⟨g, 0, none⟩ = some (.int .i64 (ss.getD 0 0))) := Lib.hid (fun ss' wc h => by
            have hr := h.row H.out
            rw [World.ownsRow.cellAt hr 0 (by simpa using hz)]; simp [nums, hz])
          have t1 : decide ((0 : Int) < (ss.length : Int)) = true := by simp; omega
          have t2 : ((ss.length : Int) == 0) = false := by rw [beq_eq_false_iff_ne]; omega
          have t3 : (0 : Int) < (ss.length : Int) := by omega
          clear hI hsl hck hsz hcz hwx hl h3 h2
          generalize ss.getD 0 0 = x0 at P35 P23 HC
          generalize dropL x0 (ofL ss) = ss' at P35 P23
          have t4 : (x0 != x0) = false := by simp
          go_wp2_with (go_at_call 35; go_must (refine (P35.out _ (BK.refl _)).mono ?_))
          rintro e' w' ⟨rfl, hpk⟩
          have hx0 := HC.out _ _ (by first | assumption | exact pk_drew (by assumption))
          go_wp2_with (first | (go_at_call 23; go_must (refine (P23.out _ (by first | assumption | exact bk_drew (by assumption) | exact pk_drew (by assumption) | exact ik_drew (by assumption))).mono ?_); rintro e' w' ⟨v', rfl, hqf⟩))
          go_roundw
          case rel => exact ⟨k + 1, by omega, by go_num, by assumption⟩
          case measure => simp [intOf]; omega
        · obtain rfl : ss = [] := List.eq_nil_of_length_eq_zero (by omega)
          have hzl := hI.len
          obtain rfl : zs = [] := List.eq_nil_of_length_eq_zero hzl
          have P35 := Lib.hid (qpop_none _ bq _ c sv wr hI.q)
          clear hI hsl hck hsz hcz hwx hl h3 h2
          go_wp2_with (go_at_call 35; go_must (refine P35.out.mono ?_); rintro e' w' ⟨rfl, rfl⟩)
          go_roundw
          case rel => exact ⟨k + 1, by omega, by go_num, c, sv, [], [], H.out, by simp, by have := HCK.out; omega⟩
          case measure => simp [intOf]; omega
      by_cases e2 : kd = 2
      · subst e2
        clear e0 e1
        have P36 := Lib.hid (p36 hI)
        clear hI hsl hck hsz hcz hwx hl c1 h3 h2
        go_wp2_with (first | (go_at_call 36; go_must (refine (P36.out _ (by first | assumption | exact bk_drew (by assumption) | exact pk_drew (by assumption) | exact ik_drew (by assumption))).mono ?_); rintro e' w' ⟨rfl, hbk⟩))
        go_roundw
        case rel => exact ⟨k + 1, by omega, by go_num, QF.same (k := H.out) (by assumption) (by have := HSL.out; omega) (by have := HCK.out; omega)⟩
        case measure => simp [intOf]; omega
      · have b0 : (kd == 0) = false := by rw [beq_eq_false_iff_ne]; exact e0
        have b1 : (kd == 1) = false := by rw [beq_eq_false_iff_ne]; exact e1
        have b2 : (kd == 2) = false := by rw [beq_eq_false_iff_ne]; exact e2
        have P37 := Lib.hid (p37 hI hsz)
        have P11 := Lib.hid (p11 hI hsz)
        clear hI hsl hck hsz hcz hwx hl c1 h3 h2 e0 e1 e2
        go_wp2_with (first | (go_at_call 37; go_must (refine (P37.out _ (by first | assumption | exact bk_drew (by assumption) | exact pk_drew (by assumption) | exact ik_drew (by assumption))).mono ?_); rintro e' w' ⟨v2, rfl, hik⟩) | (go_at_call 11; go_must (refine (P11.out _ _ (by first | assumption | exact bk_drew (by assumption) | exact pk_drew (by assumption) | exact ik_drew (by assumption))).mono ?_); rintro e' w' ⟨rfl, hbk⟩))
        go_roundw
        case rel => exact ⟨k + 1, by omega, by go_num, QF.same (k := H.out) (by assumption) (by have := HSL.out; omega) (by have := HCK.out; omega)⟩
        case measure => simp [intOf]; omega
    · have P36 := Lib.hid (p36 hI)
      have P37 := Lib.hid (p37 hI hsz)
      have P11 := Lib.hid (p11 hI hsz)
      clear hI hsl hck hsz hcz hl
      go_wp2_with (first | (go_at_call 36; go_must (refine (P36.out _ (by first | assumption | exact bk_drew (by assumption) | exact pk_drew (by assumption) | exact ik_drew (by assumption))).mono ?_); rintro e' w' ⟨rfl, hbk⟩) | (go_at_call 37; go_must (refine (P37.out _ (by first | assumption | exact bk_drew (by assumption) | exact pk_drew (by assumption) | exact ik_drew (by assumption))).mono ?_); rintro e' w' ⟨v2, rfl, hik⟩) | (go_at_call 11; go_must (refine (P11.out _ _ (by first | assumption | exact bk_drew (by assumption) | exact pk_drew (by assumption) | exact ik_drew (by assumption))).mono ?_); rintro e' w' ⟨rfl, hbk⟩) | (go_at_call 10; go_must (refine (p10 _ (by first | assumption | exact bk_drew (by assumption) | exact pk_drew (by assumption) | exact ik_drew (by assumption))).mono ?_); rintro e' w' ⟨rfl, hbk⟩))
      go_ret
      exact ⟨rfl, H.out.bel.trans (Below.mono (by assumption) H.out.bel.size)⟩
end Go.Proofs.Ytkicoaphchpngaa
