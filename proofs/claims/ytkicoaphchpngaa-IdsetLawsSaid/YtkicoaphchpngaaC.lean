/- Package heap over the numbers of a work list. -/
import Derived.Test.YtkicoaphchpngaaB
import Derived.Shelf.GgSortMore.Iface
namespace Go.Proofs.Ytkicoaphchpngaa
open Go.RowKit
set_option linter.unusedVariables false
def nums (zs : List Int) : List Value := zs.map (Value.int .i64)
/-- the numbers at ⟨bq, 2⟩ are zs, in block g -/
structure QR (w : World) (B bq g cap : Nat) (zs : List Int) : Prop where
  row : w.ownsRow B 3 1 (.slice (some ⟨g, 0, none⟩) zs.length cap) zs.length (nums zs)
  cell : w.cell? ⟨bq, 2, none⟩ = some (.slice (some ⟨g, 0, none⟩) zs.length cap)
  ne : bq ≠ g
theorem grown_trans {a b c : World} {r : Option Nat} (h : a.grownBy b r) (k : b.grownBy c r) : a.grownBy c r :=
  ⟨k.os.trans h.os, k.tape.trans h.tape, k.output.trans h.output, Nat.le_trans h.size k.size, fun x hx hne => (k.block x (Nat.lt_of_lt_of_le hx h.size) hne).trans (h.block x hx hne)⟩
theorem grown_refl (a : World) (r : Option Nat) : a.grownBy a r := ⟨rfl, rfl, rfl, Nat.le_refl _, fun _ _ _ => rfl⟩
theorem grown_drew {a b : World} {r : Option Nat} (h : a.grownBy b r) (q : Nat) : a.grownBy (b.drewN q) r := ⟨h.os, h.tape, h.output, h.size, h.block⟩
theorem row_drew {w : World} {B : Nat} {v : Value} {n : Nat} {xs : List Value} (h : w.ownsRow B 3 1 v n xs) (q : Nat) : (w.drewN q).ownsRow B 3 1 v n xs := h
theorem cell_drew (w : World) (q : Nat) (a : Addr) : (w.drewN q).cell? a = w.cell? a := rfl
theorem QR.cells {w : World} {B bq g cap : Nat} {zs : List Int} (h : QR w B bq g cap zs) : ∀ k, k < zs.length → w.cell? ⟨g, k, none⟩ = some (.int .i64 (zs.getD k 0)) := fun k hk => by
  rw [World.ownsRow.cellAt h.row k (by omega)]
  simp [nums, hk]
theorem QR.len {w : World} {B bq g cap : Nat} {zs : List Int} (h : QR w B bq g cap zs) : zs.length ≤ 9223372036854775807 := by
  rcases h.row.2 with ⟨h', _⟩ | ⟨g', cap', cur, h', _, _, h1, h2, _⟩
  · simp at h'
  · unfold maxLen at h2; omega
theorem nums_set (zs : List Int) (i : Nat) (x : Int) : (nums zs).set i (.int .i64 x) = nums (zs.set i x) := by unfold nums; rw [List.map_set]
theorem QR.swap {w : World} {B bq g cap : Nat} {zs : List Int} (h : QR w B bq g cap zs) (i j q : Nat) :
    QR (((w.setCell ⟨g, i, none⟩ (.int .i64 (zs.getD j 0))).setCell ⟨g, j, none⟩ (.int .i64 (zs.getD i 0))).drewN q) B bq g cap (swp zs i j) ∧
    w.grownBy (((w.setCell ⟨g, i, none⟩ (.int .i64 (zs.getD j 0))).setCell ⟨g, j, none⟩ (.int .i64 (zs.getD i 0))).drewN q) (some g) := by
  obtain ⟨r1, g1⟩ := World.ownsRow.stored h.row i (.int .i64 (zs.getD j 0))
  obtain ⟨r2, g2⟩ := World.ownsRow.stored r1 j (.int .i64 (zs.getD i 0))
  have G := grown_drew (grown_trans g1 g2) q
  refine ⟨⟨?_, ?_, h.ne⟩, G⟩
  · rw [swp_len]
    have := row_drew r2 q
    rw [nums_set, nums_set] at this
    exact this
  · rw [swp_len]
    exact G.cell h.cell (by intro e; exact h.ne (Option.some.inj e))
theorem QR.drew {w : World} {B bq g cap : Nat} {zs : List Int} (h : QR w B bq g cap zs) (q : Nat) : QR (w.drewN q) B bq g cap zs := ⟨h.row, h.cell, h.ne⟩
theorem enter100 : ∀ args w, (callFunc 100 args).run Try.prog w = .ok (.enter 100 args) w := enters_of Try.func100 (by kernel_rfl) rfl
theorem enter101 : ∀ args w, (callFunc 101 args).run Try.prog w = .ok (.enter 101 args) w := enters_of Try.func101 (by kernel_rfl) rfl
theorem enter102 : ∀ args w, (callFunc 102 args).run Try.prog w = .ok (.enter 102 args) w := enters_of Try.func102 (by kernel_rfl) rfl
theorem enter103 : ∀ args w, (callFunc 103 args).run Try.prog w = .ok (.enter 103 args) w := enters_of Try.func103 (by kernel_rfl) rfl
theorem enter104 : ∀ args w, (callFunc 104 args).run Try.prog w = .ok (.enter 104 args) w := enters_of Try.func104 (by kernel_rfl) rfl
set_option maxHeartbeats 2000000 in
theorem up_any (B bq g cap : Nat) (zs : List Int) (j : Nat) (w : World) (h : QR w B bq g cap zs) (hj : j < zs.length) (hu : UpEx zs.length zs j) :
    Calls Try.prog 65 #[.iface 55 (.pointer (some ⟨bq, 2, none⟩)), .int .i64 j] w fun e w' => e = .returned (.tuple #[]) ∧ ∃ zs', zs'.Perm zs ∧ Heap zs'.length zs' ∧ QR w' B bq g cap zs' ∧ w.grownBy w' (some g) := by
  go_enter Try.func65, Try.ntmps65
  go_wp2_with fail
  go_loopw [1] (fun i wr => ∃ (k : Nat) (ys : List Int), i = .int .i64 k ∧ k < ys.length ∧ ys.Perm zs ∧ UpEx ys.length ys k ∧ QR wr B bq g cap ys ∧ w.grownBy wr (some g)) (fun i _ => (intOf i).toNat)
  case atStart => exact ⟨j, zs, rfl, hj, .refl _, hu, h, grown_refl _ _⟩
  case round =>
    obtain ⟨k, ys, rfl, hk, hp, hux, hq, hg⟩ := hrel
    have hlen := hq.len
    by_cases h0 : k = 0
    · subst h0
      go_wp2_with fail
      go_end0
      exact ⟨rfl, ys, hp, up_stop _ _ _ hux (Or.inl rfl), hq, hg⟩
    · obtain ⟨p, hpk⟩ : ∃ p, p = (k - 1) / 2 := ⟨_, rfl⟩
      have e1 : ((k : Int) - 1) / 2 = (p : Int) := by omega
      have e2 : ((p : Int) == (k : Int)) = false := by rw [beq_eq_false_iff_ne]; omega
      have hml := meth_less ⟨bq, 2, none⟩ wr _ _ _ hq.cell
      have hen := enter101
      have hpl : p < k := by omega
      have hpk' := Lib.hid hpk
      clear hpk
      go_wp2_with fail
      refine (less_any g cap ys k p wr hlen hq.cells hk (by omega)).mono ?_
      rintro e w1 ⟨rfl, q, rfl⟩
      clear hml hen
      rcases Bool.eq_false_or_eq_true (ltAt ys k p) with hlt | hlt
      · have hq1 := hq.drew q
        have hms := meth_swap ⟨bq, 2, none⟩ (wr.drewN q) _ _ _ hq1.cell
        have hen := enter102
        go_wp2_with fail
        refine (swap_any g cap ys p k _ hlen hq1.cells (fun x => World.ownsRow.frozenAt hq1.row x) (by omega) hk).mono ?_
        rintro e w1 ⟨rfl, q2, rfl⟩
        obtain ⟨hq2, hg2⟩ := hq1.swap p k q2
        have hg3 := grown_trans (grown_drew hg q) hg2
        have hpk := hpk'.out
        have hux' : UpEx (swp ys p k).length (swp ys p k) p := by
          rw [swp_len, hpk]
          exact up_step _ _ _ (Nat.le_refl _) hux (by omega) hk (by rw [← hpk]; unfold ltAt at hlt; simpa using hlt)
        have hp' : (swp ys p k).Perm zs := (swp_perm ys p k (by omega) hk).trans hp
        have hl' : p < (swp ys p k).length := by rw [swp_len]; omega
        generalize swp ys p k = ys' at hq2 hux' hp' hl'
        generalize ((((wr.drewN q).setCell _ _).setCell _ _).drewN q2) = w3 at hq2 hg3 ⊢
        clear hms hen hg2 hq1 hq hg hlt hpk
        go_wp2_with fail
        go_roundw
        case rel => exact ⟨p, ys', by first | rfl | (rw [e1]), hl', hp', hux', hq2, hg3⟩
        case measure => simp [intOf]; omega
      · go_wp2_with fail
        go_end0
        refine ⟨rfl, ys, hp, up_stop _ _ _ hux (Or.inr ?_), hq.drew q, grown_drew hg q⟩
        rw [← hpk'.out]; unfold ltAt at hlt; simpa using hlt
end Go.Proofs.Ytkicoaphchpngaa
