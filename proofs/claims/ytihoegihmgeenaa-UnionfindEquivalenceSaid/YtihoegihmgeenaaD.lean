/- Make. -/
import Derived.Test.YtihoegihmgeenaaC
import Derived.Deep.DeepMust
namespace Go.Proofs.Ytihoegihmgeenaa
open Go.RowKit
set_option linter.unusedVariables false
set_option linter.unusedSimpArgs false
theorem own_get {w : World} {B b : Nat} {L R : List Row} {r : Row} (S : SxL w B b (L ++ r :: R)) : w.ownsRow B r.e r.sz r.v r.n r.xs := S.own r (by simp)
theorem off_get {w : World} {B b : Nat} {L R : List Row} {r : Row} (S : SxL w B b (L ++ r :: R)) : r.v.ownBlock ≠ some b := S.off r (by simp)
theorem make_rows (h : List HOp) (g1 e1 g2 e2 g3 e3 g4 e4 g5 e5 : Nat) : rowsOf (none :: h) (.slice (some ⟨g1, 0, none⟩) (nE h + 1) e1) (.slice (some ⟨g2, 0, none⟩) (nE h + 1) e2) (.slice (some ⟨g3, 0, none⟩) (nE h + 1) e3) (.slice (some ⟨g4, 0, none⟩) (nE h + 1) e4) (.slice (some ⟨g5, 0, none⟩) (h.length + 1) e5) =
    [⟨.slice (some ⟨g1, 0, none⟩) (nE h + 1) e1, 3, 1, nE h + 1, nums (par h) ++ [.int .i64 (nE h)]⟩, ⟨.slice (some ⟨g2, 0, none⟩) (nE h + 1) e2, 3, 1, nE h + 1, nums (siz h) ++ [.int .i64 1]⟩, ⟨.slice (some ⟨g3, 0, none⟩) (nE h + 1) e3, 3, 1, nE h + 1, nums (lst h) ++ [.int .i64 (nE h)]⟩, ⟨.slice (some ⟨g4, 0, none⟩) (nE h + 1) e4, 3, 1, nE h + 1, nums (nxt h) ++ [.int .i64 (nE h)]⟩, ⟨.slice (some ⟨g5, 0, none⟩) (h.length + 1) e5, 53, 2, h.length + 1, opv (trl h) ++ [.int .i64 (-1), .int .i64 0]⟩] := by
  simp [rowsOf, nE, par, siz, lst, nxt, trl, nums_snoc, opv_snoc]
theorem make_fin (h : List HOp) (w5 : World) (B b : Nat) (g1 e1 g2 e2 g3 e3 g4 e4 g5 e5 : Nat) (hok : ok h)
    (S : SxL (w5.setCell ⟨b, 5, none⟩ (.slice (some ⟨g5, 0, none⟩) (h.length + 1) e5)) B b [⟨.slice (some ⟨g1, 0, none⟩) (nE h + 1) e1, 3, 1, nE h + 1, nums (par h) ++ [.int .i64 (nE h)]⟩, ⟨.slice (some ⟨g2, 0, none⟩) (nE h + 1) e2, 3, 1, nE h + 1, nums (siz h) ++ [.int .i64 1]⟩, ⟨.slice (some ⟨g3, 0, none⟩) (nE h + 1) e3, 3, 1, nE h + 1, nums (lst h) ++ [.int .i64 (nE h)]⟩, ⟨.slice (some ⟨g4, 0, none⟩) (nE h + 1) e4, 3, 1, nE h + 1, nums (nxt h) ++ [.int .i64 (nE h)]⟩, ⟨.slice (some ⟨g5, 0, none⟩) (h.length + 1) e5, 53, 2, h.length + 1, opv (trl h) ++ [.int .i64 (-1), .int .i64 0]⟩]) :
    U (w5.setCell ⟨b, 5, none⟩ (.slice (some ⟨g5, 0, none⟩) (h.length + 1) e5)) B b (none :: h) (foot b [⟨.slice (some ⟨g1, 0, none⟩) (nE h + 1) e1, 3, 1, nE h + 1, nums (par h) ++ [.int .i64 (nE h)]⟩, ⟨.slice (some ⟨g2, 0, none⟩) (nE h + 1) e2, 3, 1, nE h + 1, nums (siz h) ++ [.int .i64 1]⟩, ⟨.slice (some ⟨g3, 0, none⟩) (nE h + 1) e3, 3, 1, nE h + 1, nums (lst h) ++ [.int .i64 (nE h)]⟩, ⟨.slice (some ⟨g4, 0, none⟩) (nE h + 1) e4, 3, 1, nE h + 1, nums (nxt h) ++ [.int .i64 (nE h)]⟩, ⟨.slice (some ⟨g5, 0, none⟩) (h.length + 1) e5, 53, 2, h.length + 1, opv (trl h) ++ [.int .i64 (-1), .int .i64 0]⟩]) := by
  have e := make_rows h g1 e1 g2 e2 g3 e3 g4 e4 g5 e5
  exact ⟨_, _, _, _, _, ⟨hok, by rw [e]; exact S, by rw [e]⟩⟩
theorem make_foot (h : List HOp) (w w' : World) (F F' : Nat → Prop) (b : Nat) (g1 e1 g2 e2 g3 e3 g4 e4 g5 e5 : Nat) (S : Step w w' F F') : Step w w' F F' := S
set_option maxHeartbeats 4000000 in
theorem make_any (B b : Nat) (h : List HOp) (F : Nat → Prop) (w : World) (u : U w B b h F) (hs : h.length ≤ 1000) :
    Calls Try.prog 13 #[.pointer (some ⟨b, 0, none⟩)] w fun e w' => e = .returned (.int .i64 (nE h)) ∧ ∃ F', U w' B b (none :: h) F' ∧ Step w w' F F' := by
  have hus := Lib.hid (usable_any B b h F w u)
  have hok := u.ok
  have hB := u.base
  obtain ⟨v1, v2, v3, v4, v5, u⟩ := u
  have hF := Lib.hid u.ft
  have S0 := u.rows
  have k1 := u.acc.k1
  obtain ⟨⟨p1, c1, rfl⟩, ⟨p2, c2, rfl⟩, ⟨p3, c3, rfl⟩, ⟨p4, c4, rfl⟩, ⟨p5, c5, rfl⟩⟩ := u.sizes
  have hn := nE_le h
  have hlt : b < w.heap.size := (Array.getElem?_eq_some_iff.1 S0.blk).1
  obtain ⟨i3, hi3, hz3, hs3, hb3⟩ := info_parts info3
  obtain ⟨i53, hi53, hz53, hs53, hb53⟩ := info_parts info53
  have HS0 := Lib.hid S0
  clear S0 u
  go_enter Try.func13, Try.ntmps13
  go_wp2_with fail
  refine hus.out.mono ?_
  rintro e w' ⟨rfl, rfl⟩
  have T0 : SxL w B b ([] ++ ⟨(.slice p1 (nE h) c1), 3, 1, nE h, nums (par h)⟩ :: [⟨(.slice p2 (nE h) c2), 3, 1, nE h, nums (siz h)⟩, ⟨(.slice p3 (nE h) c3), 3, 1, nE h, nums (lst h)⟩, ⟨(.slice p4 (nE h) c4), 3, 1, nE h, nums (nxt h)⟩, ⟨(.slice p5 h.length c5), 53, 2, h.length, opv (trl h)⟩]) := HS0.out
  have own0 : w.ownsRow B 3 1 (.slice p1 (nE h) c1) (nE h) (nums (par h)) := own_get T0
  have own0 := Lib.hid own0
  have HT0 := Lib.hid T0
  clear T0
  go_wp2_with (at_builtin; go_must (refine wpList_append_lies _ rfl (.tmp 16) (.tmp 18) 42 rfl B 3 i3 (.int .i64 0) 1 8 Try.underlying42 hi3 hz3 hs3 hb3 rfl (by decide) _ _ _ rfl (own0.out.alloc _) ⟨w.heap.size, 0, none⟩ 1 1 [.int .i64 (nE h)] rfl rfl (lit_cells_at w #[.int .i64 (nE h)] 3 _ (by first | rfl | exact size_set _ _ _)) (by simp [Value.oneCell']) (by decide) (by unfold maxLen; omega) (by omega) (by simp [World.setCell]; omega) (w.heap.size + 1) (by simp [World.setCell]) ?_))
  intro g1 e1 w1 hown1 hgrow1 hat1 hlt1
  have b1 := HT0.out.after hgrow1 (off_get HT0.out)
  have P1 := HT0.out.push hgrow1 hown1 hat1 (by simp [World.setCell]) 1 rfl
  have HS1 := Lib.hid P1.1
  have HP1 := Lib.hid P1.2
  have x1 : w1.cell? ⟨b, 1, none⟩ = some (.slice p1 (nE h) c1) := (cell_blk b1).trans (HT0.out.cell 0 _ rfl)
  have y1 : w1.frozen? ⟨b, 1, none⟩ = false := (free_blk b1).trans (HT0.out.free 1)
  have k2 : w1.cell? ⟨b, 2, none⟩ = some (.slice p2 (nE h) c2) := (cell_blk b1).trans (HT0.out.cell 1 _ rfl)
  have z1 : B ≤ w1.heap.size := by have := hgrow1.size; simp [World.setCell] at this; omega
  clear P1 b1 hown1 hgrow1 hat1 hlt1 own0 HS0
  have T1 : SxL (w1.setCell ⟨b, 1, none⟩ (.slice (some ⟨g1, 0, none⟩) (nE h + 1) e1)) B b ([⟨.slice (some ⟨g1, 0, none⟩) (nE h + 1) e1, 3, 1, nE h + 1, nums (par h) ++ [.int .i64 (nE h)]⟩] ++ ⟨(.slice p2 (nE h) c2), 3, 1, nE h, nums (siz h)⟩ :: [⟨(.slice p3 (nE h) c3), 3, 1, nE h, nums (lst h)⟩, ⟨(.slice p4 (nE h) c4), 3, 1, nE h, nums (nxt h)⟩, ⟨(.slice p5 h.length c5), 53, 2, h.length, opv (trl h)⟩]) := HS1.out
  have own1 : (w1.setCell ⟨b, 1, none⟩ (.slice (some ⟨g1, 0, none⟩) (nE h + 1) e1)).ownsRow B 3 1 (.slice p2 (nE h) c2) (nE h) (nums (siz h)) := own_get T1
  have own1 := Lib.hid own1
  have HT1 := Lib.hid T1
  clear T1
  go_wp2_with (at_builtin; go_must (refine wpList_append_lies _ rfl (.tmp 26) (.tmp 27) 42 rfl B 3 i3 (.int .i64 0) 1 8 Try.underlying42 hi3 hz3 hs3 hb3 rfl (by decide) _ _ _ rfl (own1.out.alloc _) ⟨w1.heap.size, 0, none⟩ 1 1 [.int .i64 1] rfl rfl (lit_cells_at (w1.setCell ⟨b, 1, none⟩ (.slice (some ⟨g1, 0, none⟩) (nE h + 1) e1)) #[.int .i64 1] 3 _ (by first | rfl | exact size_set _ _ _)) (by simp [Value.oneCell']) (by decide) (by unfold maxLen; omega) (by omega) (by simp [World.setCell]; omega) (w1.heap.size + 1) (by simp [World.setCell]) ?_))
  intro g2 e2 w2 hown2 hgrow2 hat2 hlt2
  have b2 := HT1.out.after hgrow2 (off_get HT1.out)
  have P2 := HT1.out.push hgrow2 hown2 hat2 (by simp [World.setCell]) 2 rfl
  have HS2 := Lib.hid P2.1
  have HP2 := Lib.hid P2.2
  have x2 : w2.cell? ⟨b, 2, none⟩ = some (.slice p2 (nE h) c2) := (cell_blk b2).trans (HT1.out.cell 1 _ rfl)
  have y2 : w2.frozen? ⟨b, 2, none⟩ = false := (free_blk b2).trans (HT1.out.free 2)
  have k3 : w2.cell? ⟨b, 3, none⟩ = some (.slice p3 (nE h) c3) := (cell_blk b2).trans (HT1.out.cell 2 _ rfl)
  have z2 : B ≤ w2.heap.size := by have := hgrow2.size; simp [World.setCell] at this; omega
  clear P2 b2 hown2 hgrow2 hat2 hlt2 own1 HS1
  have T2 : SxL (w2.setCell ⟨b, 2, none⟩ (.slice (some ⟨g2, 0, none⟩) (nE h + 1) e2)) B b ([⟨.slice (some ⟨g1, 0, none⟩) (nE h + 1) e1, 3, 1, nE h + 1, nums (par h) ++ [.int .i64 (nE h)]⟩, ⟨.slice (some ⟨g2, 0, none⟩) (nE h + 1) e2, 3, 1, nE h + 1, nums (siz h) ++ [.int .i64 1]⟩] ++ ⟨(.slice p3 (nE h) c3), 3, 1, nE h, nums (lst h)⟩ :: [⟨(.slice p4 (nE h) c4), 3, 1, nE h, nums (nxt h)⟩, ⟨(.slice p5 h.length c5), 53, 2, h.length, opv (trl h)⟩]) := HS2.out
  have own2 : (w2.setCell ⟨b, 2, none⟩ (.slice (some ⟨g2, 0, none⟩) (nE h + 1) e2)).ownsRow B 3 1 (.slice p3 (nE h) c3) (nE h) (nums (lst h)) := own_get T2
  have own2 := Lib.hid own2
  have HT2 := Lib.hid T2
  clear T2
  go_wp2_with (at_builtin; go_must (refine wpList_append_lies _ rfl (.tmp 35) (.tmp 37) 42 rfl B 3 i3 (.int .i64 0) 1 8 Try.underlying42 hi3 hz3 hs3 hb3 rfl (by decide) _ _ _ rfl (own2.out.alloc _) ⟨w2.heap.size, 0, none⟩ 1 1 [.int .i64 (nE h)] rfl rfl (lit_cells_at (w2.setCell ⟨b, 2, none⟩ (.slice (some ⟨g2, 0, none⟩) (nE h + 1) e2)) #[.int .i64 (nE h)] 3 _ (by first | rfl | exact size_set _ _ _)) (by simp [Value.oneCell']) (by decide) (by unfold maxLen; omega) (by omega) (by simp [World.setCell]; omega) (w2.heap.size + 1) (by simp [World.setCell]) ?_))
  intro g3 e3 w3 hown3 hgrow3 hat3 hlt3
  have b3 := HT2.out.after hgrow3 (off_get HT2.out)
  have P3 := HT2.out.push hgrow3 hown3 hat3 (by simp [World.setCell]) 3 rfl
  have HS3 := Lib.hid P3.1
  have HP3 := Lib.hid P3.2
  have x3 : w3.cell? ⟨b, 3, none⟩ = some (.slice p3 (nE h) c3) := (cell_blk b3).trans (HT2.out.cell 2 _ rfl)
  have y3 : w3.frozen? ⟨b, 3, none⟩ = false := (free_blk b3).trans (HT2.out.free 3)
  have k4 : w3.cell? ⟨b, 4, none⟩ = some (.slice p4 (nE h) c4) := (cell_blk b3).trans (HT2.out.cell 3 _ rfl)
  have z3 : B ≤ w3.heap.size := by have := hgrow3.size; simp [World.setCell] at this; omega
  clear P3 b3 hown3 hgrow3 hat3 hlt3 own2 HS2
  have T3 : SxL (w3.setCell ⟨b, 3, none⟩ (.slice (some ⟨g3, 0, none⟩) (nE h + 1) e3)) B b ([⟨.slice (some ⟨g1, 0, none⟩) (nE h + 1) e1, 3, 1, nE h + 1, nums (par h) ++ [.int .i64 (nE h)]⟩, ⟨.slice (some ⟨g2, 0, none⟩) (nE h + 1) e2, 3, 1, nE h + 1, nums (siz h) ++ [.int .i64 1]⟩, ⟨.slice (some ⟨g3, 0, none⟩) (nE h + 1) e3, 3, 1, nE h + 1, nums (lst h) ++ [.int .i64 (nE h)]⟩] ++ ⟨(.slice p4 (nE h) c4), 3, 1, nE h, nums (nxt h)⟩ :: [⟨(.slice p5 h.length c5), 53, 2, h.length, opv (trl h)⟩]) := HS3.out
  have own3 : (w3.setCell ⟨b, 3, none⟩ (.slice (some ⟨g3, 0, none⟩) (nE h + 1) e3)).ownsRow B 3 1 (.slice p4 (nE h) c4) (nE h) (nums (nxt h)) := own_get T3
  have own3 := Lib.hid own3
  have HT3 := Lib.hid T3
  clear T3
  go_wp2_with (at_builtin; go_must (refine wpList_append_lies _ rfl (.tmp 45) (.tmp 47) 42 rfl B 3 i3 (.int .i64 0) 1 8 Try.underlying42 hi3 hz3 hs3 hb3 rfl (by decide) _ _ _ rfl (own3.out.alloc _) ⟨w3.heap.size, 0, none⟩ 1 1 [.int .i64 (nE h)] rfl rfl (lit_cells_at (w3.setCell ⟨b, 3, none⟩ (.slice (some ⟨g3, 0, none⟩) (nE h + 1) e3)) #[.int .i64 (nE h)] 3 _ (by first | rfl | exact size_set _ _ _)) (by simp [Value.oneCell']) (by decide) (by unfold maxLen; omega) (by omega) (by simp [World.setCell]; omega) (w3.heap.size + 1) (by simp [World.setCell]) ?_))
  intro g4 e4 w4 hown4 hgrow4 hat4 hlt4
  have b4 := HT3.out.after hgrow4 (off_get HT3.out)
  have P4 := HT3.out.push hgrow4 hown4 hat4 (by simp [World.setCell]) 4 rfl
  have HS4 := Lib.hid P4.1
  have HP4 := Lib.hid P4.2
  have x4 : w4.cell? ⟨b, 4, none⟩ = some (.slice p4 (nE h) c4) := (cell_blk b4).trans (HT3.out.cell 3 _ rfl)
  have y4 : w4.frozen? ⟨b, 4, none⟩ = false := (free_blk b4).trans (HT3.out.free 4)
  have k5 : w4.cell? ⟨b, 5, none⟩ = some (.slice p5 h.length c5) := (cell_blk b4).trans (HT3.out.cell 4 _ rfl)
  have z4 : B ≤ w4.heap.size := by have := hgrow4.size; simp [World.setCell] at this; omega
  clear P4 b4 hown4 hgrow4 hat4 hlt4 own3 HS3
  have T4 : SxL (w4.setCell ⟨b, 4, none⟩ (.slice (some ⟨g4, 0, none⟩) (nE h + 1) e4)) B b ([⟨.slice (some ⟨g1, 0, none⟩) (nE h + 1) e1, 3, 1, nE h + 1, nums (par h) ++ [.int .i64 (nE h)]⟩, ⟨.slice (some ⟨g2, 0, none⟩) (nE h + 1) e2, 3, 1, nE h + 1, nums (siz h) ++ [.int .i64 1]⟩, ⟨.slice (some ⟨g3, 0, none⟩) (nE h + 1) e3, 3, 1, nE h + 1, nums (lst h) ++ [.int .i64 (nE h)]⟩, ⟨.slice (some ⟨g4, 0, none⟩) (nE h + 1) e4, 3, 1, nE h + 1, nums (nxt h) ++ [.int .i64 (nE h)]⟩] ++ ⟨(.slice p5 h.length c5), 53, 2, h.length, opv (trl h)⟩ :: []) := HS4.out
  have own4 : (w4.setCell ⟨b, 4, none⟩ (.slice (some ⟨g4, 0, none⟩) (nE h + 1) e4)).ownsRow B 53 2 (.slice p5 h.length c5) (h.length) (opv (trl h)) := own_get T4
  have own4 := Lib.hid own4
  have HT4 := Lib.hid T4
  clear T4
  go_wp2_with (at_builtin; go_must (refine wpList_append_lies _ rfl (.tmp 55) (.tmp 57) 45 rfl B 53 i53 (.agg #[.int .i64 0, .int .i64 0]) 2 16 Try.underlying45 hi53 hz53 hs53 hb53 rfl (by decide) _ _ _ rfl (own4.out.alloc _) ⟨w4.heap.size, 0, none⟩ 1 1 [.int .i64 (-1), .int .i64 0] rfl rfl (lit_cells_at (w4.setCell ⟨b, 4, none⟩ (.slice (some ⟨g4, 0, none⟩) (nE h + 1) e4)) #[.int .i64 (-1), .int .i64 0] 53 _ (by first | rfl | exact size_set _ _ _)) (by simp [Value.oneCell']) (by decide) (by unfold maxLen; omega) (by omega) (by simp [World.setCell]; omega) (w4.heap.size + 1) (by simp [World.setCell]) ?_))
  intro g5 e5 w5 hown5 hgrow5 hat5 hlt5
  have b5 := HT4.out.after hgrow5 (off_get HT4.out)
  have P5 := HT4.out.push hgrow5 hown5 hat5 (by simp [World.setCell]) 5 rfl
  have HS5 := Lib.hid P5.1
  have HP5 := Lib.hid P5.2
  have x5 : w5.cell? ⟨b, 5, none⟩ = some (.slice p5 h.length c5) := (cell_blk b5).trans (HT4.out.cell 4 _ rfl)
  have y5 : w5.frozen? ⟨b, 5, none⟩ = false := (free_blk b5).trans (HT4.out.free 5)
  have z5 : B ≤ w5.heap.size := by have := hgrow5.size; simp [World.setCell] at this; omega
  clear P5 b5 hown5 hgrow5 hat5 hlt5 own4 HS4
  go_wp2
  go_ret
  have hfin := make_fin h w5 B b g1 e1 g2 e2 g3 e3 g4 e4 g5 e5 hok HS5.out
  have hstep := ((((HP1.out.trans HP2.out).trans HP3.out).trans HP4.out).trans HP5.out)
  rw [hF.out]
  exact ⟨rfl, _, hfin, make_foot h w _ _ _ b g1 e1 g2 e2 g3 e3 g4 e4 g5 e5 hstep⟩
end Go.Proofs.Ytihoegihmgeenaa
