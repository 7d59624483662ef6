/- Union of two sets. -/
import Derived.Test.YtihoegihmgeenaaJ
import Derived.Deep.AppendLies
import Derived.Deep.RegionLaw
import Derived.Deep.DeepMust
namespace Go.Proofs.Ytihoegihmgeenaa
open Go.RowKit
set_option linter.unusedVariables false
set_option linter.unusedSimpArgs false
theorem ret_ib {a a' : Int} {b : Bool} (h : a = a') : Ending.returned (.tuple #[.int .i64 a, .bool b]) = .returned (.tuple #[.int .i64 a', .bool b]) := by rw [h]
theorem after_drew {W w1 : World} {B b p : Nat} {rows : List Row} (S : SxL W B b rows) {o : Obj} {v : Value} (hg : ((W.drewN p).alloc o).grownBy w1 v.ownBlock) (hv : v.ownBlock ≠ some b) : w1.heap[b]? = W.heap[b]? :=
  SxL.after (W := W.drewN p) (S.keep fun _ _ => rfl) hg hv
theorem RW.push5 {W0 : World} {F0 : Nat → Prop} {wx w1 : World} {B b n m g1 c1 g2 c2 g3 c3 g4 c4 g5 c5 g e H : Nat} {x1 x2 x3 x4 : List Nat} {x5 : List (Int × Int)} {o : Obj} {p q : Nat} {y z : Int}
    (S : SxL wx B b (five n m g1 c1 g2 c2 g3 c3 g4 c4 g5 c5 x1 x2 x3 x4 x5)) (T : Step W0 wx F0 (foot b (five n m g1 c1 g2 c2 g3 c3 g4 c4 g5 c5 x1 x2 x3 x4 x5)))
    (hg : ((wx.drewN p).alloc o).grownBy w1 (sl g5 m c5).ownBlock) (hown : w1.ownsRow B 53 2 (sl g (m + 1) e) (m + 1) (opv x5 ++ [.int .i64 y, .int .i64 z])) (hat : (sl g5 m c5).ownBlock = some g ∨ g = H) (hH : wx.heap.size ≤ H) :
    RW W0 F0 B b n (m + 1) x1 x2 x3 x4 (x5 ++ [(y, z)]) ((w1.setCell ⟨b, 5, none⟩ (sl g (m + 1) e)).drewN q) := by
  have S' : SxL (wx.drewN p) B b ([⟨sl g1 n c1, 3, 1, n, nums x1⟩, ⟨sl g2 n c2, 3, 1, n, nums x2⟩, ⟨sl g3 n c3, 3, 1, n, nums x3⟩, ⟨sl g4 n c4, 3, 1, n, nums x4⟩] ++ ⟨sl g5 m c5, 53, 2, m, opv x5⟩ :: []) := S.keep fun _ _ => rfl
  have P := S'.push hg hown hat hH 5 rfl
  rw [← opv_snoc] at P
  exact ⟨g1, c1, g2, c2, g3, c3, g4, c4, g, e, P.1.keep fun _ _ => rfl, ((T.trans (st_drew _ p _)).trans P.2).trans (st_drew _ _ _)⟩

set_option maxRecDepth 100000 in
set_option maxHeartbeats 8000000 in
theorem union_joinA (B b : Nat) (h : List HOp) (F : Nat → Prop) (x y r c : Nat) (w : World) (u : U w B b h F) (hs : h.length ≤ 60) (hx : x < nE h) (hy : y < nE h) (ex : R h x = r) (ey : R h y = c) (hrc : r ≠ c) (hlt : ¬ (siz h).getD r 0 < (siz h).getD c 0) :
    Calls Try.prog 14 #[.pointer (some ⟨b, 0, none⟩), .int .i64 x, .int .i64 y] w fun e w' => e = .returned (.tuple #[.int .i64 (min ((lst h).getD r 0) ((lst h).getD c 0) : Nat), .bool true]) ∧ ∃ F', U w' B b (some (r, c) :: h) F' ∧ Step w w' F F' := by
  have hus := Lib.hid (usable_any B b h F w u)
  have h1 := has_any B b h F x w u
  have h2 := has_any B b h F y w u
  rw [has_nat hx] at h1
  rw [has_nat hy] at h2
  have H1 := Lib.hid h1
  have H2 := Lib.hid h2
  have r1 := root_any B b h F x w u hx (by omega)
  have r2 := root_any B b h F y w u hy (by omega)
  have hok := u.ok
  have hRx := R_lt h hok x hx
  have hRy := R_lt h hok y hy
  have iRx := R_idem h hok x
  have iRy := R_idem h hok y
  rw [ex] at r1 hRx iRx
  rw [ey] at r2 hRy iRy
  have hne := nE_le h
  have R1 := Lib.hid r1
  have R2 := Lib.hid r2
  have hrl : r < nE h := by first | exact hRx | exact hRy
  have hcl : c < nE h := by first | exact hRx | exact hRy
  have hok2 : Hid (ok (some (r, c) :: h)) := Lib.hid ⟨hok, hrl, hcl, hrc, by first | exact iRx | exact iRy, by first | exact iRx | exact iRy⟩
  have Q0 := Lib.hid (fun q => RW.start u (by omega) q)
  have HF := Lib.hid ex
  obtain ⟨g1, c1, g2, c2, g3, c3, g4, c4, g5, c5, S0, T0⟩ := Q0.out 0
  have A := five_fct S0
  have k2 : w.cell? ⟨b, 2, none⟩ = some (sl g2 (nE h) c2) := A.k2
  have sr : w.cell? ⟨g2, r, none⟩ = some (.int .i64 ((siz h).getD r 0 : Nat)) := A.d2 r hrl
  have sc : w.cell? ⟨g2, c, none⟩ = some (.int .i64 ((siz h).getD c 0 : Nat)) := A.d2 c hcl
  clear h1 h2 r1 r2 ex ey iRx iRy A S0 T0 u hx hy hok
  have b1 : (siz h).getD r 0 ≤ 2 ^ 60 := Nat.le_trans (siz_le h r) (Nat.pow_le_pow_right (by omega) hs)
  have b2 : (siz h).getD c 0 ≤ 2 ^ 60 := Nat.le_trans (siz_le h c) (Nat.pow_le_pow_right (by omega) hs)
  have HS := Lib.hid (And.intro b1 b2)
  clear b1 b2
  generalize hs1 : (siz h).getD r 0 = s1 at sr hlt HS
  generalize hs2 : (siz h).getD c 0 = s2 at sc hlt HS
  have HS1 := Lib.hid hs1
  have HS2 := Lib.hid hs2
  have hrc' : ¬ (r : Int) = (c : Int) := by omega
  have hrc2 : ¬ (c : Int) = (r : Int) := by omega
  have hri : (r : Int) < (nE h : Int) := by omega
  have hci : (c : Int) < (nE h : Int) := by omega
  clear hs1 hs2
  go_enter Try.func14, Try.ntmps14
  go_wp2_with fail
  refine hus.out.mono ?_; rintro e w' ⟨rfl, rfl⟩
  go_wp2_with fail
  refine H1.out.mono ?_; rintro e w' ⟨rfl, rfl⟩
  go_wp2_with fail
  refine H2.out.mono ?_; rintro e w' ⟨rfl, rfl⟩
  go_wp2_with fail
  refine R1.out.mono ?_; rintro e w' ⟨rfl, rfl⟩
  go_wp2_with fail
  refine R2.out.mono ?_; rintro e w' ⟨rfl, rfl⟩
  go_wp2_with fail
  go_quiet (fail)
  go_wp2_with fail
  have Q := Q0.out nq
  generalize w.drewN nq = W at Q ⊢
  clear k2 sr sc
  go_cut [] (fun wx => RW w F B b (nE h) (h.length + 1) (par h) (siz h) (lst h) (nxt h) (trl h ++ [((c : Int), (((lst h).getD r 0 : Nat) : Int))]) wx)
  case first =>
    obtain ⟨i53, hi53, hz53, hs53, hb53⟩ := info_parts info53
    obtain ⟨g1, c1, g2, c2, g3, c3, g4, c4, g5, c5, S, T⟩ := Q
    have A := five_fct S
    have k3 : W.cell? ⟨b, 3, none⟩ = some (sl g3 (nE h) c3) := A.k3
    have k5 : W.cell? ⟨b, 5, none⟩ = some (sl g5 h.length c5) := A.k5
    have d3 : W.cell? ⟨g3, r, none⟩ = some (.int .i64 ((lst h).getD r 0 : Nat)) := A.d3 r hrl
    have o5 := Lib.hid A.o5
    have lt := A.lt
    have hS := Lib.hid S
    have hT := Lib.hid T
    clear A S T
    generalize hl : (lst h).getD r 0 = l at d3 ⊢
    have Hl := Lib.hid hl
    clear hl
    go_region_law (first | (refine step_append_lies _ rfl (.tmp 62) (.tmp 72) 45 rfl B 53 i53 (.agg #[.int .i64 0, .int .i64 0]) 2 16 Try.underlying45 hi53 hz53 hs53 hb53 rfl (by decide) (sl g5 h.length c5) h.length (opv (trl h)) (by simp [Act.eval, Act.put]) (by exact o5.out.alloc _) ⟨W.heap.size, 0, none⟩ 1 1 [.int .i64 c, .int .i64 l] (by simp [Act.eval, Act.put]) rfl (by exact lit_cells_at _ #[.int .i64 c, .int .i64 l] 53 _ (by simp)) (by simp [Value.oneCell']) (by decide) (by unfold maxLen; omega) (by omega) (by simp; omega) (W.heap.size + 1) (by simp) ?_; intro g e w1 hown hgrow hat hlt'; have bb := after_drew (p := 1) hS.out hgrow (hS.out.off ⟨sl g5 h.length c5, 53, 2, h.length, opv (trl h)⟩ (by simp [five])); have x5 : w1.cell? ⟨b, 5, none⟩ = some (sl g5 h.length c5) := (cell_blk bb).trans k5; have y5 : w1.frozen? ⟨b, 5, none⟩ = false := (free_blk bb).trans (hS.out.free 5)))
    all_goals (go_wp2_with fail; go_meet)
    all_goals case rel => rw [← Hl.out] at hown; exact RW.push5 (p := 1) (q := 0) hS.out hT.out hgrow hown hat (by omega)
  case rest =>
    obtain ⟨g1, c1, g2, c2, g3, c3, g4, c4, g5, c5, S, T⟩ := hcut
    have A := five_fct S
    have k1 : wc.cell? ⟨b, 1, none⟩ = some (sl g1 (nE h) c1) := A.k1
    have d1 := A.d1 c hcl
    have f1 := A.f1 c
    have hS := Lib.hid S
    have hT := Lib.hid T
    clear A S T Q
    generalize (par h).getD c 0 = l at d1
    go_wp2_with fail
    have Q2 := RW.set1 hS.out hT.out c r 0
    clear hS hT k1 d1 f1
    generalize wc.setCell ⟨g1, c, none⟩ (.int .i64 r) = W2 at Q2 ⊢
    have Q3 : RW w F B b (nE h) (h.length + 1) ((par h).set c r) (siz h) (lst h) (nxt h) (trl h ++ [((c : Int), (((lst h).getD r 0 : Nat) : Int))]) W2 := Q2
    clear Q2
    go_cut [] (fun wx => RW w F B b (nE h) (h.length + 1) ((par h).set c r) ((siz h).set r ((siz h).getD r 0 + (siz h).getD c 0)) (lst h) (nxt h) (trl h ++ [((c : Int), (((lst h).getD r 0 : Nat) : Int))]) wx)
    case first =>
      obtain ⟨g1, c1, g2, c2, g3, c3, g4, c4, g5, c5, S, T⟩ := Q3
      have A := five_fct S
      have k2 : W2.cell? ⟨b, 2, none⟩ = some (sl g2 (nE h) c2) := A.k2
      have d2 := A.d2 r hrl
      have e2 := A.d2 c hcl
      have f2 := A.f2 r
      rw [HS1.out] at d2
      rw [HS2.out] at e2
      have b1 : s1 ≤ 1152921504606846976 := HS.out.1
      have b2 : s2 ≤ 1152921504606846976 := HS.out.2
      have Q4 := RW.set2 S T r (s1 + s2) 1
      rw [Int.natCast_add] at Q4
      have HQ := Lib.hid Q4
      clear A S T Q4
      go_region
      all_goals (go_wp2_with fail; go_meet)
      all_goals case rel => rw [HS1.out, HS2.out]; exact HQ.out
    case rest =>
      clear Q3
      go_upto_region 13 with fail
      go_cut [] (fun wx => RW w F B b (nE h) (h.length + 1) ((par h).set c r) ((siz h).set r ((siz h).getD r 0 + (siz h).getD c 0)) ((lst h).set r (min ((lst h).getD r 0) ((lst h).getD c 0))) (nxt h) (trl h ++ [((c : Int), (((lst h).getD r 0 : Nat) : Int))]) wx)
      case first =>
        obtain ⟨g1, c1, g2, c2, g3, c3, g4, c4, g5, c5, S, T⟩ := hcut
        have A := five_fct S
        have k3 : wc.cell? ⟨b, 3, none⟩ = some (sl g3 (nE h) c3) := A.k3
        have d3 := A.d3 r hrl
        have e3 := A.d3 c hcl
        have f3 := A.f3 r
        have Q6 := fun v => RW.set3 S T r v 1
        have HQ := Lib.hid Q6
        clear A S T Q6
        generalize hl1 : (lst h).getD r 0 = l1 at d3
        generalize hl2 : (lst h).getD c 0 = l2 at e3
        have Hl1 := Lib.hid hl1
        have Hl2 := Lib.hid hl2
        clear hl1 hl2
        by_cases hm : l2 < l1
        · have em : min l1 l2 = l2 := by omega
          have Hem := Lib.hid em
          clear em
          go_region
          all_goals go_wp2_with fail
          all_goals go_meet
          all_goals case rel => have := HQ.out (min l1 l2); rw [Hl1.out, Hl2.out]; rw [Hem.out, Hl1.out] at this; rw [Hem.out]; exact this
        · have em : min l1 l2 = l1 := by omega
          have Hem := Lib.hid em
          clear em
          go_region
          all_goals go_wp2_with fail
          all_goals go_meet
          all_goals case rel => have := HQ.out (min l1 l2); rw [Hl1.out, Hl2.out]; rw [Hem.out, Hl1.out] at this; rw [Hem.out]; exact this
      case rest =>
        obtain ⟨g1, c1, g2, c2, g3, c3, g4, c4, g5, c5, S, T⟩ := hcut
        have A := five_fct S
        have k4 : wc.cell? ⟨b, 4, none⟩ = some (sl g4 (nE h) c4) := A.k4
        have hsw := Lib.hid (swap_raw b g4 (nE h) c4 r c _ _ wc (by omega) hrl hcl hrc k4 (A.d4 r hrl) (A.d4 c hcl) (A.f4 r) (A.f4 c))
        have hS := Lib.hid S
        have hT := Lib.hid T
        clear A S T k4
        go_wp2_with fail
        refine hsw.out.mono ?_
        rintro e w' ⟨rfl, q, rfl⟩
        have Q7 := RW.swap4 hS.out hT.out r ((nxt h).getD c 0) c ((nxt h).getD r 0) q
        generalize ((wc.setCell ⟨g4, r, none⟩ (.int .i64 ((nxt h).getD c 0 : Nat))).setCell ⟨g4, c, none⟩ (.int .i64 ((nxt h).getD r 0 : Nat))).drewN q = W5 at Q7 ⊢
        have hfin := Q7.finish (h := some (r, c) :: h) hok2.out
        have HF := Lib.hid hfin
        obtain ⟨g1, c1, g2, c2, g3, c3, g4, c4, g5, c5, S, T⟩ := Q7
        have A := five_fct S
        have k3 : W5.cell? ⟨b, 3, none⟩ = some (sl g3 (nE h) c3) := A.k3
        have d3 := A.d3 r hrl
        rw [set_at (by rw [len_lst]; exact hrl)] at d3
        clear A S T hfin hS hT hsw
        generalize hlm : min ((lst h).getD r 0) ((lst h).getD c 0) = lm at d3
        have Hlm := Lib.hid hlm
        clear hlm
        go_wp2
        go_ret2
        exact ⟨ret_ib (by rw [Hlm.out]), HF.out⟩
end Go.Proofs.Ytihoegihmgeenaa
