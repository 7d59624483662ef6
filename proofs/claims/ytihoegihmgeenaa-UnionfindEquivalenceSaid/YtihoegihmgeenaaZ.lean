/- Members. -/
import Derived.Test.YtihoegihmgeenaaY
namespace Go.Proofs.Ytihoegihmgeenaa
open Go.RowKit Go.Sort
set_option linter.unusedVariables false
set_option linter.unusedSimpArgs false
theorem nums_ints (l : List Nat) : nums l = (ints l).map (Value.int .i64) := by simp [nums, ints]
theorem sort_own (B g cap : Nat) (xs : List Nat) (w : World) (o : w.ownsRow B 3 1 (.slice (some ⟨g, 0, none⟩) xs.length cap) xs.length (nums xs)) (hl : xs.length ≤ 100000) :
    Calls Try.prog 32 #[.slice (some ⟨g, 0, none⟩) xs.length cap] w fun e w' => e = .returned (.tuple #[]) ∧ w'.ownsRow B 3 1 (.slice (some ⟨g, 0, none⟩) xs.length cap) xs.length (((ints xs).mergeSort fun x y => decide (x ≤ y)).map (Value.int .i64)) ∧ w.grownBy w' (some g) := by
  rcases o.2 with ⟨h, _⟩ | ⟨g', cap', cur, hv, hb, hg, hn, hc, hsz, ht⟩
  · cases h
  cases hv
  rw [Nat.mul_one] at ht
  rw [nums_ints, ← len_ints] at ht
  have hH := holds_of_blockI hg ht
  have hlt : g < w.heap.size := (Array.getElem?_eq_some_iff.1 hg).1
  have hC := Try.slices_Sort_int g 0 cap (ints xs) w hH hlt (by rw [len_ints]; omega)
  rw [len_ints] at hC
  refine hC.mono ?_
  rintro e w' ⟨rfl, n, os, rfl⟩
  refine ⟨rfl, ?_, grownBy_sortedI _⟩
  have hlen : ((ints xs).mergeSort fun x y => decide (x ≤ y)).length = (ints xs).length := List.length_mergeSort _
  have := ownsRow_sortedI (os := os) (n := n) hlen hb hg (by rw [len_ints]; exact hn) hc hsz
  rw [len_ints] at this
  exact this
theorem sorted_fin (h : List HOp) (x : Nat) (xs : List Nat) (hp : xs.Perm (mem h x)) : ((ints xs).mergeSort fun x y => decide (x ≤ y)).map (Value.int .i64) = nums (mem h x) := by
  rw [nums_ints]
  congr 1
  refine sort_ring (l := ints xs) (hp.map _) (List.mergeSort_perm _ _) ?_
  have := List.pairwise_mergeSort (le := fun x y : Int => decide (x ≤ y)) (fun a b c h1 h2 => by simp at *; omega) (fun a b => by simp; omega) (ints xs)
  exact this.imp (fun h => by simpa using h)
def slLen (v : Value) : Nat := match v with | .slice _ n _ => n | _ => 0
set_option maxHeartbeats 2000000 in
theorem members_yes (B b : Nat) (h : List HOp) (F : Nat → Prop) (x : Nat) (w : World) (u : U w B b h F) (hs : h.length ≤ 1000) (hx : x < nE h) :
    Calls Try.prog 20 #[.pointer (some ⟨b, 0, none⟩), .int .i64 x] w (LPost w (mem h (R h x))) := by
  have hhas := has_any B b h F x w u
  rw [has_nat hx] at hhas
  have Hh := Lib.hid hhas
  have hu := Lib.hid u
  have hn := nE_le h
  obtain ⟨L, hL0, hLn, hLx, hLne, hperm, hlt⟩ := ring h u.ok x hx
  have HLx := Lib.hid hLx
  have HLne := Lib.hid hLne
  have Hperm := Lib.hid hperm
  have Hlt := Lib.hid hlt
  obtain ⟨i3, hi3, hz3, hs3, hb3⟩ := info_parts info3
  obtain ⟨v1, v2, v3, v4, v5, uf⟩ := u
  obtain ⟨g1, c1, g2, c2, g3, c3, g4, c4, g5, c5, rfl, rfl, rfl, rfl, rfl⟩ := uf.shapes (by omega)
  have k4 := uf.acc.k4
  have d4 := Lib.hid (int_cell uf.acc.o4)
  have cx := d4.out x hx
  have lb : b < w.heap.size := by
    have := uf.rows.lt' b (.inl rfl); exact this
  have lg : g4 < w.heap.size := (uf.acc.o4.lt g4 rfl).2
  have hxi : (x : Int) < (nE h : Int) := by omega
  have it1 : itr (nxt h) x 1 = (nxt h).getD x 0 := rfl
  have H1 := Lib.hid it1
  generalize hz1 : (nxt h).getD x 0 = z1 at cx H1
  have own1 := Lib.hid (World.ownsRow_lit (base := w.heap.size) (size := 1) (e := 3) w #[.int .i64 x] 1 (Nat.le_refl _) (by unfold maxLen; omega) rfl)
  clear hhas hLx hLne hperm hlt uf it1 hz1
  go_enter Try.func20, Try.ntmps20
  go_wp2_with fail
  refine Hh.out.mono ?_
  rintro e w' ⟨rfl, rfl⟩
  go_wp2_with fail
  go_loopw [5, 6] (fun v y wr => ∃ j : Nat, 0 < j ∧ j ≤ L ∧ y = .int .i64 (itr (nxt h) x j : Nat) ∧ wr.ownsRow w.heap.size 3 1 v j (nums ((List.range j).map (itr (nxt h) x))) ∧ Below w.heap.size w wr) (fun v _ _ => L - slLen v)
  case atStart => exact ⟨1, by omega, by omega, by rw [H1.out], own1.out, (Below.refl _ _).alloc (Nat.le_refl _) _⟩
  case round =>
    obtain ⟨j, hj0, hjL, rfl, ov, hb⟩ := hrel
    have hwz : w.heap.size ≤ wr.heap.size := hb.size
    have Hb := Lib.hid hb
    have kk4 : wr.cell? ⟨b, 4, none⟩ = some (.slice (some ⟨g4, 0, none⟩) (nE h) c4) := (hb.cell (p := ⟨b, 4, none⟩) lb).trans k4
    by_cases hjl : j < L
    · have hne := HLne.out j hj0 hjl
      have hit := Hlt.out j
      have cy : wr.cell? ⟨g4, itr (nxt h) x j, none⟩ = some (.int .i64 ((nxt h).getD (itr (nxt h) x j) 0 : Nat)) := (hb.cell (p := ⟨g4, itr (nxt h) x j, none⟩) lg).trans (d4.out _ hit)
      have its : itr (nxt h) x (j + 1) = (nxt h).getD (itr (nxt h) x j) 0 := rfl
      have Its := Lib.hid its
      have hrng : (List.range (j + 1)).map (itr (nxt h) x) = (List.range j).map (itr (nxt h) x) ++ [itr (nxt h) x j] := by simp [List.range_succ]
      have hlen : ((List.range j).map (itr (nxt h) x)).length = j := by simp
      have Hrng := Lib.hid hrng
      have Hlen := Lib.hid hlen
      clear its hrng hlen hb k4 cx
      generalize (nxt h).getD (itr (nxt h) x j) 0 = z2 at cy Its
      generalize (List.range j).map (itr (nxt h) x) = xs at ov Hrng Hlen
      generalize itr (nxt h) x j = y at hne hit cy Hrng ⊢
      obtain ⟨q, e, rfl⟩ := own_shape ov
      have Hov := Lib.hid ov
      have hnb : ((y : Int) != (x : Int)) = true := by rw [bne_iff_ne]; omega
      have hyi : (y : Int) < (nE h : Int) := by omega
      have hslo : slLen (Value.slice q j e) = j := rfl
      clear ov hne hslo
      go_wp2_with (at_builtin; go_must (refine wpList_append_lies _ rfl (.tmp 30) (.tmp 32) 42 rfl w.heap.size 3 i3 (.int .i64 0) 1 8 Try.underlying42 hi3 hz3 hs3 hb3 rfl (by decide) _ _ _ rfl (Hov.out.alloc _) ⟨wr.heap.size, 0, none⟩ 1 1 [.int .i64 y] rfl rfl (lit_cells_at wr #[.int .i64 y] 3 _ rfl) (by simp [Value.oneCell']) (by decide) (by unfold maxLen; omega) (by omega) (by simp; omega) (wr.heap.size + 1) (by simp) ?_))
      intro g2 e2 w2 hown hgrow hat hlt2
      have hb2 := (Hb.out.alloc hwz (.cells #[.int .i64 y] 3)).grown hgrow (by simp; omega) (fun j hj => (Hov.out.lt j hj).1)
      have m4 : w2.cell? ⟨b, 4, none⟩ = some (.slice (some ⟨g4, 0, none⟩) (nE h) c4) := (hb2.cell (p := ⟨b, 4, none⟩) lb).trans ((Hb.out.cell (p := ⟨b, 4, none⟩) lb).symm.trans kk4)
      have my : w2.cell? ⟨g4, y, none⟩ = some (.int .i64 z2) := (hb2.cell (p := ⟨g4, y, none⟩) lg).trans ((Hb.out.cell (p := ⟨g4, y, none⟩) lg).symm.trans cy)
      have Hown := Lib.hid hown
      have Hb2 := Lib.hid hb2
      clear hown hgrow hat hlt2 hb2
      go_wp2_with fail
      go_roundw
      case rel => exact ⟨j + 1, by omega, by omega, by rw [Its.out], by rw [Hrng.out, nums_snoc]; exact Hown.out, Hb2.out⟩
      case measure => simp [slLen]; omega
    · have hje : j = L := by omega
      have hlen : ((List.range L).map (itr (nxt h) x)).length = L := by simp
      subst hje
      rw [HLx.out]
      obtain ⟨g, e, rfl, _⟩ := World.ownsRow.form ov hj0
      have hsrt := sort_own w.heap.size g e ((List.range j).map (itr (nxt h) x)) wr (by rw [hlen]; exact ov) (by rw [hlen]; omega)
      rw [hlen] at hsrt
      have Hsrt := Lib.hid hsrt
      have hgb := (ov.lt g rfl).1
      have Hlen := Lib.hid hlen
      clear ov hb hlen hsrt k4 cx
      go_wp2_with fail
      refine Hsrt.out.mono ?_
      rintro e' w2 ⟨rfl, o2, hg2⟩
      rw [sorted_fin h (R h x) _ Hperm.out] at o2
      have hb2 := Hb.out.grown hg2 hwz (by intro k hk; cases hk; exact hgb)
      have hlm : j = (mem h (R h x)).length := by have := Hperm.out.length_eq; rw [Hlen.out] at this; exact this
      have O2 := Lib.hid o2
      have Hb2 := Lib.hid hb2
      have Hlm := Lib.hid hlm
      clear o2 hg2 hb2 hlm
      go_wp2_with fail
      go_ret
      exact ⟨_, rfl, by rw [← Hlm.out]; exact O2.out, Hb2.out⟩
set_option maxHeartbeats 2000000 in
theorem members_no (B b : Nat) (h : List HOp) (F : Nat → Prop) (x : Int) (w : World) (u : U w B b h F) (hx : hasB h x = false) :
    Calls Try.prog 20 #[.pointer (some ⟨b, 0, none⟩), .int .i64 x] w (LPost w []) := by
  have hhas := has_any B b h F x w u
  rw [hx] at hhas
  have Hh := Lib.hid hhas
  clear hhas u hx
  go_enter Try.func20, Try.ntmps20
  go_wp2_with fail
  refine Hh.out.mono ?_
  rintro e w' ⟨rfl, rfl⟩
  go_wp2_with fail
  go_ret
  exact ⟨_, rfl, World.ownsRow_nil _ _ _ _, Below.refl _ _⟩
end Go.Proofs.Ytihoegihmgeenaa
