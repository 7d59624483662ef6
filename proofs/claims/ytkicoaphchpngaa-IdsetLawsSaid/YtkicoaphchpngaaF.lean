/- heap.Push and heap.Pop over the numbers of a work list. -/
import Derived.Test.YtkicoaphchpngaaE
namespace Go.Proofs.Ytkicoaphchpngaa
open Go.RowKit
set_option linter.unusedVariables false
/-- block bq is a work list whose map is block mb and whose numbers are zs -/
structure QS (w : World) (B bq mb : Nat) (sv : Value) (zs : List Int) : Prop where
  blk : w.heap[bq]? = some (.cells #[.pointer (some ⟨bq, 0, none⟩), .map (some mb), sv] 53 (0, 0))
  row : w.ownsRow B 3 1 sv zs.length (nums zs)
  low : B ≤ bq
/-- what an operation on the numbers may turn: the work list's own block, the numbers' block, and new ones -/
structure FrQ (w w' : World) (bq : Nat) (sv sv' : Value) : Prop where
  os : w'.os = w.os
  tape : w'.tape = w.tape
  output : w'.output = w.output
  size : w.heap.size ≤ w'.heap.size
  block : ∀ k, k < w.heap.size → k ≠ bq → some k ≠ sv.ownBlock → w'.heap[k]? = w.heap[k]?
  own : sv'.ownBlock = sv.ownBlock ∨ ∀ k, sv'.ownBlock = some k → w.heap.size ≤ k
theorem QS.lt {w : World} {B bq mb : Nat} {sv : Value} {zs : List Int} (h : QS w B bq mb sv zs) : bq < w.heap.size := (Array.getElem?_eq_some_iff.1 h.blk).1
theorem QS.cell2 {w : World} {B bq mb : Nat} {sv : Value} {zs : List Int} (h : QS w B bq mb sv zs) : w.cell? ⟨bq, 2, none⟩ = some sv := by simp [World.cell?, h.blk]
theorem QS.cell0 {w : World} {B bq mb : Nat} {sv : Value} {zs : List Int} (h : QS w B bq mb sv zs) : w.cell? ⟨bq, 0, none⟩ = some (.pointer (some ⟨bq, 0, none⟩)) := by simp [World.cell?, h.blk]
theorem QS.cell1 {w : World} {B bq mb : Nat} {sv : Value} {zs : List Int} (h : QS w B bq mb sv zs) : w.cell? ⟨bq, 1, none⟩ = some (.map (some mb)) := by simp [World.cell?, h.blk]
theorem QS.free {w : World} {B bq mb : Nat} {sv : Value} {zs : List Int} (h : QS w B bq mb sv zs) (o : Nat) : w.frozen? ⟨bq, o, none⟩ = false := frozen_of_row w bq o _ _ h.blk
theorem row_ne {w : World} {B bq : Nat} {sv : Value} {n : Nat} {xs : List Value} {C : Array Value} (hr : w.ownsRow B 3 1 sv n xs) (hb : w.heap[bq]? = some (.cells C 53 (0, 0))) : sv.ownBlock ≠ some bq := by
  rcases hr.2 with ⟨rfl, _⟩ | ⟨g, cap, cur, rfl, _, hg, _⟩
  · simp [Value.ownBlock]
  · intro e
    have e' : g = bq := by simpa [Value.ownBlock] using e
    subst e'
    rw [hg] at hb
    simp at hb
theorem QS.ne {w : World} {B bq mb : Nat} {sv : Value} {zs : List Int} (h : QS w B bq mb sv zs) : sv.ownBlock ≠ some bq := row_ne h.row h.blk
theorem QS.qr {w : World} {B bq mb g cap : Nat} {zs : List Int} (h : QS w B bq mb (.slice (some ⟨g, 0, none⟩) zs.length cap) zs) : QR w B bq g cap zs :=
  ⟨h.row, h.cell2, fun e => h.ne (by simp [Value.ownBlock, e])⟩
/-- the numbers' slice stored anew -/
theorem QS.store {w : World} {B bq mb : Nat} {sv sv' : Value} {zs : List Int} (hb : w.heap[bq]? = some (.cells #[.pointer (some ⟨bq, 0, none⟩), .map (some mb), sv] 53 (0, 0))) (hr : w.ownsRow B 3 1 sv' zs.length (nums zs)) (hl : B ≤ bq) :
    QS (w.setCell ⟨bq, 2, none⟩ sv') B bq mb sv' zs := by
  refine ⟨?_, ?_, hl⟩
  · have := heap_setCell_same w bq 2 _ 53 sv' hb
    rw [this]; rfl
  · refine World.ownsRow.kept hr (row := some bq) ⟨rfl, rfl, rfl, by simp, fun k _ hk => heap_setCell_other w ⟨bq, 2, none⟩ k sv' (fun e => hk (by simp [e]))⟩ (.inr (row_ne hr hb))
/-- the row rewritten, the work list's block as it was -/
theorem QS.of_qr {w w' : World} {B bq mb g cap : Nat} {zs zs' : List Int} (h : QS w B bq mb (.slice (some ⟨g, 0, none⟩) zs.length cap) zs) (hq : QR w' B bq g cap zs') (hl : zs'.length = zs.length) (hg : w.grownBy w' (some g)) :
    QS w' B bq mb (.slice (some ⟨g, 0, none⟩) zs'.length cap) zs' := by
  refine ⟨?_, hq.row, h.low⟩
  rw [hg.block bq h.lt (fun e => hq.ne (Option.some.inj e)), h.blk, hl]
theorem row_cap {w : World} {B g n cap : Nat} {xs : List Value} (h : w.ownsRow B 3 1 (.slice (some ⟨g, 0, none⟩) n cap) n xs) : n ≤ cap := by
  rcases h.2 with ⟨h', _⟩ | ⟨g', cap', cur, h', _, _, h1, _⟩
  · simp at h'
  · simp only [Value.slice.injEq, Option.some.injEq, Addr.mk.injEq, and_true, true_and] at h'
    obtain ⟨rfl, rfl⟩ := h'
    exact h1
theorem own_take {w : World} {B g n cap : Nat} {xs : List Value} (h : w.ownsRow B 3 1 (.slice (some ⟨g, 0, none⟩) n cap) n xs) (m : Nat) (hm : m ≤ n) : w.ownsRow B 3 1 (.slice (some ⟨g, 0, none⟩) m cap) m (xs.take m) := by
  rcases h.2 with ⟨h', _⟩ | ⟨g', cap', cur, h', hb, hg, h1, h2, h3, h4⟩
  · simp at h'
  · simp only [Value.slice.injEq, Option.some.injEq, Addr.mk.injEq, and_true, true_and] at h'
    obtain ⟨rfl, rfl⟩ := h'
    have hl : xs.length = n := by simpa using h.1
    refine ⟨by simp; omega, .inr ⟨g, cap, cur, rfl, hb, hg, by omega, h2, h3, ?_⟩⟩
    rw [← h4, Nat.mul_one, Nat.mul_one, List.take_take, Nat.min_eq_left hm]
theorem own_of {w : World} {g n c : Nat} {sv : Value} (h : some g = sv.ownBlock ∨ w.heap.size ≤ g) : (Value.slice (some ⟨g, 0, none⟩) n c).ownBlock = sv.ownBlock ∨ ∀ k, (Value.slice (some ⟨g, 0, none⟩) n c).ownBlock = some k → w.heap.size ≤ k :=
  h.imp id fun e k hk => Option.some.inj hk ▸ e
theorem FrQ.step {w w2 w3 : World} {bq : Nat} {sv sv2 : Value} (h : FrQ w w2 bq sv sv2) (hg : w2.grownBy w3 sv2.ownBlock) : FrQ w w3 bq sv sv2 :=
  ⟨hg.os.trans h.os, hg.tape.trans h.tape, hg.output.trans h.output, Nat.le_trans h.size hg.size, fun k hk h1 h2 => (hg.block k (Nat.lt_of_lt_of_le hk h.size) (fun e => by
    rcases h.own with ho | ho
    · exact h2 (e.trans ho)
    · have := ho k e.symm; omega)).trans (h.block k hk h1 h2), h.own⟩
theorem FrQ.set {w w0 : World} {bq : Nat} {sv sv' : Value} (hg : w.grownBy w0 sv.ownBlock) (ho : sv'.ownBlock = sv.ownBlock ∨ ∀ k, sv'.ownBlock = some k → w.heap.size ≤ k) (u : Value) : FrQ w (w0.setCell ⟨bq, 2, none⟩ u) bq sv sv' :=
  ⟨hg.os, hg.tape, hg.output, by simpa using hg.size, fun k hk h1 h2 => (heap_setCell_other w0 ⟨bq, 2, none⟩ k u (by simpa using h1)).trans (hg.block k hk h2), ho⟩
set_option maxHeartbeats 2000000 in
theorem hpush_any (B bq mb : Nat) (sv : Value) (zs : List Int) (x : Int) (w : World) (h : QS w B bq mb sv zs) (hh : Heap zs.length zs) (hsm : zs.length ≤ 1000) :
    Calls Try.prog 53 #[.iface 55 (.pointer (some ⟨bq, 2, none⟩)), .iface 3 (.int .i64 x)] w fun e w' => e = .returned (.tuple #[]) ∧ ∃ sv' zs', QS w' B bq mb sv' zs' ∧ zs'.Perm (zs ++ [x]) ∧ Heap zs'.length zs' ∧ FrQ w w' bq sv sv' := by
  have hmp := meth_push ⟨bq, 2, none⟩ w
  have hen := enter104
  go_enter Try.func53, Try.ntmps53
  go_wp2_with fail
  refine (push_any B bq sv zs x w h.row h.cell2 (h.free 2) h.ne h.low (by omega)).mono ?_
  rintro e w1 ⟨rfl, w0, g, c, rfl, hrow, hgr, hown⟩
  have hblk0 : w0.heap[bq]? = some (.cells #[.pointer (some ⟨bq, 0, none⟩), .map (some mb), sv] 53 (0, 0)) := (hgr.block bq h.lt (fun e => h.ne e.symm)).trans h.blk
  have hlen : (zs ++ [x]).length = zs.length + 1 := by simp
  have hq1 : QS (w0.setCell ⟨bq, 2, none⟩ (.slice (some ⟨g, 0, none⟩) (zs ++ [x]).length c)) B bq mb (.slice (some ⟨g, 0, none⟩) (zs ++ [x]).length c) (zs ++ [x]) := QS.store hblk0 (by rw [hlen]; exact hrow) h.low
  rw [hlen] at hq1
  have hf2 : FrQ w (w0.setCell ⟨bq, 2, none⟩ (.slice (some ⟨g, 0, none⟩) (zs.length + 1) c)) bq sv (.slice (some ⟨g, 0, none⟩) (zs ++ [x]).length c) :=
    FrQ.set hgr (own_of hown) _
  generalize w0.setCell ⟨bq, 2, none⟩ (.slice (some ⟨g, 0, none⟩) (zs.length + 1) c) = w2 at hq1 hf2 ⊢
  have hqr : QR w2 B bq g c (zs ++ [x]) := QS.qr (by rw [hlen]; exact hq1)
  have hml := meth_len ⟨bq, 2, none⟩ w2 _ _ _ hq1.cell2
  have hen0 := enter100
  clear hmp hen hgr hrow hblk0 hown
  go_wp2_with fail
  refine (len_any _ _ _ _).mono ?_
  rintro e w3 ⟨rfl, rfl⟩
  clear hml hen0
  have hln : (zs ++ [x]).length - 1 = zs.length := by simp
  have hup := up_any B bq g c (zs ++ [x]) zs.length w2 hqr (by simp) (by rw [hlen]; exact up_start zs x hh)
  clear hlen hln
  go_wp2_with fail
  refine hup.mono ?_
  rintro e w4 ⟨rfl, zs', hp, hheap, hq4, hg4⟩
  have hl4 : zs'.length = (zs ++ [x]).length := hp.length_eq
  have hq5 : QS w4 B bq mb (.slice (some ⟨g, 0, none⟩) zs'.length c) zs' := QS.of_qr (by simpa using hq1) hq4 hl4 hg4
  clear hup
  go_wp2_with fail
  go_end0
  refine ⟨rfl, _, zs', hq5, hp, hheap, ?_⟩
  have := hf2.step hg4
  exact ⟨this.os, this.tape, this.output, this.size, this.block, this.own⟩
set_option maxHeartbeats 2000000 in
theorem hpop_any (B bq mb g cap : Nat) (zs : List Int) (w : World) (h : QS w B bq mb (.slice (some ⟨g, 0, none⟩) zs.length cap) zs) (hh : Heap zs.length zs) (hz : 0 < zs.length) (hsm : zs.length ≤ 1000) :
    Calls Try.prog 54 #[.iface 55 (.pointer (some ⟨bq, 2, none⟩))] w fun e w' => e = .returned (.iface 3 (.int .i64 (zs.getD 0 0))) ∧ ∃ zs', QS w' B bq mb (.slice (some ⟨g, 0, none⟩) zs'.length cap) zs' ∧ zs.Perm (zs.getD 0 0 :: zs') ∧ Heap zs'.length zs' ∧ FrQ w w' bq (.slice (some ⟨g, 0, none⟩) zs.length cap) (.slice (some ⟨g, 0, none⟩) zs'.length cap) := by
  have hq := h.qr
  have hml := meth_len ⟨bq, 2, none⟩ w _ _ _ h.cell2
  have hen0 := enter100
  go_enter Try.func54, Try.ntmps54
  go_wp2_with fail
  refine (len_any _ _ _ _).mono ?_
  rintro e w3 ⟨rfl, rfl⟩
  clear hml hen0
  obtain ⟨m, hm⟩ : ∃ m, zs.length = m + 1 := ⟨zs.length - 1, by omega⟩
  have e1 : (zs.length : Int) - 1 = (m : Int) := by omega
  have hm' := Lib.hid hm
  clear hm
  have hms := meth_swap ⟨bq, 2, none⟩ w _ _ _ h.cell2
  have hen := enter102
  have hsw : Calls Try.prog 102 #[.slice (some ⟨g, 0, none⟩) zs.length cap, .int .i64 0, .int .i64 m] w _ := swap_any g cap zs 0 m w (by omega) hq.cells (fun k => World.ownsRow.frozenAt hq.row k) (by omega) (by have := hm'.out; omega)
  have hsw' := Lib.hid hsw
  clear hsw
  go_wp2_with fail
  refine hsw'.out.mono ?_
  rintro e w1 ⟨rfl, q, rfl⟩
  clear hms hen hsw'
  obtain ⟨hq1, hg1⟩ := hq.swap 0 m q
  have hh1 : DnEx m (swp zs 0 m) 0 := dn_start m zs hm'.out (by have := hm'.out; rw [← this]; exact hh)
  have hp1 : (swp zs 0 m).Perm zs := swp_perm zs 0 m (by omega) (by have := hm'.out; omega)
  have hm1 : (swp zs 0 m).getD m 0 = zs.getD 0 0 := by rw [swp_at zs 0 m m (by omega) (by have := hm'.out; omega), if_pos rfl]
  have hl1 : (swp zs 0 m).length = m + 1 := by rw [swp_len]; exact hm'.out
  generalize swp zs 0 m = ys at hq1 hh1 hp1 hm1 hl1
  generalize ((((w.setCell _ _).setCell _ _).drewN q)) = w1 at hq1 hg1 ⊢
  have hdn : Calls Try.prog 66 #[.iface 55 (.pointer (some ⟨bq, 2, none⟩)), .int .i64 0, .int .i64 m] w1 _ := down_any B bq g cap m ys 0 w1 hq1 (by omega) (by omega) (by omega) hh1
  have hdn' := Lib.hid hdn
  have hl1' := Lib.hid hl1
  clear hdn hl1
  go_wp2_with fail
  refine hdn'.out.mono ?_
  rintro e w2 ⟨⟨b, rfl⟩, zs', hp2, hheap, htail, hq2, hg2⟩
  clear hdn'
  have hl2 : zs'.length = m + 1 := by rw [hp2.length_eq]; exact hl1'.out
  have hQ2 : QS w2 B bq mb (.slice (some ⟨g, 0, none⟩) zs'.length cap) zs' := QS.of_qr h hq2 (by rw [hl2]; exact hm'.out.symm) (grown_trans hg1 hg2)
  have hl2' := Lib.hid hl2
  have hmin : zs'.getD (zs'.length - 1) 0 = zs.getD 0 0 := by rw [hl2]; show zs'.getD m 0 = _; rw [htail m (Nat.le_refl _), hm1]
  have hmp := meth_pop ⟨bq, 2, none⟩ w2
  have hen := enter103
  have hcap : zs'.length ≤ cap := row_cap hq2.row
  have hpm := Lib.hid (popm_any B bq g cap zs' w2 hq2 (hQ2.free 2) (by omega) hcap)
  clear hl2 hcap
  go_wp2_with fail
  refine hpm.out.mono ?_
  rintro e w3 ⟨rfl, rfl⟩
  clear hmp hen hpm
  rw [hmin]
  have hl2 := hl2'.out
  have hperm : zs.Perm (zs.getD 0 0 :: zs'.take m) := by
    have e3 : zs' = zs'.take m ++ [zs'.getD m 0] := by
      have h1 : m < zs'.length := by omega
      have h2 := List.take_succ_eq_append_getElem h1
      rw [List.take_of_length_le (by omega)] at h2
      rw [List.getD_eq_getElem?_getD, List.getElem?_eq_getElem h1]
      simpa using h2
    have e4 : zs'.getD m 0 = zs.getD 0 0 := by have := hmin; rw [hl2] at this; exact this
    rw [e4] at e3
    have h1 : zs.Perm zs' := (hp2.trans hp1).symm
    rw [e3] at h1
    exact h1.trans List.perm_append_comm
  have hrow := own_take hq2.row m (by omega)
  have hQ3 : QS (w2.setCell ⟨bq, 2, none⟩ (.slice (some ⟨g, 0, none⟩) (zs'.length - 1) cap)) B bq mb (.slice (some ⟨g, 0, none⟩) (zs'.take m).length cap) (zs'.take m) := by
    have e5 : (zs'.take m).length = m := by simp; omega
    have e6 : zs'.length - 1 = m := by omega
    rw [e6, e5]
    exact QS.store hQ2.blk (by rw [e5]; unfold nums at *; rw [List.map_take]; exact hrow) h.low
  have hF : FrQ w (w2.setCell ⟨bq, 2, none⟩ (.slice (some ⟨g, 0, none⟩) (zs'.length - 1) cap)) bq (.slice (some ⟨g, 0, none⟩) zs.length cap) (.slice (some ⟨g, 0, none⟩) (zs'.take m).length cap) := FrQ.set (sv := .slice (some ⟨g, 0, none⟩) zs.length cap) (sv' := .slice (some ⟨g, 0, none⟩) (zs'.take m).length cap) (grown_trans hg1 hg2) (Or.inl rfl) _
  have hH : Heap (zs'.take m).length (zs'.take m) := by
    have e5 : (zs'.take m).length = m := by simp; omega
    rw [e5]
    intro k h0 h1
    have := hheap k h0 h1
    simpa [List.getD_eq_getElem?_getD, h1, show (k - 1) / 2 < m by omega] using this
  generalize zs'.take m = ts at hperm hQ3 hF hH
  generalize w2.setCell ⟨bq, 2, none⟩ (.slice (some ⟨g, 0, none⟩) (zs'.length - 1) cap) = w5 at hQ3 hF ⊢
  clear hmin hl2 hm1
  generalize hx0 : zs.getD 0 0 = x0 at hperm ⊢
  have hx0' := Lib.hid hx0
  clear hx0
  go_wp2_with fail
  go_ret
  exact ⟨by rw [hx0'.out]; rfl, ts, hQ3, by rw [hx0'.out]; exact hperm, hH, hF⟩
end Go.Proofs.Ytkicoaphchpngaa
