/- The numbers that wait, in order: slices.Clone and slices.Sort at the work list's own slice type, and Items. -/
import Derived.Test.YtkicoaphchpngaaQ
import Derived.Test.YtkicoaphchpngaaU
import Derived.Test.YtkicoaphchpngaaW
import Derived.Deep.DeepMust
namespace Go.Proofs.Ytkicoaphchpngaa
open Go.RowKit Go.Lib Go.Sort Go.Shelf
set_option linter.unusedVariables false
set_option linter.unusedSimpArgs false
set_option maxHeartbeats 1000000 in
theorem pdq_some (blk off cap : Nat) (d : Array Int) (w : World) (hH : Holds (Value.int .i64) w blk off d) (hblk : blk < w.heap.size) (hsz : d.size < 4611686018427387904) :
    Calls Try.prog 57 #[.slice (some ⟨blk, off, none⟩) d.size cap, .int .i64 (0 : Nat), .int .i64 d.size, .int .i64 (bitsLen d.size : Nat)] w fun e w' =>
      e = .returned (.tuple #[]) ∧ ∃ n os, w' = grow (putRow (Value.int .i64) (Sort.ahead w n) blk off (Sort.sort ltInt d)) os := by
  have hk : bitsLen d.size ≤ 62 := (bitsLen_le_iff d.size 62).2 (by omega)
  have hdp := pdqDepth_le_59 ltInt d 0 d.size (bitsLen d.size) true true (by omega)
  exact calls_of_every_depth fun D => Any.pdqWalkInInt (P := Try.prog) (ρ := Try.lays189_ren) { Try.lays189 with } D 65 blk off cap 0 d.size (bitsLen d.size) d w (by omega) hH hblk (Nat.zero_le _) (Nat.le_refl _) hsz (by omega) (Or.inl rfl)
theorem pdq_none (p : Option Addr) (cap : Nat) (w : World) :
    Calls Try.prog 57 #[.slice p 0 cap, .int .i64 0, .int .i64 0, .int .i64 0] w fun e w' => e = .returned (.tuple #[]) ∧ w' = w :=
  calls_of_every_depth fun D => AnyS.pdqsort_int_none_in (P := Try.prog) (ρ := Try.lays189_ren) { Try.lays189 with } D p cap w
theorem len_some (n : Nat) (hn : n < 4611686018427387904) (w : World) : Calls Try.prog 58 #[.int .u64 n] w fun e w' => e = .returned (.int .i64 (bitsLen n : Nat)) ∧ w' = w := by
  have h := Try.bits_Len (n : Int) w (by omega) (by omega)
  rwa [Int.toNat_natCast, bitLen_eq _ (by omega)] at h
set_option maxHeartbeats 1000000 in
theorem nsort_some (g cap : Nat) (zs : List Int) (w : World) (hH : Holds (Value.int .i64) w g 0 zs.toArray) (hblk : g < w.heap.size) (hsz : zs.length ≤ 100000) :
    Calls Try.prog 56 #[.slice (some ⟨g, 0, none⟩) zs.length cap] w fun e w' =>
      e = .returned (.tuple #[]) ∧ ∃ n os, w' = grow (putRow (Value.int .i64) (Sort.ahead w n) g 0 (zs.mergeSort fun x y => decide (x ≤ y)).toArray) os := by
  have hl := Lib.hid (len_some zs.length (by omega))
  have hp := pdq_some g 0 cap zs.toArray w hH hblk (by simp; omega)
  rw [Any.sort_int_eqD] at hp
  simp only [List.size_toArray] at hp
  have hp' := Lib.hid hp
  clear hp hH
  go_enter Try.func56, Try.ntmps56
  go_wp2_with (first
    | (go_at_call 58; refine (hl.out _).mono ?_; rintro e w' ⟨rfl, rfl⟩)
    | (go_at_call 57; refine hp'.out.mono ?_; rintro e w' ⟨rfl, n, os, rfl⟩))
  go_end0
  exact ⟨rfl, n, os, rfl⟩
set_option maxHeartbeats 1000000 in
theorem nsort_none (p : Option Addr) (cap : Nat) (w : World) : Calls Try.prog 56 #[.slice p 0 cap] w fun e w' => e = .returned (.tuple #[]) ∧ w' = w := by
  have hl := Lib.hid (Try.bits_Len 0 w (by omega) (by omega))
  go_enter Try.func56, Try.ntmps56
  go_wp2_with (first
    | (go_at_call 58; refine (hl.out).mono ?_; rintro e w' ⟨rfl, rfl⟩)
    | (go_at_call 57; refine (pdq_none p cap _).mono ?_; rintro e w' ⟨rfl, rfl⟩))
  go_end0
  exact ⟨rfl, rfl⟩
set_option maxHeartbeats 1000000 in
theorem nclone_nil (w : World) : Calls Try.prog 55 #[.slice none 0 0] w fun e w' => e = .returned (.slice none 0 0) ∧ w' = w := by
  have q51 : ∀ (w : World) (a : Option Addr) (n c n' c' : Nat), (binOp .eql 51 (.slice a n c) (.slice none n' c')).run Try.prog w = .ok (.bool a.isNone) w := fun w a n c n' c' => Lib.run_eql_slice_nil w _ _ a n c n' c' Try.underlying51
  go_enter Try.func55, Try.ntmps55
  go_wp2
  go_ret
  exact ⟨rfl, rfl⟩
set_option maxHeartbeats 2000000 in
theorem nclone_some (b c : Nat) (zs : List Int) (w : World) (hbig : zs.length ≤ 100000) (hc : ∀ j, j < zs.length → w.cell? ⟨b, 0 + j, none⟩ = some (.int .i64 (zs.getD j 0))) :
    Calls Try.prog 55 #[.slice (some ⟨b, 0, none⟩) zs.length c] w fun e w' => ∃ v', e = .returned v' ∧ w'.ownsRow w.heap.size 3 1 v' zs.length (nums zs) ∧ v' ≠ .slice none 0 0 ∧ Below w.heap.size w w' := by
  have q51 : ∀ (w : World) (a : Option Addr) (n c n' c' : Nat), (binOp .eql 51 (.slice a n c) (.slice none n' c')).run Try.prog w = .ok (.bool a.isNone) w := fun w a n c n' c' => Lib.run_eql_slice_nil w _ _ a n c n' c' Try.underlying51
  obtain ⟨i0, hi, hz0, hz1, hz2⟩ := info_parts info3
  have A := Lib.hid hc
  clear hc
  go_enter Try.func55, Try.ntmps55
  go_wp2_with (at_builtin; go_must (refine wpList_append_own _ rfl _ _ 51 rfl w.heap.size 3 i0 (.int .i64 0) 1 8 Try.underlying51 hi hz0 hz1 hz2 rfl (by decide) _ _ _ rfl (World.ownsRow_made w #[] 0 (Nat.le_refl _) (Nat.zero_le _) rfl) ⟨b, 0, none⟩ zs.length c (nums zs) rfl ?qc1 ?qc2 ?qc3 ?qc4 ?qc5 ?qc6 ?_))
  case qc1 => simp [nums]
  case qc2 =>
    intro j u hj
    have hjn : j < zs.length := by
      have := (List.getElem?_eq_some_iff.1 hj).1
      simpa [nums] using this
    rw [Addr.add_lit]
    refine Lib.cell?_alloc_some _ ?_
    rw [A.out j hjn]
    have e : (nums zs)[j]? = some (Value.int .i64 (zs.getD j 0)) := by simp [nums, List.getD, List.getElem?_eq_getElem hjn]
    rw [e] at hj
    exact hj
  case qc3 => intro u hu; unfold nums at hu; obtain ⟨x, _, rfl⟩ := List.mem_map.1 hu; rfl
  case qc4 => unfold maxLen; omega
  case qc5 => omega
  case qc6 => simp
  intro v' w1 hown hgrow hnil
  go_wp2
  go_ret
  refine ⟨v', rfl, by simpa using hown, ?_, ?_⟩
  · exact hnil
  · exact ((Below.refl _ w).alloc (Nat.le_refl _) _).grown hgrow (by simp) (by intro k hk; simp [Value.ownBlock] at hk; omega)
def sortL (zs : List Int) : List Int := zs.mergeSort fun x y => decide (x ≤ y)
set_option maxHeartbeats 2000000 in
/-- what waits, in order, in memory of its own -/
theorem qitems_any (B bq mb c : Nat) (sv : Value) (zs : List Int) (w : World) (h : QM w B bq mb c sv zs) (hl : zs.length ≤ 100000) :
    Calls Try.prog 37 #[.pointer (some ⟨bq, 0, none⟩)] w (OfPost w (sortL zs)) := by
  have c2 := h.qs.cell2
  have hmd := Lib.hid (made_any bq w h.qs.cell0)
  rcases Joins.ownsRow_forms h.qs.row with ⟨hv, h0⟩ | ⟨g, cap, hv⟩
  · rw [hv] at c2
    clear hv
    have hz : zs = [] := List.eq_nil_of_length_eq_zero h0
    subst hz
    clear h h0
    go_enter Try.func37, Try.ntmps37
    go_wp2_with (first
      | (go_at_call 52; refine (hmd.out).mono ?_; rintro e w' ⟨rfl, rfl⟩)
      | (go_at_call 55; refine (nclone_nil _).mono ?_; rintro e w' ⟨rfl, rfl⟩)
      | (go_at_call 56; refine (nsort_none _ _ _).mono ?_; rintro e w' ⟨rfl, rfl⟩))
    go_ret
    refine ⟨_, rfl, ?_, Below.refl _ _⟩
    rw [show sortL [] = [] from by simp [sortL]]
    exact World.ownsRow_nil _ _ _ _
  · rw [hv] at c2
    have hrow := h.qs.row
    rw [hv] at hrow
    have hcl := Lib.hid (nclone_some g cap zs w hl (fun j hj => by rw [Nat.zero_add, World.ownsRow.cellAt hrow j (by simpa using hj)]; simp [nums, hj]))
    clear hv h hrow
    go_enter Try.func37, Try.ntmps37
    go_wp2_with (first
      | (go_at_call 52; refine (hmd.out).mono ?_; rintro e w' ⟨rfl, rfl⟩)
      | (go_at_call 55; refine (hcl.out).mono ?_))
    rintro e w1 ⟨v', rfl, hown, hne, hb⟩
    rcases Joins.ownsRow_forms hown with ⟨hv', _⟩ | ⟨g1, cap1, hv'⟩
    · exact absurd hv' hne
    · rw [hv'] at hown ⊢
      clear hv' hne hcl
      have hgl := (World.ownsRow.lt hown g1 rfl)
      have hso := Lib.hid (nsort_some g1 cap1 zs w1 (holds_own hown) hgl.2 hl)
      have hown' := Lib.hid hown
      have hb' := Lib.hid hb
      clear hown hb
      go_wp2_with (go_at_call 56; refine hso.out.mono ?_)
      rintro e w2 ⟨rfl, n, os, hw2⟩
      have hlen : (zs.mergeSort fun x y => decide (x ≤ y)).length = zs.length := List.length_mergeSort _
      obtain ⟨hown2, hg2⟩ := putCut (q := n) hown'.out hlen os
      rw [← hw2] at hown2 hg2
      have hbel : Below w.heap.size w w2 := hb'.out.grown hg2 hb'.out.size (fun j hj => by cases hj; exact hgl.1)
      have hown3 : w2.ownsRow w.heap.size 3 1 (.slice (some ⟨g1, 0, none⟩) zs.length cap1) (sortL zs).length (nums (sortL zs)) := by
        rw [show (sortL zs).length = zs.length from hlen]; exact hown2
      have H3 := Lib.hid hown3
      clear hown2 hown3 hw2 hg2 hlen hso
      go_wp2_with fail
      go_ret
      exact ⟨_, rfl, H3.out, hbel⟩
end Go.Proofs.Ytkicoaphchpngaa
