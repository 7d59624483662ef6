/- The work list. -/
import Derived.Test.YtkicoaphchpngaaF
import Derived.Maps.Own
import Derived.Maps.OwnOps
import Derived.Maps.OwnSet
import Derived.Maps.Views
import Derived.LaidEqlPtr
namespace Go.Proofs.Ytkicoaphchpngaa
open Go.RowKit Go.Maps
set_option linter.unusedVariables false
theorem keyLaw : Keyed Try.prog 3 := int_keyed Try.underlying3
theorem zero4 (w : World) : (zeroValue 4).run Try.prog w = .ok (.bool false) w := by kernel_rfl
theorem info53 : ∃ j, Try.prog.info? 53 = some j := by
  cases h : Try.prog.info? 53 with
  | some j => exact ⟨j, rfl⟩
  | none =>
    have : (Try.prog.info? 53).isSome = true := by kernel_rfl
    rw [h] at this; cases this
theorem plain_bool_inv {v : Value} {z : DataW Unit × List MemPlace} (h : plainElem Try.prog 4 v = some z) : ∃ b, v = .bool b ∧ z.1 = .lit (.bool b) := by
  unfold plainElem at h
  rw [Try.underlying4] at h
  cases v <;> simp at h
  exact ⟨_, rfl, by rw [← h]⟩
/-- the map reads as the numbers that wait -/
def Waits (D : DataW Unit) (zs : List Int) : Prop := IsMap D ∧ ∀ x, D.atKey (.int .i64 x) (.lit (.bool false)) = .lit (.bool (decide (x ∈ zs)))
structure QM (w : World) (B bq mb c : Nat) (sv : Value) (zs : List Int) : Prop where
  qs : QS w B bq mb sv zs
  heap : Heap zs.length zs
  nodup : zs.Nodup
  map : ∃ D : DataW Unit, w.ownsMap Try.prog 3 (plainElem Try.prog 4) mb c D ∧ Waits D zs
  lowm : B ≤ mb
structure FrM (w w' : World) (bq mb : Nat) (sv sv' : Value) : Prop where
  os : w'.os = w.os
  tape : w'.tape = w.tape
  output : w'.output = w.output
  size : w.heap.size ≤ w'.heap.size
  block : ∀ k, k < w.heap.size → k ≠ bq → k ≠ mb → some k ≠ sv.ownBlock → w'.heap[k]? = w.heap[k]?
  own : sv'.ownBlock = sv.ownBlock ∨ ∀ k, sv'.ownBlock = some k → w.heap.size ≤ k
theorem map_ne {w : World} {mb c k : Nat} {D : DataW Unit} {C : Array Value} {t : TypeId} {f : Nat × Nat} (h : w.ownsMap Try.prog 3 (plainElem Try.prog 4) mb c D) (hb : w.heap[k]? = some (.cells C t f)) : mb ≠ k := by
  obtain ⟨es, clock, h1, _⟩ := h
  intro e; subst e; rw [h1] at hb; cases hb
theorem row_ne_map {w : World} {B mb c n : Nat} {sv : Value} {xs : List Value} {D : DataW Unit} (hr : w.ownsRow B 3 1 sv n xs) (h : w.ownsMap Try.prog 3 (plainElem Try.prog 4) mb c D) : sv.ownBlock ≠ some mb := by
  rcases hr.2 with ⟨rfl, _⟩ | ⟨g, cap, cur, rfl, _, hg, _⟩
  · simp [Value.ownBlock]
  · intro e
    exact map_ne h hg (Option.some.inj e).symm
theorem QS.kept {w w' : World} {B bq mb : Nat} {sv : Value} {zs : List Int} {r : Nat} (h : QS w B bq mb sv zs) (hg : w.grownBy w' (some r)) (h1 : r ≠ bq) (h2 : sv.ownBlock ≠ some r) : QS w' B bq mb sv zs :=
  ⟨(hg.block bq h.lt (fun e => h1 (Option.some.inj e).symm)).trans h.blk, World.ownsRow.kept h.row hg (.inr h2), h.low⟩
/-- the map is not turned by an operation on the numbers -/
theorem map_kept {w w' : World} {B bq mb c : Nat} {sv sv' : Value} {zs : List Int} {D : DataW Unit} (hq : QS w B bq mb sv zs) (h : w.ownsMap Try.prog 3 (plainElem Try.prog 4) mb c D) (hf : FrQ w w' bq sv sv') : w'.ownsMap Try.prog 3 (plainElem Try.prog 4) mb c D := by
  have h1 : mb ≠ bq := map_ne h hq.blk
  have h2 := row_ne_map hq.row h
  obtain ⟨es, clock, hb, rest⟩ := h
  have hlt : mb < w.heap.size := (Array.getElem?_eq_some_iff.1 hb).1
  exact ⟨es, clock, (hf.block mb hlt h1 (fun e => h2 e.symm)).trans hb, rest⟩
theorem FrM.of {w w1 w2 : World} {bq mb : Nat} {sv sv' : Value} (hg : w.grownBy w1 (some mb)) (hf : FrQ w1 w2 bq sv sv') : FrM w w2 bq mb sv sv' :=
  ⟨hf.os.trans hg.os, hf.tape.trans hg.tape, hf.output.trans hg.output, Nat.le_trans hg.size hf.size,
    fun k hk h1 h2 h3 => (hf.block k (Nat.lt_of_lt_of_le hk hg.size) h1 h3).trans (hg.block k hk (fun e => h2 (Option.some.inj e))),
    hf.own.imp id fun h k hk => Nat.le_trans hg.size (h k hk)⟩
theorem FrM.of' {w w1 w2 : World} {bq mb : Nat} {sv sv' : Value} (hf : FrQ w w1 bq sv sv') (hg : w1.grownBy w2 (some mb)) : FrM w w2 bq mb sv sv' :=
  ⟨hg.os.trans hf.os, hg.tape.trans hf.tape, hg.output.trans hf.output, Nat.le_trans hf.size hg.size,
    fun k hk h1 h2 h3 => (hg.block k (Nat.lt_of_lt_of_le hk hf.size) (fun e => h2 (Option.some.inj e))).trans (hf.block k hk h1 h3), hf.own⟩
theorem waits_put {D : DataW Unit} {zs zs' : List Int} {x : Int} (h : Waits D zs) (hp : zs'.Perm (zs ++ [x])) : Waits (D.put (.int .i64 x) (.lit (.bool true))) zs' := by
  refine ⟨?_, fun y => ?_⟩
  · obtain ⟨es, rfl⟩ := h.1; exact ⟨_, rfl⟩
  · have hm : y ∈ zs' ↔ y ∈ zs ∨ y = x := by rw [hp.mem_iff]; simp
    by_cases e : y = x
    · subst e
      rw [atKey_put_same h.1 (by unfold WideAt.IsKeyLit; trivial)]
      simp [hm]
    · rw [atKey_put_other (by simpa using e), h.2 y]
      simp [hm, e]
theorem waits_del {D : DataW Unit} {zs zs' : List Int} {x : Int} (h : Waits D zs) (hp : zs.Perm (x :: zs')) (hn : zs.Nodup) : Waits (D.del (.int .i64 x)) zs' := by
  have hn' : (x :: zs').Nodup := hp.nodup_iff.1 hn
  refine ⟨?_, fun y => ?_⟩
  · obtain ⟨es, rfl⟩ := h.1; exact ⟨_, rfl⟩
  · have hm : y ∈ zs ↔ y = x ∨ y ∈ zs' := by rw [hp.mem_iff]; simp
    by_cases e : y = x
    · subst e
      rw [atKey_del_same]
      have := (List.nodup_cons.1 hn').1
      simp [this]
    · rw [atKey_del_other (by simpa using e), h.2 y]
      simp [hm, e]
set_option maxHeartbeats 1000000 in
theorem new_any (B : Nat) (w : World) (hB : B ≤ w.heap.size) : Calls Try.prog 33 #[] w fun e w' => e = .returned (.pointer (some ⟨w.heap.size + 1, 0, none⟩)) ∧ QM w' B (w.heap.size + 1) w.heap.size 0 (.slice none 0 0) [] ∧ Below w.heap.size w w' := by
  have hmm := @run_makeMap Try.prog
  go_enter Try.func33, Try.ntmps33
  go_wp2_with fail
  go_ret
  refine ⟨rfl, ?_, ?_⟩
  · have hm : ((w.alloc (.map #[] 0))).ownsMap Try.prog 3 (plainElem (H := Unit) Try.prog 4) w.heap.size 0 (.map []) := World.ownsMap_made w _ _ _
    refine ⟨⟨?_, World.ownsRow_nil _ _ _ _, by omega⟩, fun k h0 h1 => by simp at h1, List.nodup_nil, ⟨.map [], ?_, isMap_empty, fun x => by simp; rfl⟩, hB⟩
    · have := (MapKept.heap_alloc (w.alloc (.map #[] 0)) (.cells #[.pointer (some ⟨w.heap.size + 1, 0, none⟩), .map (some w.heap.size), .slice none 0 0] 53)).1
      simpa using this
    · exact hm.alloc _
  · exact ((Below.refl _ _).alloc (Nat.le_refl _) _).alloc (by simp) _
set_option maxHeartbeats 1000000 in
theorem made_any (bq : Nat) (w : World) (hc : w.cell? ⟨bq, 0, none⟩ = some (.pointer (some ⟨bq, 0, none⟩))) : Calls Try.prog 52 #[.pointer (some ⟨bq, 0, none⟩)] w fun e w' => e = .returned (.bool true) ∧ w = w' := by
  obtain ⟨j, hj⟩ := info53
  have he := run_eql_ptr_same (P := Try.prog) (w := w) ⟨bq, 0, none⟩ Try.underlying34 hj
  go_enter Try.func52, Try.ntmps52
  go_wp2_with fail
  go_ret
  exact ⟨rfl, rfl⟩
set_option maxHeartbeats 1000000 in
theorem made_nil (w : World) : Calls Try.prog 52 #[.pointer none] w fun e w' => e = .returned (.bool false) ∧ w = w' := by
  go_enter Try.func52, Try.ntmps52
  go_wp2_with fail
  go_ret
  exact ⟨rfl, rfl⟩
theorem look {w : World} {mb c : Nat} {D : DataW Unit} {zs : List Int} (h : w.ownsMap Try.prog 3 (plainElem Try.prog 4) mb c D) (hw : Waits D zs) (x : Int) (wx : (Lit.int .i64 x).wf = true) :
    (Instr.lookup 50 (.map (some mb)) (.int .i64 x) false).run Try.prog w = .ok (.bool (decide (x ∈ zs))) w := by
  obtain ⟨v, ps, hrun, hv⟩ := h.lookup keyLaw Try.underlying50 (zero4 w) (plainElem_bool Try.underlying4 false) (keyOf_int_mk Try.underlying3 wx)
  obtain ⟨b, rfl, hb⟩ := plain_bool_inv hv
  rw [hrun]
  have := hw.2 x
  simp only [this] at hb
  simp at hb
  rw [← hb]
set_option maxHeartbeats 1000000 in
theorem qpush_in (B bq mb c : Nat) (sv : Value) (zs : List Int) (x : Int) (w : World) (wx : (Lit.int .i64 x).wf = true) (h : QM w B bq mb c sv zs) (hx : x ∈ zs) :
    Calls Try.prog 34 #[.pointer (some ⟨bq, 0, none⟩), .int .i64 x] w fun e w' => e = .returned (.bool false) ∧ w = w' := by
  obtain ⟨D, hD, hW⟩ := h.map
  have hl := look hD hW x wx
  rw [decide_eq_true hx] at hl
  have c1 := h.qs.cell1
  have hmd := Lib.hid (made_any bq w h.qs.cell0)
  go_enter Try.func34, Try.ntmps34
  go_wp2_with (go_at_call 52; refine (hmd.out).mono ?_; rintro e w' ⟨rfl, rfl⟩)
  go_ret
  exact ⟨rfl, rfl⟩
set_option maxHeartbeats 1000000 in
theorem qpush_new (B bq mb c : Nat) (sv : Value) (zs : List Int) (x : Int) (w : World) (wx : (Lit.int .i64 x).wf = true) (h : QM w B bq mb c sv zs) (hx : ¬ x ∈ zs) (hsm : zs.length ≤ 1000) (hc : c ≤ 1000) :
    Calls Try.prog 34 #[.pointer (some ⟨bq, 0, none⟩), .int .i64 x] w fun e w' => e = .returned (.bool true) ∧ ∃ sv' zs', QM w' B bq mb (c + 1) sv' zs' ∧ zs'.Perm (zs ++ [x]) ∧ FrM w w' bq mb sv sv' := by
  obtain ⟨D, hD, hW⟩ := h.map
  have hl := look hD hW x wx
  rw [decide_eq_false hx] at hl
  have c1 := h.qs.cell1
  have hmd := Lib.hid (made_any bq w h.qs.cell0)
  have hkey := keyOf_int_mk Try.underlying3 wx
  go_enter Try.func34, Try.ntmps34
  go_wp2_with (first | (go_at_call 52; refine (hmd.out).mono ?_; rintro e w' ⟨rfl, rfl⟩) | (at_mapUpdate; refine wpList_mapUpdate_own _ rfl _ _ _ 50 rfl 3 4 keyLaw Try.underlying50 _ mb c D rfl hD (by unfold maxLen; omega) _ _ (.int .i64 x) rfl rfl hkey (.lit (.bool true)) [] (plainElem_bool Try.underlying4 true) ?_))
  intro w1 hD1 hg1
  clear hl
  have hmb : mb ≠ bq := map_ne hD h.qs.blk
  have hrm := row_ne_map h.qs.row hD
  have hq1 : QS w1 B bq mb sv zs := h.qs.kept hg1 hmb hrm
  have hpush := Lib.hid (hpush_any B bq mb sv zs x w1 hq1 h.heap hsm)
  have hmb' := Lib.hid hmb
  clear hmb hrm
  go_wp2_with fail
  refine hpush.out.mono ?_
  rintro e w2 ⟨rfl, sv', zs', hq2, hp, hh, hf⟩
  go_wp2_with fail
  go_ret
  refine ⟨rfl, sv', zs', ⟨hq2, hh, ?_, ⟨_, map_kept hq1 hD1 hf, waits_put hW hp⟩, h.lowm⟩, hp, FrM.of hg1 hf⟩
  rw [hp.nodup_iff, List.nodup_append]
  exact ⟨h.nodup, by simp, fun a ha b hb => by simp at hb; subst hb; intro e; subst e; exact hx ha⟩
set_option maxHeartbeats 1000000 in
theorem qlen_any (B bq mb c : Nat) (sv : Value) (zs : List Int) (w : World) (h : QM w B bq mb c sv zs) :
    Calls Try.prog 36 #[.pointer (some ⟨bq, 0, none⟩)] w fun e w' => e = .returned (.int .i64 zs.length) ∧ w = w' := by
  have c2 := h.qs.cell2
  have hmd := Lib.hid (made_any bq w h.qs.cell0)
  rcases Joins.ownsRow_forms h.qs.row with ⟨hv, h0⟩ | ⟨g, cap, hv⟩
  all_goals
    rw [hv] at c2
    clear hv
    go_enter Try.func36, Try.ntmps36
    go_wp2_with (go_at_call 52; refine (hmd.out).mono ?_; rintro e w' ⟨rfl, rfl⟩)
    go_ret
  · exact ⟨ret_int (by simp [h0]), rfl⟩
  · exact ⟨rfl, rfl⟩
set_option maxHeartbeats 1000000 in
theorem qlen_nil (w : World) : Calls Try.prog 36 #[.pointer none] w fun e w' => e = .returned (.int .i64 0) ∧ w = w' := by
  have hmd := Lib.hid (made_nil w)
  go_enter Try.func36, Try.ntmps36
  go_wp2_with (go_at_call 52; refine (hmd.out).mono ?_; rintro e w' ⟨rfl, rfl⟩)
  go_ret
  exact ⟨rfl, rfl⟩
set_option maxHeartbeats 1000000 in
theorem qpush_nil (x : Int) (w : World) : Calls Try.prog 34 #[.pointer none, .int .i64 x] w fun e w' => e = .returned (.bool false) ∧ w = w' := by
  have hmd := Lib.hid (made_nil w)
  go_enter Try.func34, Try.ntmps34
  go_wp2_with (go_at_call 52; refine (hmd.out).mono ?_; rintro e w' ⟨rfl, rfl⟩)
  go_ret
  exact ⟨rfl, rfl⟩
set_option maxHeartbeats 1000000 in
theorem qpop_nil (w : World) : Calls Try.prog 35 #[.pointer none] w fun e w' => e = .returned (.tuple #[.int .i64 0, .bool false]) ∧ w = w' := by
  go_enter Try.func35, Try.ntmps35
  go_wp2_with (go_at_call 36; refine (qlen_nil _).mono ?_; rintro e w' ⟨rfl, rfl⟩)
  go_ret2
  exact ⟨rfl, rfl⟩
set_option maxHeartbeats 1000000 in
theorem qpop_none (B bq mb c : Nat) (sv : Value) (w : World) (h : QM w B bq mb c sv []) : Calls Try.prog 35 #[.pointer (some ⟨bq, 0, none⟩)] w fun e w' => e = .returned (.tuple #[.int .i64 0, .bool false]) ∧ w = w' := by
  have hl := Lib.hid (qlen_any B bq mb c sv [] w h)
  go_enter Try.func35, Try.ntmps35
  go_wp2_with (go_at_call 36; refine (hl.out).mono ?_; rintro e w' ⟨rfl, rfl⟩)
  go_ret2
  exact ⟨rfl, rfl⟩
theorem assert_int2 (x : Int) (w : World) : (Instr.typeAssert (.iface 3 (.int .i64 x)) 20 3 false).run Try.prog w = .ok (.int .i64 x) w := by kernel_rfl
set_option maxHeartbeats 1000000 in
theorem qpop_some (B bq mb c : Nat) (sv : Value) (zs : List Int) (w : World) (h : QM w B bq mb c sv zs) (hz : 0 < zs.length) (hsm : zs.length ≤ 1000) (wx : (Lit.int .i64 (zs.getD 0 0)).wf = true) :
    Calls Try.prog 35 #[.pointer (some ⟨bq, 0, none⟩)] w fun e w' => e = .returned (.tuple #[.int .i64 (zs.getD 0 0), .bool true]) ∧ ∃ sv' zs', QM w' B bq mb c sv' zs' ∧ zs.Perm (zs.getD 0 0 :: zs') ∧ FrM w w' bq mb sv sv' := by
  obtain ⟨D, hD, hW⟩ := h.map
  have hl := Lib.hid (qlen_any B bq mb c sv zs w h)
  obtain ⟨g, cap, hv⟩ := Joins.ownsRow_form h.qs.row hz
  have hq : QS w B bq mb (.slice (some ⟨g, 0, none⟩) zs.length cap) zs := hv ▸ h.qs
  have hpop := Lib.hid (hpop_any B bq mb g cap zs w hq h.heap hz hsm)
  have hkey := keyOf_int_mk Try.underlying3 wx
  have hta := assert_int2 (zs.getD 0 0)
  generalize hx0 : zs.getD 0 0 = x0 at *
  have hx0' := Lib.hid hx0
  clear hx0
  have hne : ((zs.length : Int) == 0) = false := by rw [beq_eq_false_iff_ne]; omega
  go_enter Try.func35, Try.ntmps35
  go_wp2_with (go_at_call 36; refine (hl.out).mono ?_; rintro e w' ⟨rfl, rfl⟩)
  refine hpop.out.mono ?_
  rintro e w2 ⟨rfl, zs', hq2, hp, hh, hf⟩
  have hD2 := map_kept h.qs hD (by rw [hv]; exact hf)
  have c1 := hq2.cell1
  have hne' := Lib.hid hne
  clear hne
  go_wp2_with (at_delete; refine wpList_delete_own _ rfl _ _ 50 3 rfl 4 keyLaw Try.underlying50 _ mb c D rfl hD2 _ _ rfl hkey ?_)
  intro w3 hD3 ht3
  go_wp2_with fail
  go_ret2
  have hg3 := ht3.grown
  have hq3 := hq2.kept hg3 (map_ne hD2 hq2.blk) (row_ne_map hq2.row hD2)
  have hn : (x0 :: zs').Nodup := hp.nodup_iff.1 h.nodup
  exact ⟨rfl, _, zs', ⟨hq3, hh, (List.nodup_cons.1 hn).2, ⟨_, hD3, waits_del hW hp h.nodup⟩, h.lowm⟩, hp, by rw [hv]; exact FrM.of' hf hg3⟩
end Go.Proofs.Ytkicoaphchpngaa
