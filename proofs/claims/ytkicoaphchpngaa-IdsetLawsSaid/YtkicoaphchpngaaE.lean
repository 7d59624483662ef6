/- Package heap over the numbers of a work list: Push and Pop. -/
import Derived.Test.YtkicoaphchpngaaD
import Derived.Deep.RegionLaw
import Derived.Deep.RegionLawGrows
import Derived.Lib.SmallJoins
namespace Go.Proofs.Ytkicoaphchpngaa
open Go.RowKit
set_option linter.unusedVariables false
set_option linter.unusedSimpArgs false
theorem info3 : (Try.prog.info? 3).map (fun i => (i.zero, i.size, i.bytes)) = some (some (.int .i64 0), 1, 8) := by kernel_rfl
theorem own_extend {w : World} {B e g n cap : Nat} {xs : List Value} (h : w.ownsRow B e 1 (.slice (some ⟨g, 0, none⟩) n cap) n xs) (u : Value) (hn : n < cap) :
    (w.setCell ⟨g, n, none⟩ u).ownsRow B e 1 (.slice (some ⟨g, 0, none⟩) (n + 1) cap) (n + 1) (xs ++ [u]) ∧ w.grownBy (w.setCell ⟨g, n, none⟩ u) (some g) := by
  have hgr := (World.ownsRow.stored h n u).2
  refine ⟨?_, hgr⟩
  rcases h.2 with ⟨h', _⟩ | ⟨g', cap', cur, h', hb, hg, hnc, hcm, hcs, htake⟩
  · simp at h'
  · simp only [Value.slice.injEq, Option.some.injEq, Addr.mk.injEq, and_true, true_and] at h'
    obtain ⟨rfl, rfl⟩ := h'
    have hl : xs.length = n := by simpa using h.1
    refine ⟨by simp [hl], .inr ⟨g, cap, cur.setIfInBounds n u, rfl, hb, heap_setCell_same w g n cur e u hg, by omega, hcm, by simpa using hcs, ?_⟩⟩
    have hsz : n < cur.toList.length := by simp; omega
    rw [Array.toList_setIfInBounds, Nat.mul_one, List.take_succ_eq_append_getElem (by simpa using hsz), List.take_set_of_le (Nat.le_refl _)]
    rw [Nat.mul_one] at htake
    rw [htake]; simp
/-- append of one element to a slice of the call's own: where it lies is known, or new -/
theorem append_one {P : Program} (w : World) (base : Nat) (t ty e : TypeId) (i : TypeInfo) (z : Value) (bytes : Nat) (ht : P.underlying t = some (.slice e)) (hi : P.info? e = some i) (hz : i.zero = some z)
    (hsize : i.size = 1) (hby : i.bytes = bytes) (hzs : z.cells.size = 1) (v : Value) (n : Nat) (xs : List Value) (hown : w.ownsRow base e 1 v n xs)
    (ad : Addr) (c : Nat) (u : Value) (hnews : ∀ j x, [u][j]? = some x → w.cell? (ad.add j) = some x) (h1 : u.oneCell' = true)
    (h63 : n + 1 ≤ maxLen) (hbytes : (n + 1) * bytes ≤ 140737488355328) (hbase : base ≤ w.heap.size) :
    ∃ v' w', (Builtin.append_ #[t, t] ty #[v, .slice (some ad) 1 c]).run P w = .ok v' w' ∧ w'.ownsRow base e 1 v' (n + 1) (xs ++ [u]) ∧ w.grownBy w' v.ownBlock ∧ (v'.ownBlock = v.ownBlock ∨ ∀ k, v'.ownBlock = some k → w.heap.size ≤ k) := by
  have up : ∀ {v' : Value} {w' : World}, w'.ownsRow w.heap.size e 1 v' (n + 1) (xs ++ [u]) → w'.ownsRow base e 1 v' (n + 1) (xs ++ [u]) := fun {v' w'} h => ⟨h.1, h.2.imp id fun ⟨g, cap, cur, a1, a2, a3⟩ => ⟨g, cap, cur, a1, Nat.le_trans hbase a2, a3⟩⟩
  have fresh : ∀ {v' : Value} {w' : World}, w'.ownsRow w.heap.size e 1 v' (n + 1) (xs ++ [u]) → ∀ k, v'.ownBlock = some k → w.heap.size ≤ k := fun {v' w'} h k hk => (World.ownsRow.lt h k hk).1
  rcases Joins.ownsRow_forms hown with ⟨rfl, rfl⟩ | ⟨g, cap, rfl⟩
  · obtain rfl : xs = [] := List.eq_nil_of_length_eq_zero (by simpa using hown.1)
    obtain ⟨v', w', hrun, r1, r2, _⟩ := run_append_own (P := P) w w.heap.size t ty e i z 1 bytes ht hi hz hsize hby hzs (by decide) (.slice none 0 0) 0 [] (World.ownsRow_nil w _ e 1) ad 1 c [u] rfl hnews (by simpa using h1) h63 hbytes (Nat.le_refl _)
    exact ⟨v', w', hrun, up r1, r2, Or.inr (fresh r1)⟩
  · by_cases hroom : n + 1 ≤ cap
    · have hcur := hown.2
      have hcell : (w.cell? ⟨g, n, none⟩).isSome = true := by
        rcases hcur with ⟨h', _⟩ | ⟨g', cap', cur, h', hb, hg, hnc, hcm, hcs, htake⟩
        · simp at h'
        · simp only [Value.slice.injEq, Option.some.injEq, Addr.mk.injEq, and_true, true_and] at h'
          obtain ⟨rfl, rfl⟩ := h'
          have : n < cur.size := by omega
          simp [World.cell?, hg, this]
      have hrun := run_append_room_cells (P := P) w t ty e i ht hi g 0 n cap ad 1 c [u] (by simp [hsize]) hnews (by simpa using h1) hroom (fun j hj => by obtain rfl : j = 0 := (by simpa using hj); simpa [hsize] using hcell) (fun j hj => World.ownsRow.frozenAt hown _)
      have e1 : w.setCells g (0 + n * i.size) [u] = w.setCell ⟨g, n, none⟩ u := by rw [hsize]; simp [World.setCells]
      rw [e1] at hrun
      obtain ⟨x1, x2⟩ := own_extend hown u (by omega)
      exact ⟨_, _, hrun, x1, x2, Or.inl rfl⟩
    · obtain ⟨v', w', hrun, r1, r2⟩ := run_append_arg_grows (P := P) w t ty e i z 1 bytes ht hi hz hsize hby hzs (by decide) ⟨g, 0, none⟩ n cap xs hown.1 (fun j x hx => World.ownsRow.cells hown rfl j x hx) ad 1 c [u] rfl hnews (by omega) h63 hbytes
      exact ⟨v', w', hrun, up r1, ⟨r2.os, r2.tape, r2.output, r2.size, fun k hk _ => r2.block k hk (by simp)⟩, Or.inr (fresh r1)⟩
/-- append of one element to a slice of the call's own, as one step of a region that draws its order -/
theorem step_append_one {P : Program} {ops : Array Oper} {o : Oper} {a : Act} {w : World} {K : Act → World → Prop} {Q : Exit → Act → World → Prop} {E : Prop}
    (hg : o.guard = none) (s x : Operand) (t : TypeId) (hop : o.op = Op.call { callee := Callee.builtin Builtin.append, args := #[s, x], argTypes := #[t, t] })
    (base : Nat) (e : TypeId) (i : TypeInfo) (z : Value) (bytes : Nat) (h1 : P.underlying t = some (.slice e)) (h2 : P.info? e = some i) (h3 : i.zero = some z) (h4 : i.size = 1) (h5 : i.bytes = bytes) (h6 : z.cells.size = 1)
    (v : Value) (n : Nat) (xs : List Value) (hs : a.eval s = v) (hown : w.ownsRow base e 1 v n xs)
    (ad : Addr) (c : Nat) (u : Value) (hx : a.eval x = .slice (some ad) 1 c) (hc : ∀ j y, [u][j]? = some y → w.cell? (ad.add j) = some y) (h1c : u.oneCell' = true)
    (b1 : n + 1 ≤ maxLen) (b2 : (n + 1) * bytes ≤ 140737488355328) (hbase : base ≤ w.heap.size)
    (hK : ∀ v' w', w'.ownsRow base e 1 v' (n + 1) (xs ++ [u]) → w.grownBy w' v.ownBlock → (v'.ownBlock = v.ownBlock ∨ ∀ k, v'.ownBlock = some k → w.heap.size ≤ k) → K (a.put o.dst v') w') :
    if Region.wanted o (yielded ops a.tmps) = true then Oper.wp P o a w K Q else E := by
  have hw : Region.wanted o (yielded ops a.tmps) = true := by simp [Region.wanted, hg]
  rw [if_pos hw]
  obtain ⟨v', w', hrun, r1, r2, r3⟩ := append_one (P := P) w base t o.type e i z bytes h1 h2 h3 h4 h5 h6 v n xs hown ad c u hc h1c b1 b2 hbase
  unfold Oper.wp
  simp [execOp, hop, resolve, invoke, builtin, hs, hx, hrun, Result.andThen]
  exact hK v' w' r1 r2 r3
theorem size_alloc_le {w : World} {o : Obj} {k : Nat} (h : ((w.alloc o).drew).heap.size ≤ k) : w.heap.size + 1 ≤ k := by
  have e : (w.heap.push o).size ≤ k := h
  simpa using e
theorem frozen_grown {a b : World} {r : Option Nat} (hg : a.grownBy b r) {bq o : Nat} (hb : bq < a.heap.size) (hne : r ≠ some bq) : b.frozen? ⟨bq, o, none⟩ = a.frozen? ⟨bq, o, none⟩ :=
  World.frozen?_of_block (a := ⟨bq, o, none⟩) (hg.block bq hb (fun e => hne e.symm))
theorem assert_int (x : Int) (w : World) : (Instr.typeAssert (.iface 3 (.int .i64 x)) 20 3 false).run Try.prog w = .ok (.int .i64 x) w := by kernel_rfl
def PushPost (w w' : World) (B bq : Nat) (sv : Value) (zs : List Int) (x : Int) : Prop :=
  ∃ w1 g c, w' = w1.setCell ⟨bq, 2, none⟩ (.slice (some ⟨g, 0, none⟩) (zs.length + 1) c) ∧ w1.ownsRow B 3 1 (.slice (some ⟨g, 0, none⟩) (zs.length + 1) c) (zs.length + 1) (nums (zs ++ [x])) ∧ w.grownBy w1 sv.ownBlock ∧ (some g = sv.ownBlock ∨ w.heap.size ≤ g)
set_option maxHeartbeats 2000000 in
theorem push_any (B bq : Nat) (sv : Value) (zs : List Int) (x : Int) (w : World) (hrow : w.ownsRow B 3 1 sv zs.length (nums zs)) (hcell : w.cell? ⟨bq, 2, none⟩ = some sv) (hfr : w.frozen? ⟨bq, 2, none⟩ = false) (hne : sv.ownBlock ≠ some bq) (hB : B ≤ bq) (hsm : zs.length ≤ 100000) :
    Calls Try.prog 104 #[.pointer (some ⟨bq, 2, none⟩), .iface 3 (.int .i64 x)] w fun e w' => e = .returned (.tuple #[]) ∧ PushPost w w' B bq sv zs x := by
  obtain ⟨i0, hi, hz0, hz1, hz2⟩ := info_parts info3
  have hbq := World.block_lt_of_cell? w _ hcell
  have hBw : B ≤ w.heap.size := by have : bq < w.heap.size := hbq; omega
  have hta := assert_int x
  have s1 := Lib.hid (show ((w.alloc (.cells #[.int .i64 x] 3)).drew).ownsRow B 3 1 sv zs.length (nums zs) from hrow.alloc _)
  have s2 := Lib.hid (show ∀ (j : Nat) (u : Value), [Value.int .i64 x][j]? = some u → ((w.alloc (.cells #[.int .i64 x] 3)).drew).cell? ((⟨w.heap.size, 0, none⟩ : Addr).add j) = some u from fun j u hj => by
    match j, hj with
    | 0, hj => simp at hj; subst hj; simp [Addr.add])
  have s3 := Lib.hid (show ∀ u ∈ [Value.int .i64 x], u.oneCell' = true from fun u hu => by simp at hu; subst hu; rfl)
  have s4 := Lib.hid (show B ≤ ((w.alloc (.cells #[.int .i64 x] 3)).drew).heap.size from by show B ≤ (w.heap.push _).size; simp; omega)
  have s5 := Lib.hid (show ((w.alloc (.cells #[.int .i64 x] 3)).drew).cell? ⟨bq, 2, none⟩ = some sv from (Below.cell ((Below.refl w.heap.size w).alloc (Nat.le_refl _) _) (p := ⟨bq, 2, none⟩) hbq).trans hcell)
  have s6 := Lib.hid (show bq < ((w.alloc (.cells #[.int .i64 x] 3)).drew).heap.size from by show bq < (w.heap.push _).size; have : bq < w.heap.size := hbq; simp; omega)
  have s7 := Lib.hid (show ((w.alloc (.cells #[.int .i64 x] 3)).drew).frozen? ⟨bq, 2, none⟩ = false from (frozen?_alloc_cells _ _ _ _).trans hfr)
  go_enter Try.func104, Try.ntmps104
  go_wp2_with fail
  go_region_law (go_loud (refine step_append_one rfl (.tmp 7) (.tmp 10) 51 rfl B 3 i0 (.int .i64 0) 8 Try.underlying51 hi hz0 hz1 hz2 rfl sv zs.length (nums zs) (by simp [Act.eval, Act.put]) s1.out ⟨w.heap.size, 0, none⟩ 1 (.int .i64 x) (by simp [Act.eval, Act.put]) s2.out rfl (by unfold maxLen; omega) (by omega) s4.out ?_); intro v' w' ho hg hwh; obtain ⟨g', c', hv'⟩ := Joins.ownsRow_form ho (by omega); rw [hv'] at ho hwh ⊢; have t1 := hg.cell (a := ⟨bq, 2, none⟩) s5.out (by simpa using hne.symm); have t2 : w'.frozen? ⟨bq, 2, none⟩ = false := (frozen_grown hg s6.out hne).trans s7.out; clear hta)
  all_goals go_end0
  all_goals exact ⟨rfl, _, _, _, rfl, by unfold nums at *; simpa using ho, grown_trans ((World.grownBy_alloc w _ _)) ⟨hg.os, hg.tape, hg.output, hg.size, hg.block⟩, hwh.imp id fun h => Nat.le_of_succ_le (size_alloc_le (h _ rfl))⟩
set_option maxHeartbeats 2000000 in
theorem popm_any (B bq g cap : Nat) (zs : List Int) (w : World) (h : QR w B bq g cap zs) (hfr : w.frozen? ⟨bq, 2, none⟩ = false) (hz : 0 < zs.length) (hcap : zs.length ≤ cap) :
    Calls Try.prog 103 #[.pointer (some ⟨bq, 2, none⟩)] w fun e w' => e = .returned (.iface 3 (.int .i64 (zs.getD (zs.length - 1) 0))) ∧ w' = w.setCell ⟨bq, 2, none⟩ (.slice (some ⟨g, 0, none⟩) (zs.length - 1) cap) := by
  have hcell := h.cell
  have hlen := h.len
  have hl := h.cells (zs.length - 1) (by omega)
  generalize zs.getD (zs.length - 1) 0 = x at hl ⊢
  generalize zs.length = n at *
  go_enter Try.func103, Try.ntmps103
  go_wp2_with fail
  go_ret
  exact ⟨rfl, rfl⟩
end Go.Proofs.Ytkicoaphchpngaa
