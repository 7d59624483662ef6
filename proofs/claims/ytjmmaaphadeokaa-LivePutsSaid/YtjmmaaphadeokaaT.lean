/- Instructions backward. -/
import Derived.Test.YtjmmaaphadeokaaO
import Derived.RangeFuncNested
import Derived.RangeFuncBox
import Derived.RangeFuncLeaves
import Derived.Shelf.Abstract
import Derived.OwnWalkIn
import Derived.TacticsInMore
import Derived.LoopNIn
import Derived.LoopIn
namespace Go.Proofs.Ytjmmaaphadeokaa
open Go.RowKit Go.Shelf
set_option linter.unusedVariables false
set_option linter.unusedSimpArgs false
attribute [local go_sem] Oper.semAt_some
/-- an instruction that an iterator hands over, with its index -/
abbrev El := { x : Int × I6 // RegOk x.2 }
def encE (x : El) : Array Value := #[.int .i64 x.1.1, .agg #[.int .i64 x.1.2.op, .int .i64 x.1.2.dst, .int .i64 x.1.2.a, .int .i64 x.1.2.b, .int .i64 x.1.2.c, .int .u64 x.1.2.imm]]
def sfx (pre : List El) : List I6 := (pre.map (fun x => x.1.2)).reverse
theorem sfx_snoc (pre : List El) (x : El) : sfx (pre ++ [x]) = x.1.2 :: sfx pre := by unfold sfx; simp
theorem sfx_len (pre : List El) : (sfx pre).length = pre.length := by unfold sfx; simp
/-- what a round keeps: what lay, and the iterator's own box -/
def Kq (n₀ Bs : Nat) (A B : World) : Prop := Below n₀ A B ∧ B.heap[Bs]? = A.heap[Bs]?
theorem Kq.trans {n₀ Bs : Nat} {A B C : World} (h : Kq n₀ Bs A B) (k : Kq n₀ Bs B C) : Kq n₀ Bs A C := ⟨h.1.trans k.1, k.2.trans h.2⟩
theorem Kq.put {n₀ Bs : Nat} {w : World} (hn : n₀ ≤ w.heap.size) (hB : Bs < w.heap.size) (W : World) (l : Nat) (o o' : Obj) (hl : w.heap.size ≤ l) (h : W.heap[l]? = some o) (h1 : o.isCells = false) (h2 : o.isWalk = false) : Kq n₀ Bs W (W.putObj l o') :=
  ⟨belowK_b hn W l o o' hl h h1 h2, World.putObj_heap_other (by omega)⟩
set_option maxRecDepth 100000 in
set_option maxHeartbeats 2000000 in
theorem back57 (l Bs : Nat) (p : Option Addr) (pc : Nat) (ins : List I6) (w : World) (hi : RI w p pc ins) (li : ins.length ≤ 1000) (hreg : ∀ i ∈ ins, RegOk i) (J Jx : List El → World → Prop)
    (hY : ∀ pre x W, J pre W → pre.length < ins.length → YieldAt Fence.wide 4 Try.prog l (encE x) W fun e W' =>
      (e = .returned (.bool true) ∧ J (pre ++ [x]) W' ∧ Kq w.heap.size Bs W W') ∨ (e = .returned (.bool false) ∧ Jx (pre ++ [x]) W'))
    (W : World) (hk : BK w W) (hBs : W.cell? ⟨Bs, 0, none⟩ = some (.slice p ins.length pc)) (h0 : J [] W) :
    CallsIn Fence.wide 5 Try.prog 57 #[.func (.yield l) #[] #[], .pointer (some ⟨Bs, 0, none⟩)] W fun e W' => (∃ v, e = .returned v) ∧
      ((∃ ys, sfx ys = ins ∧ J ys W') ∨ (∃ pre, True ∧ Jx pre W')) := by
  have HI := Lib.hid hi
  have HREG := Lib.hid hreg
  have HK0 := Lib.hid hk
  clear hi hreg hk
  refine callsIn_of_wp Try.func57 rfl trivial ?_ rfl
  simp only [Try.ntmps57, List.size_toArray, List.length_cons, List.length_nil, Nat.reduceAdd, Nat.reduceSub, Array.replicate_succ, Array.replicate_zero, List.push_toArray, List.append_toArray, List.nil_append, List.cons_append]
  gi_wp2
  gi_loopw [3] (fun t wr => ∃ (m : Nat) (pre : List El), m ≤ ins.length ∧ t = .int .i64 ((m : Int) - 1) ∧ pre.length + m = ins.length ∧ sfx pre = ins.drop m ∧ J pre wr ∧ BK w wr ∧ wr.cell? ⟨Bs, 0, none⟩ = some (.slice p ins.length pc)) (fun t _ => (intOf t + 1).toNat)
  case atStart => exact ⟨ins.length, [], Nat.le_refl _, rfl, by simp, by simp [sfx], h0, HK0.out, hBs⟩
  case round =>
    obtain ⟨m, pre, hm, rfl, hlen, hs, hJ, hkw, hb⟩ := hrel
    have HK := Lib.hid hkw
    have HS := Lib.hid hs
    clear hs
    cases m with
    | zero =>
      gi_wp2
      go_end0
      exact ⟨⟨_, rfl⟩, .inl ⟨pre, by rw [HS.out, List.drop_zero], hJ⟩⟩
    | succ m =>
      have em : (((m + 1 : Nat) : Int) - 1) = (m : Int) := by omega
      rw [em]
      clear em
      have hlt : m < ins.length := by omega
      obtain ⟨b, o, rfl, hc⟩ := (HI.out.keep hkw).get m hlt
      have hro := HREG.out _ (List.getElem_mem hlt)
      have HD := Lib.hid (List.drop_eq_getElem_cons hlt)
      obtain ⟨fn, tmps, assign, body, hy, hR⟩ := hY pre ⟨((m : Int), ins[m]), hro⟩ wr hJ (by omega)
      unfold encE at hy
      dsimp only at hy
      generalize hgi : ins[m] = i at hc hy HD
      have HG := Lib.hid hgi
      obtain ⟨d0, d1, d2, d3, d4, d5⟩ := hc
      clear hgi hkw
      gi_wp2
      refine hR.mono ?_
      rintro e W3 (⟨rfl, hJ3, hk3⟩ | ⟨rfl, hJx3⟩)
      · have K3 := Lib.hid (show BK w W3 from Below.trans HK.out hk3.1)
        have hb3 : W3.cell? ⟨Bs, 0, none⟩ = some (.slice (some ⟨b, o, none⟩) ins.length pc) := (World.cell?_of_block hk3.2).trans hb
        have HB3 := Lib.hid hb3
        clear hk3 hb hb3
        gi_wp2
        go_roundw
        case rel => exact ⟨m, _, by omega, by first | rfl | go_num, by simp; omega, by rw [sfx_snoc, HS.out, HD.out]; exact congrArg (fun z => z :: ins.drop (m + 1)) HG.out, hJ3, K3.out, HB3.out⟩
        case measure => simp [intOf]
      · gi_wp2
        refine bodyPost_ret (results_none rfl _ _ _) rfl ?_
        exact ⟨⟨_, rfl⟩, .inr ⟨_, trivial, hJx3⟩⟩
theorem back_stops (Bs : Nat) (p : Option Addr) (pc : Nat) (ins : List I6) (w W0 : World) (hi : RI w p pc ins) (li : ins.length ≤ 1000) (hreg : ∀ i ∈ ins, RegOk i) (hk : BK w W0) (hB : Bs < W0.heap.size)
    (hBs : W0.cell? ⟨Bs, 0, none⟩ = some (.slice p ins.length pc)) :
    SeqStopsK Fence.wide 5 Try.prog 57 #[.pointer (some ⟨Bs, 0, none⟩)] encE (Kq w.heap.size Bs) (fun ys => sfx ys = ins) (fun _ => True) ins.length W0 := fun l J Jx W hW _ _ hY h0 =>
  back57 l Bs p pc ins w hi li hreg J Jx hY W (bk_tr hk hW) ((hW.cell (p := ⟨Bs, 0, none⟩) hB).trans hBs) h0
set_option maxHeartbeats 1000000 in
theorem back37 (p : Option Addr) (n pc : Nat) (w : World) : Calls Try.prog 37 #[.slice p n pc] w fun e w' => e = .returned (.func (.func 57) #[] #[.pointer (some ⟨w.heap.size, 0, none⟩)]) ∧ w' = w.alloc (.cells #[.slice p n pc] 22) := by
  go_enter Try.func37, Try.ntmps37
  go_wp2_with fail
  go_ret
  exact ⟨rfl, rfl⟩
end Go.Proofs.Ytjmmaaphadeokaa
