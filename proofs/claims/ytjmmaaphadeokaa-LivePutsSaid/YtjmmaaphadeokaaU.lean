/- A range over instructions backward: the parts. -/
import Derived.Test.YtjmmaaphadeokaaV
import Derived.Test.YtjmmaaphadeokaaS
import Derived.Test.YtjmmaaphadeokaaT
import Derived.Test.YtjmmaaphadeokaaM
import Derived.Deep.Upon
import Derived.Sort.CutIn
import Derived.Maps.AppendAt
namespace Go.Proofs.Ytjmmaaphadeokaa
open Go.RowKit Go.Shelf
set_option linter.unusedVariables false
set_option linter.unusedSimpArgs false
attribute [local go_sem] Oper.semAt_some
section
variable {F : Fence} {n : Nat} {P : Program} {ops : Array Oper} {rest : List Oper} {op : Oper} {a : Act} {w : World} {Q : Exit → Act → World → Prop}
theorem wpListIn_load_mid (hgd : op.guard = none) (ty : TypeId) (x : Operand) (ho : op.op = .load ty x)
    (b o : Nat) (hx : a.eval x = .pointer (some ⟨b, o, none⟩)) (cs : List Value) (d : TypeDesc) (hc : w.rangeAt b o cs)
    (hu : P.underlying ty = some d) (hd : d.isRow = true) (hi : (P.info? ty).map (·.size) = some cs.length)
    (h : wpListIn F n P ops Q rest (a.put op.dst (.agg cs.toArray)) w) : wpListIn F n P ops Q (op :: rest) a w := by
  refine wpListIn_plain hgd fun K hK => ?_
  unfold Oper.wpIn
  refine ⟨by simp [Oper.about, ho], ?_⟩
  rw [Oper.semAt_plain F _ _ (by rw [ho]; intro c hc'; cases hc')]
  simp only [execOp, ho, hx, Instr.loadAt, Instr.sureAddr, Sem.run_bind, Sem.run_pure, Result.andThen_ok, run_loadVar_mid w b o ty cs d hc hu hd hi]
  exact hK _ _ h
theorem wpListIn_store_mid (hgd : op.guard = none) (ty : TypeId) (x y : Operand) (ho : op.op = .store ty x y)
    (b o : Nat) (cells : Array Value) (hx : a.eval x = .pointer (some ⟨b, o, none⟩)) (hy : a.eval y = .agg cells)
    (ht : w.there b o cells.size) (hi : (P.info? ty).map (·.size) = some cells.size) (h1 : cells.all (·.oneCell') = true)
    (h : wpListIn F n P ops Q rest (a.put op.dst undef) (w.setCells b o cells.toList)) : wpListIn F n P ops Q (op :: rest) a w := by
  refine wpListIn_plain hgd fun K hK => ?_
  unfold Oper.wpIn
  refine ⟨by simp [Oper.about, ho], ?_⟩
  rw [Oper.semAt_plain F _ _ (by rw [ho]; intro c hc'; cases hc')]
  simp only [execOp, ho, hx, hy, Instr.storeAt, Instr.sureAddr, Sem.run_bind, Sem.run_pure, Result.andThen_ok, run_storeVar_mid w b o ty cells ht hi h1]
  exact hK _ _ h
end
theorem cells_own {β : Type} (B : Nat) (f : β → Array Value) (t : TypeId) : Own (fun s W => W.heap[B]? = some (.cells (f s) t (0, 0))) := fun s X Y row hs hg hrow =>
  (grownBy_keeps_cells hg hrow hs rfl).trans hs
theorem bk_keeps {A B : World} (h : BK A B) (N : Nat) : KeepsFrom N A B := ⟨h.bl.size, fun k o _ hk _ => (h.bl.block k (Array.getElem?_eq_some_iff.1 hk).1).trans hk⟩
theorem SH.there {w : World} {b : Nat} {s : List Bool} (h : SH w b s) : w.there b 0 s.length := fun j hj => by
  rw [Nat.zero_add]; exact ⟨by rw [h.cell j hj]; rfl, h.frozen j⟩
theorem SH.range {w : World} {b : Nat} {s : List Bool} (h : SH w b s) : w.rangeAt b 0 (bs s) := fun j v hv => by
  have hj : j < s.length := by have := (List.getElem?_eq_some_iff.1 hv).1; rwa [bs_len] at this
  rw [Nat.zero_add, h.cell j hj, ← hv]; simp [bs, hj]
theorem X6.range {w : World} {b : Nat} {i : I6} (h : X6 w b i) : w.rangeAt b 0 (cells6 i) := fun j v hv => by
  obtain ⟨c0, c1, c2, c3, c4, c5⟩ := h
  rw [Nat.zero_add]
  have hj : j < 6 := by have := (List.getElem?_eq_some_iff.1 hv).1; simpa [cells6] using this
  match j, hj with
  | 0, _ => simp [cells6] at hv; rw [← hv]; exact c0
  | 1, _ => simp [cells6] at hv; rw [← hv]; exact c1
  | 2, _ => simp [cells6] at hv; rw [← hv]; exact c2
  | 3, _ => simp [cells6] at hv; rw [← hv]; exact c3
  | 4, _ => simp [cells6] at hv; rw [← hv]; exact c4
  | 5, _ => simp [cells6] at hv; rw [← hv]; exact c5
/-- a whole row stored -/
theorem SH.stored {w : World} {b : Nat} {s s' : List Bool} (h : SH w b s) (hl : s'.length = s.length) : SH (w.setCells b 0 (bs s')) b s' := by
  have key : ∀ (r : List Bool) (k : Nat) (w : World) (s : List Bool), SH w b s → k + r.length = s.length → SH (w.setCells b k (bs r)) b (s.take k ++ r) := by
    intro r
    induction r with
    | nil => intro k w s h hk; simp only [bs, List.map_nil, World.setCells, List.append_nil]; rw [List.take_of_length_le (by simp at hk; omega)]; exact h
    | cons x r ih =>
      intro k w s h hk
      simp only [List.length_cons] at hk
      show SH ((w.setCell ⟨b, k, none⟩ (.bool x)).setCells b (k + 1) (bs r)) b (s.take k ++ x :: r)
      have h2 := ih (k + 1) _ _ (h.set k x) (by simp; omega)
      have e : (s.set k x).take (k + 1) ++ r = s.take k ++ x :: r := by
        rw [List.take_succ_eq_append_getElem (by simp; omega)]
        simp [List.take_set_of_le]
      rw [e] at h2
      exact h2
  have := key s' 0 w s h (by omega)
  simpa using this
theorem SH.cells {w : World} {b : Nat} {s : List Bool} (h : SH w b s) (g o : Nat) (vs : List Value) (hp : b ≠ g) : SH (w.setCells g o vs) b s :=
  (World.heap_setCells_other w g o vs h.lt hp).trans h
theorem keeps_setCells (b N : Nat) : ∀ (vs : List Value) (o : Nat) (w : World), KeepsFrom N w (w.setCells b o vs)
  | [], _, _ => KeepsFrom.refl _ _
  | v :: r, o, w => ((KeepsOthers.setCell w ⟨b, o, none⟩ v).from N).trans (keeps_setCells b N r (o + 1) _)
theorem valid_reg {W R : Int} {ins : List I6} {out : List Int} (h : Vd W R ins out) : (∀ i ∈ ins, RegOk i) ∧ (∀ x ∈ out, 0 ≤ x ∧ x < 8) := by
  have h8 := h.r2
  refine ⟨fun i hi => ⟨fun r hr => ?_, fun hd => ?_⟩, fun x hx => ?_⟩
  · have := uses_in (insE_regB (h.fe i hi)) hr; omega
  · have := dst_in (insE_regB (h.fe i hi)) hd; omega
  · have := h.oin x hx; omega
def klL (out : List Int) (pre : List El) : List I6 := (removeL out (sfx pre)).reverse
/-- between two rounds -/
def IV (w : World) (K L : Nat) (W R : Int) (p q : Option Addr) (pc qc : Nat) (ins : List I6) (out : List Int) (pre : List El) (X : World) : Prop :=
  (((∃ v, Boxed X K 22 v ∧ X.ownsRow w.heap.size 54 6 v (klL out pre).length (flat6 (klL out pre)) ∧ True) ∧ X.heap[L]? = some (.cells (ba (lvL (removeL out (sfx pre)) out)) 58 (0, 0))) ∧
    (X.heap[w.heap.size]? = some (.cells #[.int .i64 W, .int .i64 R, .slice p ins.length pc, .slice q out.length qc] 25 (0, 0)) ∧ X.heap[w.heap.size + 1]? = some (.cells #[.int .i64 0, .int .i64 0, .slice none 0 0, .slice none 0 0] 25 (0, 0)))) ∧ Below w.heap.size w X
theorem IV.from {w : World} {K L : Nat} {W R : Int} {p q : Option Addr} {pc qc : Nat} {ins : List I6} {out : List Int} {B : Nat} (hB : w.heap.size ≤ B) : OwnFrom B (IV w K L W R p q pc qc ins out) :=
  OwnFrom.and (OwnFrom.and (OwnFrom.and (Own.from (holdsRow_own w.heap.size K 22 54 6 (fun pre => (klL out pre).length) (fun pre => flat6 (klL out pre)) (fun _ _ => True)) _) (Own.from (cells_own L (fun pre => ba (lvL (removeL out (sfx pre)) out)) 58) _)) (OwnFrom.and (Own.from (cells_own w.heap.size (fun _ => #[.int .i64 W, .int .i64 R, .slice p ins.length pc, .slice q out.length qc]) 25) _) (Own.from (cells_own (w.heap.size + 1) (fun _ => #[.int .i64 0, .int .i64 0, .slice none 0 0, .slice none 0 0]) 25) _))) (ownFrom_below (Nat.le_refl _) hB)
end Go.Proofs.Ytjmmaaphadeokaa
