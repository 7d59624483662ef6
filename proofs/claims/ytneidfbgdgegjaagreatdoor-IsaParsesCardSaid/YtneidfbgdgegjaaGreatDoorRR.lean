/- read: the invariants. -/
import Derived.Test.YtneidfbgdgegjaaGreatDoorLI
import Derived.Test.YtneidfbgdgegjaaGreatDoorRJ
import Derived.Test.YtneidfbgdgegjaaGreatDoorSP
import Derived.Deep.Upon
import Derived.Sort.CutIn
import Derived.Maps.AppendAt
namespace Go.Proofs.YtneidfbgdgegjaaGreatDoor
open Go.RowKit Go.Shelf
set_option linter.unusedVariables false
set_option linter.unusedSimpArgs false
/-! the pure part -/
def finP (w r : Int) : PR → PC
  | .bad n => .bad n
  | .ok i o => .ok w r i o
/-- what the lines so far have given -/
def RdI (pre : List (List UInt8)) (ended : Bool) (W R : Int) (acc : List I6) (out : List Int) : Prop :=
  (pre = [] ∧ ended = false ∧ acc = [] ∧ out = []) ∨
  (pre ≠ [] ∧ ended = false ∧ out = [] ∧ ∀ rest, progP (pre ++ rest) = finP W R (bodyP pre.length acc rest)) ∨
  (pre ≠ [] ∧ ended = true ∧ ∀ rest, progP (pre ++ rest) = match rest with | [] => .ok W R acc out | _ :: _ => .bad (pre.length + 1))
def BadI (pre : List (List UInt8)) : Prop := ∀ rest, progP (pre ++ rest) = .bad pre.length
theorem rd_head {x : List UInt8} {W R : Int} (h : headO (sp x) = some (W, R)) : RdI [x] false W R [] [] := by
  refine .inr (.inl ⟨by simp, rfl, rfl, fun rest => ?_⟩)
  show (match headO (sp x) with | none => PC.bad 1 | some p => match bodyP 1 [] rest with | .bad n => .bad n | .ok ins out => .ok p.1 p.2 ins out) = _
  rw [h]
  show _ = finP W R (bodyP 1 [] rest)
  cases bodyP 1 [] rest <;> rfl
theorem bad_head {x : List UInt8} (h : headO (sp x) = none) : BadI [x] := fun rest => by
  show (match headO (sp x) with | none => PC.bad 1 | some p => match bodyP 1 [] rest with | .bad n => .bad n | .ok ins out => .ok p.1 p.2 ins out) = _
  rw [h]; rfl
theorem body_cons (ln : Nat) (acc : List I6) (x : List UInt8) (r : List (List UInt8)) : bodyP ln acc (x :: r) = if (sp x).headD [] = outL then (match regsO (sp x).tail with
      | none => .bad (ln + 1)
      | some out => match r with
        | [] => .ok acc out
        | _ :: _ => .bad (ln + 2))
    else match insO (sp x) with
      | none => .bad (ln + 1)
      | some i => bodyP (ln + 1) (acc ++ [i]) r := by rw [bodyP]; rfl
theorem rd_app {pre : List (List UInt8)} {x : List UInt8} (rest : List (List UInt8)) : pre ++ [x] ++ rest = pre ++ x :: rest := by simp
theorem rd_ins {pre : List (List UInt8)} {W R : Int} {acc : List I6} {out : List Int} (hp : pre ≠ []) (h : RdI pre false W R acc out) {x : List UInt8} (ho : (sp x).headD [] ≠ outL) :
    (insO (sp x) = none → BadI (pre ++ [x])) ∧ (∀ i, insO (sp x) = some i → out = [] ∧ RdI (pre ++ [x]) false W R (acc ++ [i]) []) := by
  rcases h with ⟨h1, _⟩ | ⟨_, _, h3, h4⟩ | ⟨_, h2, _⟩
  · exact absurd h1 hp
  · refine ⟨fun hi rest => ?_, fun i hi => ⟨h3, .inr (.inl ⟨by simp, rfl, rfl, fun rest => ?_⟩)⟩⟩
    · rw [rd_app, h4, body_cons, if_neg ho, hi]; simp [finP]
    · rw [rd_app, h4, body_cons, if_neg ho, hi]; simp
  · cases h2
theorem rd_out {pre : List (List UInt8)} {W R : Int} {acc : List I6} {out : List Int} (hp : pre ≠ []) (h : RdI pre false W R acc out) {x : List UInt8} (ho : (sp x).headD [] = outL) :
    (regsO (sp x).tail = none → BadI (pre ++ [x])) ∧ (∀ o, regsO (sp x).tail = some o → out = [] ∧ RdI (pre ++ [x]) true W R acc o) := by
  rcases h with ⟨h1, _⟩ | ⟨_, _, h3, h4⟩ | ⟨_, h2, _⟩
  · exact absurd h1 hp
  · refine ⟨fun hi rest => ?_, fun i hi => ⟨h3, .inr (.inr ⟨by simp, rfl, fun rest => ?_⟩)⟩⟩
    · rw [rd_app, h4, body_cons, if_pos ho, hi]; simp [finP]
    · rw [rd_app, h4, body_cons, if_pos ho, hi]
      cases rest with
      | nil => rfl
      | cons y r => simp [finP]
  · cases h2
theorem rd_more {pre : List (List UInt8)} {W R : Int} {acc : List I6} {out : List Int} (h : RdI pre true W R acc out) (x : List UInt8) : BadI (pre ++ [x]) := by
  rcases h with ⟨_, h2, _⟩ | ⟨_, h2, _⟩ | ⟨_, _, h3⟩
  · cases h2
  · cases h2
  · intro rest
    rw [rd_app, h3]; simp
theorem rd_end {pre : List (List UInt8)} {W R : Int} {acc : List I6} {out : List Int} (h : RdI pre false W R acc out) : progP pre = .bad (pre.length + 1) := by
  rcases h with ⟨h1, _⟩ | ⟨_, _, h3, h4⟩ | ⟨_, h2, _⟩
  · subst h1; rfl
  · have := h4 []
    rw [List.append_nil] at this
    rw [this]; rfl
  · cases h2
theorem rd_done {pre : List (List UInt8)} {W R : Int} {acc : List I6} {out : List Int} (h : RdI pre true W R acc out) : progP pre = .ok W R acc out := by
  rcases h with ⟨_, h2, _⟩ | ⟨_, h2, _⟩ | ⟨_, _, h3⟩
  · cases h2
  · cases h2
  · have := h3 []
    rwa [List.append_nil] at this
/-! memory -/
structure RM (w X : World) (N0 : Nat) (W R : Int) (vi vo : Value) (acc : List I6) (out : List Int) (line : Nat) (ended : Bool) : Prop where
  c : C4 X w.heap.size W R vi vo
  ln : X.heap[w.heap.size + 1]? = some (.cells #[.int .i64 (line : Int)] 3 (0, 0))
  en : X.heap[w.heap.size + 2]? = some (.cells #[.bool ended] 4 (0, 0))
  ri : X.ownsRow N0 42 6 vi acc.length (flat6 acc)
  ro : X.ownsRow N0 3 1 vo out.length (ints out)
  bk : BK w X
/-- the lines so far, without their ends -/
def lsX (pre : List BA) : List (List UInt8) := (bls pre).map trm
theorem lsX_snoc (pre : List BA) (x : BA) : lsX (pre ++ [x]) = lsX pre ++ [trm (bl x.1)] := by unfold lsX; rw [bls_snoc, List.map_append]; rfl
theorem lsX_len (pre : List BA) : (lsX pre).length = pre.length := by unfold lsX; rw [List.length_map, bls_len]
def IVr (w : World) (N0 : Nat) (pre : List BA) (X : World) : Prop :=
  ∃ (W R : Int) (vi vo : Value) (acc : List I6) (out : List Int) (ended : Bool), RM w X N0 W R vi vo acc out pre.length ended ∧ RdI (lsX pre) ended W R acc out ∧ acc.length ≤ pre.length ∧ out.length ≤ 200000
def IXr (w : World) (pre : List BA) (X : World) : Prop :=
  (∃ (W R : Int) (pi po : Option Addr) (ni ci no co : Nat), C4 X w.heap.size W R (.slice pi ni ci) (.slice po no co)) ∧ X.heap[w.heap.size + 1]? = some (.cells #[.int .i64 (pre.length : Int)] 3 (0, 0)) ∧ BK w X ∧ BadI (lsX pre)
theorem cells_kept {B : Nat} {W W' : World} {row : Option Nat} (hg : W.grownBy W' row) (hr : ∀ r, row = some r → B ≤ r ∧ ∃ o : Obj, W.heap[r]? = some o ∧ o.isCells = false) {b : Nat} {cs : Array Value} {t : TypeId} {fr : Nat × Nat} (h : W.heap[b]? = some (.cells cs t fr)) : W'.heap[b]? = some (.cells cs t fr) :=
  (hg.block b (Array.getElem?_eq_some_iff.1 h).1 (fun e => by
    obtain ⟨_, o, ho, hc⟩ := hr b e.symm
    rw [h] at ho; cases ho; cases hc)).trans h
theorem row_kept {B : Nat} {W W' : World} {row : Option Nat} (hg : W.grownBy W' row) (hr : ∀ r, row = some r → B ≤ r ∧ ∃ o : Obj, W.heap[r]? = some o ∧ o.isCells = false) {n e sz k : Nat} {v : Value} {xs : List Value} (h : W.ownsRow n e sz v k xs) : W'.ownsRow n e sz v k xs :=
  own_at h (fun b hb => by
    obtain ⟨cur, hc⟩ := own_tag h hb
    exact (cells_kept hg hr hc).trans hc.symm)
theorem bk_kept {w : World} {B : Nat} (hB : w.heap.size ≤ B) {W W' : World} {row : Option Nat} (h : BK w W) (hg : W.grownBy W' row) (hr : ∀ r, row = some r → B ≤ r ∧ ∃ o : Obj, W.heap[r]? = some o ∧ o.isCells = false) : BK w W' :=
  h.bl.grown hg h.bl.size (fun k e => by have := (hr k e).1; omega)
theorem RM.kept {w X X' : World} {N0 B : Nat} {W R : Int} {vi vo : Value} {acc : List I6} {out : List Int} {line : Nat} {ended : Bool} {row : Option Nat} (h : RM w X N0 W R vi vo acc out line ended) (hB : w.heap.size ≤ B) (hg : X.grownBy X' row) (hr : ∀ r, row = some r → B ≤ r ∧ ∃ o : Obj, X.heap[r]? = some o ∧ o.isCells = false) : RM w X' N0 W R vi vo acc out line ended :=
  ⟨cells_kept hg hr h.c, cells_kept hg hr h.ln, cells_kept hg hr h.en, row_kept hg hr h.ri, row_kept hg hr h.ro, bk_kept hB h.bk hg hr⟩
theorem IVr.from {w : World} {N0 B : Nat} (hB : w.heap.size ≤ B) : OwnFrom B (IVr w N0) := fun s X X' row ⟨W, R, vi, vo, acc, out, en, hm, hp⟩ hg hr => ⟨W, R, vi, vo, acc, out, en, hm.kept hB hg hr, hp⟩
theorem IXr.from {w : World} {B : Nat} (hB : w.heap.size ≤ B) : OwnFrom B (IXr w) := fun s X X' row ⟨⟨W, R, pi, po, ni, ci, no, co, h1⟩, h2, h3, h4⟩ hg hr => ⟨⟨W, R, pi, po, ni, ci, no, co, cells_kept hg hr h1⟩, cells_kept hg hr h2, bk_kept hB h3 hg hr, h4⟩
/-- a store into the iterator's box -/
theorem RM.setB {w X : World} {N0 b2 : Nat} {W R : Int} {vi vo : Value} {acc : List I6} {out : List Int} {line : Nat} {ended : Bool} (h : RM w X N0 W R vi vo acc out line ended) (hb : b2 = w.heap.size + 3) (hN : b2 < N0) (v : Value) : RM w (X.setCell ⟨b2, 0, none⟩ v) N0 W R vi vo acc out line ended := by
  have hs := st_set X b2 0 v
  refine ⟨h.c.st hs (fun e => by have e : w.heap.size = b2 := e; omega), st_blk h.ln hs (fun e => by have e : w.heap.size + 1 = b2 := e; omega), st_blk h.en hs (fun e => by have e : w.heap.size + 2 = b2 := e; omega), own_at h.ri (fun k hk => hs.block k (h.ri.lt k hk).2 (fun e => by have := (h.ri.lt k hk).1; have e : k = b2 := e; omega)), own_at h.ro (fun k hk => hs.block k (h.ro.lt k hk).2 (fun e => by have := (h.ro.lt k hk).1; have e : k = b2 := e; omega)), bk_set h.bk _ _ (by show w.heap.size ≤ b2; omega)⟩
theorem RM.drew {w X : World} {N0 : Nat} {W R : Int} {vi vo : Value} {acc : List I6} {out : List Int} {line : Nat} {ended : Bool} (h : RM w X N0 W R vi vo acc out line ended) : RM w X.drew N0 W R vi vo acc out line ended :=
  ⟨h.c, h.ln, h.en, own_below h.ri (bk_drew (BK.refl X)), own_below h.ro (bk_drew (BK.refl X)), bk_drew h.bk⟩
theorem IVr.sl {w : World} {N0 b2 : Nat} (hb : b2 = w.heap.size + 3) (hN : b2 < N0) (pre : List BA) (A B : World) (h : IVr w N0 pre A) (s : Sl b2 A B) : IVr w N0 pre B := by
  obtain ⟨W, R, vi, vo, acc, out, en, hm, hp⟩ := h
  rcases s with rfl | ⟨v, rfl⟩
  · exact ⟨W, R, vi, vo, acc, out, en, hm.drew, hp⟩
  · exact ⟨W, R, vi, vo, acc, out, en, hm.setB hb hN v, hp⟩
theorem own_ge {w : World} {N e sz n c : Nat} {p : Option Addr} {xs : List Value} (h : w.ownsRow N e sz (.slice p n c) n xs) {b o : Nat} (hp : p = some ⟨b, o, none⟩) : N ≤ b := by
  subst hp
  rcases h.2 with ⟨hv, _⟩ | ⟨g, cap, cur, hv, hb, _⟩
  · cases hv
  · simp only [Value.slice.injEq, Option.some.injEq, Addr.mk.injEq] at hv
    omega
/-- the program, the line -/
def RdP (w : World) (s : ByteArray) (e : Ending) (w' : World) : Prop :=
  ∃ (W R : Int) (pi po : Option Addr) (ni ci no co : Nat) (line : Nat), e = .returned (.tuple #[.agg #[.int .i64 W, .int .i64 R, .slice pi ni ci, .slice po no co], .int .i64 (line : Int)]) ∧ BK w w' ∧
    ((∃ n, progP (lns (bl s)) = .bad n ∧ line = n ∧ 1 ≤ n) ∨ (∃ ins out, progP (lns (bl s)) = .ok W R ins out ∧ line = 0 ∧ ni = ins.length ∧ no = out.length ∧ RI w' pi ci ins ∧ RO w' po co out ∧ ins.length ≤ s.size ∧ out.length ≤ 200000 ∧ ∀ b o, po = some ⟨b, o, none⟩ → w.heap.size ≤ b))
end Go.Proofs.YtneidfbgdgegjaaGreatDoor
