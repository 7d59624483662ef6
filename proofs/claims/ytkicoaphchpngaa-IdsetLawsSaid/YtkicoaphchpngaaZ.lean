/- merge, with the closure of choose. -/
import Derived.Test.YtkicoaphchpngaaY
namespace Go.Proofs.Ytkicoaphchpngaa
open Go.RowKit Go.Lib Go.Sort
set_option linter.unusedVariables false
set_option linter.unusedSimpArgs false
def MPost (w : World) (pc : Nat) (ls : List Int) (e : Ending) (w' : World) : Prop := e = .returned (.tuple #[]) ∧ ∃ v, w'.heap[pc]? = some (.cells #[v] 22 (0, 0)) ∧ w'.ownsRow w.heap.size 3 1 v ls.length (nums ls) ∧ FrC w.heap.size pc w w'
theorem chL_nn (kp : Bool → Bool → Bool) : chL kp [] [] = [] := by unfold chL; rfl
theorem chL_cn (kp : Bool → Bool → Bool) (x : Int) (ps : List Int) : chL kp (x :: ps) [] = one (kp true false) x ++ chL kp ps [] := by rw [chL]
theorem chL_nc (kp : Bool → Bool → Bool) (y : Int) (bs : List Int) : chL kp [] (y :: bs) = one (kp false true) y ++ chL kp [] bs := by rw [chL]
theorem chL_lt (kp : Bool → Bool → Bool) {x y : Int} (ps bs : List Int) (h : x < y) : chL kp (x :: ps) (y :: bs) = one (kp true false) x ++ chL kp ps (y :: bs) := by rw [chL, if_pos h]
theorem chL_gt (kp : Bool → Bool → Bool) {x y : Int} (ps bs : List Int) (h : y < x) : chL kp (x :: ps) (y :: bs) = one (kp false true) y ++ chL kp (x :: ps) bs := by rw [chL, if_neg (by omega), if_pos h]
theorem chL_eq (kp : Bool → Bool → Bool) (x : Int) (ps bs : List Int) : chL kp (x :: ps) (x :: bs) = one (kp true true) x ++ chL kp ps bs := by rw [chL, if_neg (by omega), if_neg (by omega)]
theorem below_frc {w w' : World} {pc : Nat} (h : Below w.heap.size w w') : FrC w.heap.size pc w w' := ⟨h.os, h.tape, h.output, h.size, fun k hk _ => h.block k hk⟩
theorem frc_drawn {B pc : Nat} {w w' w2 : World} (h : FrC B pc w w') (hd : Drawn w' w2) : FrC B pc w w2 := by
  obtain ⟨q, rfl⟩ := hd; exact ⟨h.os, h.tape, h.output, h.size, h.block⟩
theorem ch_drawn {w w' : World} {B pc kb : Nat} {kv v : Value} {out : List Int} (h : CH w B pc kb kv v out) (hd : Drawn w w') : CH w' B pc kb kv v out := by
  obtain ⟨q, rfl⟩ := hd; exact ⟨h.blk, h.keep, h.row, h.pcB, h.kbB, h.size⟩
/-- what stands between two rounds -/
structure Mg (w wr : World) (B pc kb : Nat) (kv : Value) (kp : Bool → Bool → Bool) (ls : List Int) (va vb v : Value) (ps qs out : List Int) : Prop where
  a : RdB wr B pc va ps
  b : RdB wr B pc vb qs
  ch : CH wr B pc kb kv v out
  sum : out ++ chL kp ps qs = ls
  len : out.length + ps.length + qs.length ≤ 2000
  fr : FrC B pc w wr
theorem Mg.step {w wr w' w1 : World} {B pc kb : Nat} {kv va vb va' vb' v : Value} {kp : Bool → Bool → Bool} {ls ps qs ps' qs' out : List Int} {c : Bool} {x : Int} (h : Mg w wr B pc kb kv kp ls va vb v ps qs out) (hd : Drawn wr w1) (hp : VPost w1 B pc kb kv (if c = true then out ++ [x] else out) w')
    (ha : RdB wr B pc va' ps') (hb : RdB wr B pc vb' qs') (hs : chL kp ps qs = one c x ++ chL kp ps' qs') (hl : ps'.length + qs'.length < ps.length + qs.length) : ∃ v' out', Mg w w' B pc kb kv kp ls va' vb' v' ps' qs' out' := by
  obtain ⟨v', h1, h2⟩ := hp
  have hf := (frc_drawn (FrC.refl B pc wr) hd).trans h2
  exact ⟨v', _, ha.kept hf, hb.kept hf, h1, by rw [one_app, ← hs]; exact h.sum, by have := one_len c x out; have := h.len; omega, h.fr.trans hf⟩
theorem FrC.mono {B B' pc : Nat} {w w' : World} (h : FrC B pc w w') (hb : B' ≤ B) : FrC B' pc w w' := ⟨h.os, h.tape, h.output, h.size, fun k hk hn => h.block k (Nat.lt_of_lt_of_le hk hb) hn⟩
end Go.Proofs.Ytkicoaphchpngaa
