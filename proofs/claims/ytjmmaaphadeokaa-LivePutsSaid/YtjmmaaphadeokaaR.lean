/- Sets in a row. -/
import Derived.Test.YtjmmaaphadeokaaQ
import Derived.Laws.MakeOwn
import Derived.Laws.Entries
namespace Go.Proofs.Ytjmmaaphadeokaa
open Go.RowKit
set_option linter.unusedVariables false
set_option linter.unusedSimpArgs false
theorem run_make_rowN {P : Program} (t e : TypeId) (i : TypeInfo) (z : Value) (ht : P.underlying t = some (.slice e)) (hi : P.info? e = some i) (hz : i.zero = some z)
    (kl kc : IntKind) (n c : Nat) (hnc : n ≤ c) (hbytes : i.bytes * c ≤ 281474976710656) (h63 : c ≤ 9223372036854775807) (w : World) :
    (Instr.makeSlice t (.int kl (n : Int)) (.int kc (c : Int))).run P w = .ok (.slice (some ⟨w.heap.size, 0, none⟩) n c) (w.alloc (.cells (madeCells z.cells (c * i.size)) e)) := by
  have hb : (i.bytes : Int) * (c : Int) ≤ 281474976710656 := by
    have h : ((i.bytes * c : Nat) : Int) ≤ 281474976710656 := by omega
    rwa [Int.natCast_mul] at h
  have hr := run_make (P := P) w t e i z ht hi hz kl kc n c (by omega) (by omega) hb (by omega)
  simp only [Int.toNat_natCast] at hr
  exact hr
def fls : Value := .agg #[.bool false, .bool false, .bool false, .bool false, .bool false, .bool false, .bool false, .bool false]
theorem info58 : (Try.prog.info? 58).map (fun i => (i.zero, i.size, i.bytes)) = some (some fls, 8, 8) := by kernel_rfl
def mk58 (n : Nat) : Array Value := madeCells fls.cells (n * 8)
theorem make58 (n : Nat) (h : n ≤ 1000) (w : World) : (Instr.makeSlice 55 (.int .i64 (n : Int)) (.int .i64 (n : Int))).run Try.prog w = .ok (.slice (some ⟨w.heap.size, 0, none⟩) n n) (w.alloc (.cells (mk58 n) 58)) := by
  obtain ⟨i0, hi, hz0, hz1, hz2⟩ := info_parts info58
  have := run_make_rowN (P := Try.prog) 55 58 i0 fls Try.underlying55 hi hz0 .i64 .i64 n n (Nat.le_refl _) (by rw [hz2]; omega) (by omega) w
  rw [hz1] at this
  exact this
theorem mk58_size (n : Nat) : (mk58 n).size = n * 8 := by unfold mk58; simp [madeCells]
def bs (s : List Bool) : List Value := s.map Value.bool
theorem bs_len (s : List Bool) : (bs s).length = s.length := by simp [bs]
theorem bk_setCells {w0 : World} (b : Nat) (hb : w0.heap.size ≤ b) : ∀ (vs : List Value) (o : Nat) (w : World), BK w0 w → BK w0 (w.setCells b o vs)
  | [], _, _, h => h
  | v :: r, o, w, h => by
    rw [World.setCells]
    exact bk_setCells b hb r (o + 1) _ (bk_set h _ _ hb)
/-- sets of registers in a row, from place m on -/
structure RS (w : World) (g n : Nat) (ins : List I6) (out : List Int) (m : Nat) : Prop where
  th : ∀ k, k < n → w.there g (k * 8) 8
  at_ : ∀ k, m ≤ k → k < n → w.rangeAt g (k * 8) (bs (lvL (ins.drop k) out))
theorem RS.keep {w w' : World} {g n : Nat} {ins : List I6} {out : List Int} {m : Nat} (h : RS w g n ins out m) (hb : BK w w') : RS w' g n ins out m := by
  refine ⟨fun k hk j hj => ?_, fun k h1 h2 j v hv => ?_⟩
  · obtain ⟨h1, h2⟩ := h.th k hk j hj
    obtain ⟨u, hu⟩ := Option.isSome_iff_exists.1 h1
    have hl := World.block_lt_of_cell? w _ hu
    exact ⟨by rw [hb.bl.cell (p := ⟨g, k * 8 + j, none⟩) hl]; exact h1, (hb.bl.frozen (p := ⟨g, k * 8 + j, none⟩) hl).trans h2⟩
  · have := h.at_ k h1 h2 j v hv
    exact (hb.bl.cell (p := ⟨g, k * 8 + j, none⟩) (World.block_lt_of_cell? w _ this)).trans this
theorem RS.step {w : World} {g n : Nat} {ins : List I6} {out : List Int} {m : Nat} (h : RS w g n ins out (m + 1)) (hm : m < n) : RS (w.setCells g (m * 8) (bs (lvL (ins.drop m) out))) g n ins out m := by
  have hl : (bs (lvL (ins.drop m) out)).length = 8 := by rw [bs_len, lvL_len]
  refine ⟨fun k hk => World.there_setCells (h.th k hk) _ _ _, fun k h1 h2 => ?_⟩
  by_cases e : k = m
  · subst e
    exact World.rangeAt_setCells_same _ _ _ _ (by rw [hl]; exact h.th k h2)
  · refine World.rangeAt_setCells_apart (h.at_ k (by omega) h2) _ _ _ (.inr (.inr ?_))
    rw [hl]; omega
theorem B4.cells {w : World} {b : Nat} {x0 x1 x2 x3 : Value} (h : B4 w b x0 x1 x2 x3) (g o : Nat) (vs : List Value) (hp : b ≠ g) : B4 (w.setCells g o vs) b x0 x1 x2 x3 := by
  obtain ⟨a0, a1, a2, a3⟩ := h
  have e : ∀ j, (w.setCells g o vs).cell? ⟨b, j, none⟩ = w.cell? ⟨b, j, none⟩ := fun j => World.cell?_setCells_out g vs o w ⟨b, j, none⟩ (fun hb _ => absurd hb hp)
  exact ⟨(e 0).trans a0, (e 1).trans a1, (e 2).trans a2, (e 3).trans a3⟩
theorem A6.cells {w : World} {b o' : Nat} {i : I6} (h : A6 w b o' i) (g o : Nat) (vs : List Value) (hp : b ≠ g) : A6 (w.setCells g o vs) b o' i := by
  obtain ⟨a0, a1, a2, a3, a4, a5⟩ := h
  have e : ∀ j, (w.setCells g o vs).cell? ⟨b, j, none⟩ = w.cell? ⟨b, j, none⟩ := fun j => World.cell?_setCells_out g vs o w ⟨b, j, none⟩ (fun hb _ => absurd hb hp)
  exact ⟨(e _).trans a0, (e _).trans a1, (e _).trans a2, (e _).trans a3, (e _).trans a4, (e _).trans a5⟩
/-- the sets of a whole program -/
def BP (n : Nat) (ins : List I6) (out : List Int) (w : World) (e : Ending) (w' : World) : Prop := ∃ g, e = .returned (.slice (some ⟨g, 0, none⟩) (n + 1) (n + 1)) ∧ w.heap.size ≤ g ∧ RS w' g (n + 1) ins out 0 ∧ BK w w'
/-- what a round of between rests on -/
structure BR (w' : World) (nb g b o : Nat) (m : Nat) (i : I6) (x : Value) (s : List Bool) : Prop where
  c : w'.cell? ⟨nb, 2, none⟩ = some x
  a : A6 w' b (o + m * 6) i
  r : w'.rangeAt g ((m + 1) * 8) (bs s)
  t : w'.there g (m * 8) 8
theorem BR.keep {w w' : World} {nb g b o m : Nat} {i : I6} {x : Value} {s : List Bool} (h : BR w nb g b o m i x s) (hb : BK w w') : BR w' nb g b o m i x s := by
  refine ⟨(hb.bl.cell (p := ⟨nb, 2, none⟩) (World.block_lt_of_cell? w _ h.c)).trans h.c, h.a.keep hb, fun j v hv => ?_, fun j hj => ?_⟩
  · have := h.r j v hv
    exact (hb.bl.cell (p := ⟨g, (m + 1) * 8 + j, none⟩) (World.block_lt_of_cell? w _ this)).trans this
  · obtain ⟨h1, h2⟩ := h.t j hj
    obtain ⟨u, hu⟩ := Option.isSome_iff_exists.1 h1
    have hl := World.block_lt_of_cell? w _ hu
    exact ⟨by rw [hb.bl.cell (p := ⟨g, m * 8 + j, none⟩) hl]; exact h1, (hb.bl.frozen (p := ⟨g, m * 8 + j, none⟩) hl).trans h2⟩
theorem BR.store {w : World} {nb g b o m : Nat} {i : I6} {x : Value} {s : List Bool} (h : BR w nb g b o m i x s) (vs : List Value) (hv : vs.length = 8) (h1 : nb ≠ g) (h2 : b ≠ g) : BR (w.setCells g (m * 8) vs) nb g b o m i x s :=
  ⟨(World.cell?_setCells_out g vs _ w ⟨nb, 2, none⟩ (fun hb _ => absurd hb h1)).trans h.c, h.a.cells _ _ _ h2, World.rangeAt_setCells_apart h.r _ _ _ (.inr (.inr (by rw [hv]; omega))), World.there_setCells h.t _ _ _⟩
theorem hi58 (s : List Bool) (h : s.length = 8) : (Try.prog.info? 58).map (·.size) = some (bs s).length := by rw [bs_len, h]; kernel_rfl
theorem ba_bs (s : List Bool) : ba s = (bs s).toArray := rfl
end Go.Proofs.Ytjmmaaphadeokaa
