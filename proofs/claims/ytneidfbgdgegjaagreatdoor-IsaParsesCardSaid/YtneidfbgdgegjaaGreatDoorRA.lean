/- The reader: its block, its fields not read yet; require, next. -/
import Derived.Test.YtneidfbgdgegjaaGreatDoorDA
namespace Go.Proofs.YtneidfbgdgegjaaGreatDoor
open Go.RowKit
set_option linter.unusedVariables false
set_option linter.unusedSimpArgs false
/-- what stays: all blocks but those of F -/
structure St (F : Nat → Prop) (w w' : World) : Prop where
  os : w'.os = w.os
  tape : w'.tape = w.tape
  output : w'.output = w.output
  size : w.heap.size ≤ w'.heap.size
  block : ∀ k, k < w.heap.size → ¬ F k → w'.heap[k]? = w.heap[k]?
theorem St.refl (F : Nat → Prop) (w : World) : St F w w := ⟨rfl, rfl, rfl, Nat.le_refl _, fun _ _ _ => rfl⟩
theorem St.trans {F : Nat → Prop} {a b c : World} (h : St F a b) (k : St F b c) : St F a c :=
  ⟨k.os.trans h.os, k.tape.trans h.tape, k.output.trans h.output, Nat.le_trans h.size k.size, fun i hi hn => (k.block i (Nat.lt_of_lt_of_le hi h.size) hn).trans (h.block i hi hn)⟩
theorem St.bk {F : Nat → Prop} {a b : World} (h : BK a b) : St F a b := ⟨h.bl.os, h.bl.tape, h.bl.output, h.bl.size, fun k hk _ => bk_block h hk⟩
theorem St.mono {F G : Nat → Prop} {a b : World} (h : St F a b) (hs : ∀ k, F k → G k) : St G a b := ⟨h.os, h.tape, h.output, h.size, fun k hk hn => h.block k hk (fun hf => hn (hs k hf))⟩
/-- below a world that lies before F all is as it was -/
theorem bk_st {F : Nat → Prop} {w0 a b : World} (h : BK w0 a) (s : St F a b) (hF : ∀ k, F k → w0.heap.size ≤ k) : BK w0 b :=
  ⟨s.os.trans h.bl.os, s.tape.trans h.bl.tape, s.output.trans h.bl.output, Nat.le_trans h.bl.size s.size, fun k hk => (s.block k (Nat.lt_of_lt_of_le hk h.bl.size) (fun hf => by have := hF k hf; omega)).trans (h.bl.block k hk)⟩
def isB (r : Nat) : Nat → Prop := fun k => k = r
theorem st_set (w : World) (r j : Nat) (v : Value) : St (isB r) w (w.setCell ⟨r, j, none⟩ v) :=
  ⟨rfl, rfl, rfl, by simp [World.setCell], fun k hk hn => heap_setCell_other w ⟨r, j, none⟩ k v (fun e => hn e)⟩
/-- strings behind a slice -/
structure RT (w : World) (p : Option Addr) (c : Nat) (ts : List ByteArray) : Prop where
  le : ts.length ≤ c
  tag : ∀ b o, p = some ⟨b, o, none⟩ → ∃ cs, w.heap[b]? = some (.cells cs 9 (0, 0))
  get : ∀ k (h : k < ts.length), ∃ b o, p = some ⟨b, o, none⟩ ∧ w.cell? ⟨b, o + k, none⟩ = some (.string ts[k])
/-- blocks of strings stand -/
theorem RT.st {F : Nat → Prop} {w w' : World} {p : Option Addr} {c : Nat} {ts : List ByteArray} (h : RT w p c ts) (s : St F w w') (hF : ∀ k cs, w.heap[k]? = some (.cells cs 9 (0, 0)) → ¬ F k) : RT w' p c ts := by
  have e : ∀ b o, p = some ⟨b, o, none⟩ → w'.heap[b]? = w.heap[b]? := fun b o hp => by
    obtain ⟨cs, hc⟩ := h.tag b o hp
    exact s.block b (Array.getElem?_eq_some_iff.1 hc).1 (hF b cs hc)
  refine ⟨h.le, fun b o hp => ?_, fun k hk => ?_⟩
  · obtain ⟨cs, hc⟩ := h.tag b o hp
    exact ⟨cs, (e b o hp).trans hc⟩
  · obtain ⟨b, o, h1, h2⟩ := h.get k hk
    exact ⟨b, o, h1, by rw [cell_at (e b o h1)]; exact h2⟩
/-- the reader at r -/
structure RD (w : World) (r : Nat) (ts : List ByteArray) (bad : Bool) (p : Option Addr) (c : Nat) : Prop where
  blk : w.heap[r]? = some (.cells #[.slice p ts.length c, .bool bad] 105 (0, 0))
  row : RT w p c ts
/-- the same, wherever the fields lie -/
def RS (w : World) (r : Nat) (ts : List ByteArray) (bad : Bool) : Prop := ∃ p c, c ≤ 1000001 ∧ RD w r ts bad p c
theorem isB_tag {w : World} {r : Nat} {cs : Array Value} {T : TypeId} (h : w.heap[r]? = some (.cells cs T (0, 0))) (hT : T ≠ 9) : ∀ k cs, w.heap[k]? = some (.cells cs 9 (0, 0)) → ¬ isB r k := by
  intro k cs' hk e
  have e : k = r := e
  subst e
  rw [h] at hk
  simp only [Option.some.injEq, Obj.cells.injEq] at hk
  exact hT hk.2.1
theorem RD.away {w : World} {r : Nat} {ts : List ByteArray} {bad : Bool} {p : Option Addr} {c : Nat} (h : RD w r ts bad p c) : ∀ k cs, w.heap[k]? = some (.cells cs 9 (0, 0)) → ¬ isB r k := isB_tag h.blk (by decide)
/-- whatever turns other blocks leaves the reader -/
theorem RS.st {F : Nat → Prop} {w w' : World} {r : Nat} {ts : List ByteArray} {bad : Bool} (h : RS w r ts bad) (s : St F w w') (hr : ¬ F r) (hF : ∀ k cs, w.heap[k]? = some (.cells cs 9 (0, 0)) → ¬ F k) : RS w' r ts bad := by
  obtain ⟨p, c, hc, h⟩ := h
  exact ⟨p, c, hc, (s.block r (Array.getElem?_eq_some_iff.1 h.blk).1 hr).trans h.blk, h.row.st s hF⟩
theorem RS.keep {w w' : World} {r : Nat} {ts : List ByteArray} {bad : Bool} (h : RS w r ts bad) (hb : BK w w') : RS w' r ts bad := h.st (F := fun _ => False) (St.bk hb) (fun h => h) (fun _ _ _ h => h)
theorem RD.bad {w : World} {r : Nat} {ts : List ByteArray} {bad : Bool} {p : Option Addr} {c : Nat} (h : RD w r ts bad p c) (x : Bool) : RD (w.setCell ⟨r, 1, none⟩ (.bool x)) r ts x p c :=
  ⟨by rw [heap_setCell_same w r 1 _ 105 _ h.blk]; rfl, h.row.st (st_set w r 1 _) h.away⟩
theorem RD.next {w : World} {r : Nat} {t : ByteArray} {ts : List ByteArray} {bad : Bool} {p : Option Addr} {c : Nat} (h : RD w r (t :: ts) bad p c) (p' : Option Addr) (hp : ts ≠ [] → ∀ b o, p = some ⟨b, o, none⟩ → p' = some ⟨b, o + 1, none⟩) (hq : ∀ b o, p' = some ⟨b, o, none⟩ → ∃ o', p = some ⟨b, o', none⟩) : RD (w.setCell ⟨r, 0, none⟩ (.slice p' ts.length (c - 1))) r ts bad p' (c - 1) := by
  have hT := h.row.st (st_set w r 0 (.slice p' ts.length (c - 1))) h.away
  refine ⟨by rw [heap_setCell_same w r 0 _ 105 _ h.blk]; rfl, by have := h.row.le; simp at this; omega, fun b o e => ?_, fun k hk => ?_⟩
  · obtain ⟨o', e'⟩ := hq b o e
    exact hT.tag b o' e'
  · obtain ⟨b, o, h1, h2⟩ := hT.get (k + 1) (by simpa using hk)
    refine ⟨b, o + 1, hp (by intro e; subst e; simp at hk) b o h1, ?_⟩
    rw [show o + 1 + k = o + (k + 1) by omega]
    simpa using h2
set_option maxHeartbeats 1000000 in
theorem require78 (w : World) (r : Nat) (ts : List ByteArray) (bad : Bool) (h : RS w r ts bad) (x : Bool) :
    Calls Tryz.prog 78 #[.pointer (some ⟨r, 0, none⟩), .bool x] w fun e w' => e = .returned (.tuple #[]) ∧ RS w' r ts (bad || !x) ∧ St (isB r) w w' := by
  obtain ⟨p, c, hc, h⟩ := h
  have H := Lib.hid h
  have c1 := cell_of_row w r 1 _ 105 (0, 0) h.blk
  have f1 := frozen_of_row w r 1 _ 105 h.blk
  clear h
  cases bad <;> cases x
  all_goals
    go_enter Tryz.func78, Tryz.ntmps78
    go_wp2_with fail
    go_end0
    exact ⟨rfl, ⟨p, c, hc, H.out.bad _⟩, st_set _ _ _ _⟩
/-- what the next field is -/
def hdB (ts : List ByteArray) : ByteArray := ts.headD ⟨#[]⟩
set_option maxHeartbeats 1000000 in
theorem next96 (w : World) (r : Nat) (ts : List ByteArray) (bad : Bool) (h : RS w r ts bad) :
    Calls Tryz.prog 96 #[.pointer (some ⟨r, 0, none⟩)] w fun e w' => e = .returned (.string (hdB ts)) ∧ RS w' r ts.tail bad ∧ St (isB r) w w' := by
  obtain ⟨p, c, hc, h⟩ := h
  have H := Lib.hid h
  have c0 := cell_of_row w r 0 _ 105 (0, 0) h.blk
  have f0 := frozen_of_row w r 0 _ 105 h.blk
  cases ts with
  | nil =>
    clear h
    go_enter Tryz.func96, Tryz.ntmps96
    go_wp2_with fail
    go_ret
    exact ⟨rfl, ⟨p, c, hc, H.out⟩, St.refl _ _⟩
  | cons t ts =>
    obtain ⟨b, o, rfl, hx⟩ := h.row.get 0 (by simp)
    have hle := h.row.le
    simp only [List.length_cons] at hle
    have hx : w.cell? ⟨b, o, none⟩ = some (.string t) := hx
    have hn : ((ts.length + 1 : Nat) : Int) ≠ 0 := by omega
    obtain ⟨p', hp'⟩ : ∃ p', p' = (if c = 1 then some (⟨b, o, none⟩ : Addr) else some ⟨b, o + 1, none⟩) := ⟨_, rfl⟩
    have hsl : ∀ W, (Instr.slice 57 (.slice (some ⟨b, o, none⟩) (ts.length + 1) c) (some (.int .i64 1)) none none).run Tryz.prog W = .ok (.slice p' ts.length (c - 1)) W := by
      intro W
      rw [run_slice_l W 57 (some ⟨b, o, none⟩) (ts.length + 1) c (by simp [Program.elem, Tryz.underlying57]) .i64 1 (by omega) (by omega)]
      simp only [Program.elem, Tryz.underlying57]
      rw [hp']
      by_cases h1 : c = 1
      · simp [sliced, h1, Addr.add, go_sem, Tryz.sizeOf9]
      · simp [sliced, h1, Addr.add, go_sem, Tryz.sizeOf9]
    have hsa : ∀ W, (Instr.sliceAt 57 (.slice (some ⟨b, o, none⟩) (ts.length + 1) c) (some (.int .i64 1)) none none).run Tryz.prog W = .ok (.slice p' ts.length (c - 1)) W := fun W => by
      rw [run_sliceAt_slice W 57 _ _ _ _ (by simp [Program.elem, Tryz.underlying57])]
      exact hsl W
    have N := Lib.hid (H.out.next p' (by
      intro hne b' o' e
      cases e
      rw [hp', if_neg]
      intro h1
      have := List.length_pos_iff.2 hne
      omega) (fun b' o' e => by
      rw [hp'] at e
      split at e <;> (cases e; exact ⟨o, rfl⟩)))
    have HP := Lib.hid hp'
    clear h hp'
    go_enter Tryz.func96, Tryz.ntmps96
    go_wp2_with fail
    go_ret
    exact ⟨rfl, ⟨p', c - 1, by omega, N.out⟩, st_set _ _ _ _⟩
end Go.Proofs.YtneidfbgdgegjaaGreatDoor
