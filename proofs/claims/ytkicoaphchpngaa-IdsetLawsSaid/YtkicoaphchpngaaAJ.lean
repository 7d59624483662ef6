/- every: its closure, and what stands between two rounds of merge. -/
import Derived.Test.YtkicoaphchpngaaAI
import Derived.OneCell
namespace Go.Proofs.Ytkicoaphchpngaa
open Go.RowKit Go.Lib Go.Sort
set_option linter.unusedVariables false
set_option linter.unusedSimpArgs false
theorem holds_50 (a b : Bool) (w : World) : Calls Try.prog 50 #[.bool a, .bool b] w fun e w' => e = .returned (.bool b) ∧ w = w' := by
  go_enter Try.func50, Try.ntmps50
  go_wp2_with fail
  go_ret
  exact ⟨rfl, rfl⟩
theorem holds_51 (a b : Bool) (w : World) : Calls Try.prog 51 #[.bool a, .bool b] w fun e w' => e = .returned (.bool (a && b)) ∧ w = w' := by
  go_enter Try.func51, Try.ntmps51
  cases a <;> cases b <;> (go_wp2_with fail; go_ret; exact ⟨rfl, rfl⟩)
structure EH (w : World) (B pc kb : Nat) (kv : Value) : Prop where
  blk : w.heap[pc]? = some (.cells #[.bool true] 4 (0, 0))
  keep : w.heap[kb]? = some (.cells #[kv] 47 (0, 0))
  pcB : pc < B
  kbB : kb < B
  size : B ≤ w.heap.size
def EV (w : World) (B pc kb : Nat) (kv : Value) (r : Bool) (w' : World) : Prop :=
  w'.heap[pc]? = some (.cells #[.bool r] 4 (0, 0)) ∧ w'.heap[kb]? = some (.cells #[kv] 47 (0, 0)) ∧ FrC B pc w w'
theorem ev_of {w : World} {B pc kb : Nat} {kv : Value} {r : Bool} (h : EH w B pc kb kv) : EV w B pc kb kv r (w.setCell ⟨pc, 0, none⟩ (.bool r)) := by
  have hne : kb ≠ pc := by intro e; have := h.keep; rw [e, h.blk] at this; simp at this
  have e3 : ∀ k, k ≠ pc → (w.setCell ⟨pc, 0, none⟩ (.bool r)).heap[k]? = w.heap[k]? := fun k hk => heap_setCell_other w ⟨pc, 0, none⟩ k _ hk
  exact ⟨one_setCell h.blk, (e3 kb hne).trans h.keep, ⟨rfl, rfl, rfl, by simp, fun k h1 h2 => e3 k h2⟩⟩
set_option maxHeartbeats 1000000 in
theorem evisit_50 (B pc kb : Nat) (x : Int) (a b : Bool) (w : World) (h : EH w B pc kb (.func (.func 50) #[] #[])) :
    Calls Try.prog 64 #[.int .i64 x, .bool a, .bool b, .pointer (some ⟨kb, 0, none⟩), .pointer (some ⟨pc, 0, none⟩)] w fun e w' => e = .returned (.bool b) ∧ EV w B pc kb (.func (.func 50) #[] #[]) b w' := by
  have c1 := cell_of_one h.blk
  have c2 := cell_of_one h.keep
  have f1 := free_of_one h.blk
  have hk := Lib.hid (holds_50 a b w)
  have hv := Lib.hid (ev_of (r := b) h)
  clear h
  generalize b = r at hk hv ⊢
  go_enter Try.func64, Try.ntmps64
  go_wp2_with (go_at_call 50; refine hk.out.mono ?_; rintro e w' ⟨rfl, rfl⟩)
  go_ret
  exact ⟨rfl, hv.out⟩
set_option maxHeartbeats 1000000 in
theorem evisit_51 (B pc kb : Nat) (x : Int) (a b : Bool) (w : World) (h : EH w B pc kb (.func (.func 51) #[] #[])) :
    Calls Try.prog 64 #[.int .i64 x, .bool a, .bool b, .pointer (some ⟨kb, 0, none⟩), .pointer (some ⟨pc, 0, none⟩)] w fun e w' => e = .returned (.bool (a && b)) ∧ EV w B pc kb (.func (.func 51) #[] #[]) (a && b) w' := by
  have c1 := cell_of_one h.blk
  have c2 := cell_of_one h.keep
  have f1 := free_of_one h.blk
  have hk := Lib.hid (holds_51 a b w)
  have hv := Lib.hid (ev_of (r := (a && b)) h)
  clear h
  generalize (a && b) = r at hk hv ⊢
  go_enter Try.func64, Try.ntmps64
  go_wp2_with (go_at_call 51; refine hk.out.mono ?_; rintro e w' ⟨rfl, rfl⟩)
  go_ret
  exact ⟨rfl, hv.out⟩
theorem rdB_of4 {w : World} {pc : Nat} {v : Value} {r : Bool} {zs : List Int} (h : Rd w v zs) (hb : w.heap[pc]? = some (.cells #[.bool r] 4 (0, 0))) : RdB w w.heap.size pc v zs := by
  rcases h with h | ⟨b, off, cap, h1, h2, h3, h4, h5⟩
  · exact .inl h
  · refine .inr ⟨b, off, cap, h1, h2, h3, h4, fun e => ?_, h5⟩
    subst e
    have := h5 0 h2
    simp only [World.cell?, hb] at this
    by_cases ho : off = 0
    · subst ho; simp at this
    · simp [ho] at this
theorem eh_drawn {w w' : World} {B pc kb : Nat} {kv : Value} (h : EH w B pc kb kv) (hd : Drawn w w') : EH w' B pc kb kv := by
  obtain ⟨q, rfl⟩ := hd; exact ⟨h.blk, h.keep, h.pcB, h.kbB, h.size⟩
structure EMg (w wr : World) (B pc kb : Nat) (kv : Value) (kp : Bool → Bool → Bool) (ls : List Int) (va vb : Value) (ps qs : List Int) : Prop where
  a : RdB wr B pc va ps
  b : RdB wr B pc vb qs
  eh : EH wr B pc kb kv
  sum : chL kp ps qs = ls
  len : ps.length + qs.length ≤ 2000
  fr : FrC B pc w wr
def emB (ls : List Int) : Bool := decide (ls = [])
def EPost (w : World) (pc : Nat) (ls : List Int) (e : Ending) (w' : World) : Prop := e = .returned (.tuple #[]) ∧ w'.heap[pc]? = some (.cells #[.bool (emB ls)] 4 (0, 0)) ∧ FrC w.heap.size pc w w'
theorem EMg.step {w wr w' w1 : World} {B pc kb : Nat} {kv va vb va' vb' : Value} {kp : Bool → Bool → Bool} {ls ps qs ps' qs' : List Int} {x : Int} (h : EMg w wr B pc kb kv kp ls va vb ps qs) (hd : Drawn wr w1) (hp : EV w1 B pc kb kv true w')
    (ha : RdB wr B pc va' ps') (hb : RdB wr B pc vb' qs') (hs : chL kp ps qs = one false x ++ chL kp ps' qs') (hl : ps'.length + qs'.length < ps.length + qs.length) : EMg w w' B pc kb kv kp ls va' vb' ps' qs' := by
  obtain ⟨h1, h2, h3⟩ := hp
  have hf := (frc_drawn (FrC.refl B pc wr) hd).trans h3
  exact ⟨ha.kept hf, hb.kept hf, ⟨h1, h2, h.eh.pcB, h.eh.kbB, Nat.le_trans h.eh.size hf.size⟩, by rw [← h.sum, hs]; simp [one], by have := h.len; omega, h.fr.trans hf⟩
theorem EMg.stop {w wr w' w1 : World} {B pc kb : Nat} {kv va vb : Value} {kp : Bool → Bool → Bool} {ls ps qs r : List Int} {x : Int} (h : EMg w wr B pc kb kv kp ls va vb ps qs) (hd : Drawn wr w1) (hp : EV w1 B pc kb kv false w')
    (hs : chL kp ps qs = one true x ++ r) : w'.heap[pc]? = some (.cells #[.bool (emB ls)] 4 (0, 0)) ∧ FrC B pc w w' := by
  obtain ⟨h1, h2, h3⟩ := hp
  have hf := (frc_drawn (FrC.refl B pc wr) hd).trans h3
  have : emB ls = false := by rw [← h.sum, hs]; simp [emB, one]
  rw [this]
  exact ⟨h1, h.fr.trans hf⟩
end Go.Proofs.Ytkicoaphchpngaa
