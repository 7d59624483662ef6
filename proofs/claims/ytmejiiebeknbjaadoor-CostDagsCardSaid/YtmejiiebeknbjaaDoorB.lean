/- Terms in memory. -/
import Derived.Test.YtmejiiebeknbjaaDoorA
import Derived.Test.YtmejiiebeknbjaaDoorP
namespace Go.Proofs.YtmejiiebeknbjaaDoor
open Go.RowKit
set_option linter.unusedVariables false
set_option linter.unusedSimpArgs false
/-- what a node's own fields keep to -/
structure Wf (op wd : Int) (vl : Nat) (nm : ByteArray) : Prop where
  o : In64 op
  d : In64 wd
  v : vl < 18446744073709551616
  s : nm.size ≤ maxLen
/-- five cells from a place on -/
def C5 (w : World) (b o : Nat) (x0 x1 x2 x3 x4 : Value) : Prop := w.cell? ⟨b, o, none⟩ = some x0 ∧ w.cell? ⟨b, o + 1, none⟩ = some x1 ∧ w.cell? ⟨b, o + 2, none⟩ = some x2 ∧ w.cell? ⟨b, o + 3, none⟩ = some x3 ∧ w.cell? ⟨b, o + 4, none⟩ = some x4
theorem C5.keep {w w' : World} {b o : Nat} {x0 x1 x2 x3 x4 : Value} (h : C5 w b o x0 x1 x2 x3 x4) (hb : BK w w') : C5 w' b o x0 x1 x2 x3 x4 := by
  have hl : b < w.heap.size := World.block_lt_of_cell? w _ h.1
  have hb : Below w.heap.size w w' := hb
  obtain ⟨a0, a1, a2, a3, a4⟩ := h
  exact ⟨(hb.cell (p := ⟨b, o, none⟩) hl).trans a0, (hb.cell (p := ⟨b, o + 1, none⟩) hl).trans a1, (hb.cell (p := ⟨b, o + 2, none⟩) hl).trans a2, (hb.cell (p := ⟨b, o + 3, none⟩) hl).trans a3, (hb.cell (p := ⟨b, o + 4, none⟩) hl).trans a4⟩
mutual
/-- a tree lies at a place -/
def At : T → World → Nat → Nat → Prop
  | .mk op wd vl nm ts, w, b, o => ∃ p c, C5 w b o (.int .i64 op) (.int .i64 wd) (.int .u64 vl) (.string nm) (.slice p ts.length c) ∧ Wf op wd vl nm ∧ ((ts.length = 0 ∧ (p = none → c = 0)) ∨ ∃ b' o', p = some ⟨b', o', none⟩ ∧ AtL ts w b' o' ∧ ts.length ≤ maxLen)
/-- trees lie from a place on -/
def AtL : List T → World → Nat → Nat → Prop
  | [], _, _, _ => True
  | t :: ts, w, b, o => At t w b o ∧ AtL ts w b (o + 5)
end
/-- the trees behind a slice -/
def Row (w : World) (p : Option Addr) (c : Nat) (ts : List T) : Prop := (ts.length = 0 ∧ (p = none → c = 0)) ∨ ∃ b o, p = some ⟨b, o, none⟩ ∧ AtL ts w b o ∧ ts.length ≤ maxLen
theorem at_mk {w : World} {b o : Nat} {op wd : Int} {vl : Nat} {nm : ByteArray} {ts : List T} : At (.mk op wd vl nm ts) w b o ↔ ∃ p c, C5 w b o (.int .i64 op) (.int .i64 wd) (.int .u64 vl) (.string nm) (.slice p ts.length c) ∧ Wf op wd vl nm ∧ Row w p c ts := by
  rw [At]; rfl
theorem atL_get : ∀ {ts : List T} {w : World} {b o : Nat}, AtL ts w b o → ∀ k (h : k < ts.length), At ts[k] w b (o + k * 5)
  | t :: ts, w, b, o, h, 0, _ => by rw [AtL] at h; simpa using h.1
  | t :: ts, w, b, o, h, k + 1, hk => by
    rw [AtL] at h
    have := atL_get h.2 k (by simpa using hk)
    rw [show o + (k + 1) * 5 = o + 5 + k * 5 by omega]
    simpa using this
theorem atL_keep {w w' : World} (hb : BK w w') : ∀ (ts : List T), (∀ t ∈ ts, ∀ b o, At t w b o → At t w' b o) → ∀ b o, AtL ts w b o → AtL ts w' b o
  | [], _, _, _, _ => by rw [AtL]; trivial
  | t :: ts, h, b, o, ha => by
    rw [AtL] at ha ⊢
    exact ⟨h t (by simp) b o ha.1, atL_keep hb ts (fun t ht => h t (by simp [ht])) b (o + 5) ha.2⟩
theorem at_keep {w w' : World} (hb : BK w w') (t : T) : ∀ b o, At t w b o → At t w' b o := by
  induction t using T.ind with
  | h op wd vl nm ts ih =>
    intro b o h
    rw [at_mk] at h ⊢
    obtain ⟨p, c, h1, h2, h3⟩ := h
    refine ⟨p, c, h1.keep hb, h2, ?_⟩
    rcases h3 with h3 | ⟨b', o', h3, h4⟩
    · exact .inl h3
    · exact .inr ⟨b', o', h3, atL_keep hb ts ih b' o' h4.1, h4.2⟩
theorem Row.keep {w w' : World} {p : Option Addr} {c : Nat} {ts : List T} (h : Row w p c ts) (hb : BK w w') : Row w' p c ts := by
  rcases h with h | ⟨b, o, h1, h2⟩
  · exact .inl h
  · exact .inr ⟨b, o, h1, atL_keep hb ts (fun t _ => at_keep hb t) b o h2.1, h2.2⟩
theorem Row.len {w : World} {p : Option Addr} {c : Nat} {ts : List T} (h : Row w p c ts) : ts.length ≤ maxLen := by
  rcases h with h | ⟨b, o, h1, h2, h3⟩
  · rw [h.1]; exact Nat.zero_le _
  · exact h3
/-- a term, by value -/
def tv (op wd : Int) (vl : Nat) (nm : ByteArray) (p : Option Addr) (n c : Nat) : Value := .agg #[.int .i64 op, .int .i64 wd, .int .u64 vl, .string nm, .slice p n c]
/-- the k-th operand -/
theorem Row.get {w : World} {p : Option Addr} {c : Nat} {ts : List T} (h : Row w p c ts) {k : Nat} (hk : k < ts.length) : ∃ b o op wd vl nm us q d, p = some ⟨b, o, none⟩ ∧ ts[k] = .mk op wd vl nm us ∧ C5 w b (o + k * 5) (.int .i64 op) (.int .i64 wd) (.int .u64 vl) (.string nm) (.slice q us.length d) ∧ Wf op wd vl nm ∧ Row w q d us := by
  rcases h with h | ⟨b, o, h1, h2⟩
  · omega
  · have h3 := atL_get h2.1 k hk
    generalize ht : ts[k] = t at h3
    cases t with
    | mk op wd vl nm us =>
      rw [at_mk] at h3
      obtain ⟨q, d, h4, h5, h6⟩ := h3
      exact ⟨b, o, op, wd, vl, nm, us, q, d, h1, rfl, h4, h5, h6⟩
end Go.Proofs.YtmejiiebeknbjaaDoor
