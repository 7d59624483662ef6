/- What merge and choose make. -/
import Derived.Test.YtjmmaaphadeokaaYQ
namespace Go.Proofs.Ytjmmaaphadeokaa.Ids
open Go.RowKit Go.Lib Go.Sort
set_option linter.unusedVariables false
set_option linter.unusedSimpArgs false
set_option linter.unnecessarySimpa false
set_option maxRecDepth 100000
def lenV : Value → Nat
  | .slice _ n _ => n
  | _ => 0
def RdB (w : World) (B pc : Nat) (v : Value) (zs : List Int) : Prop :=
  (∃ a cap, v = .slice a 0 cap ∧ zs = []) ∨ ∃ b off cap, v = .slice (some ⟨b, off, none⟩) zs.length cap ∧ 0 < zs.length ∧ zs.length ≤ cap ∧ b < B ∧ b ≠ pc ∧ ∀ k, k < zs.length → w.cell? ⟨b, off + k, none⟩ = some (.int .i64 (zs.getD k 0))
theorem rdB_of {w : World} {pc : Nat} {v u : Value} {zs : List Int} (h : Rd w v zs) (hb : w.heap[pc]? = some (.cells #[u] 23 (0, 0))) (hu : ∀ z, u ≠ .int .i64 z) : RdB w w.heap.size pc v zs := by
  rcases h with h | ⟨b, off, cap, h1, h2, h3, h4, h5⟩
  · exact .inl h
  · refine .inr ⟨b, off, cap, h1, h2, h3, h4, fun e => ?_, h5⟩
    subst e
    have := h5 0 h2
    simp only [World.cell?, hb] at this
    by_cases ho : off = 0
    · subst ho; simp at this; exact hu _ this
    · simp [ho] at this
theorem RdB.kept {w w' : World} {B pc : Nat} {v : Value} {zs : List Int} (h : RdB w B pc v zs) (hf : FrC B pc w w') : RdB w' B pc v zs := by
  rcases h with h | ⟨b, off, cap, h1, h2, h3, h4, h4', h5⟩
  · exact .inl h
  · refine .inr ⟨b, off, cap, h1, h2, h3, h4, h4', fun k hk => ?_⟩
    rw [← h5 k hk]; unfold World.cell?; rw [hf.block b h4 h4']
theorem RdB.lenV {w : World} {B pc : Nat} {v : Value} {zs : List Int} (h : RdB w B pc v zs) : lenV v = zs.length := by
  rcases h with ⟨a, cap, rfl, rfl⟩ | ⟨b, off, cap, rfl, _⟩ <;> rfl
theorem RdB.nil {w : World} {B pc : Nat} {v : Value} (h : RdB w B pc v []) : ∃ a cap, v = .slice a 0 cap := by
  rcases h with ⟨a, cap, h, _⟩ | ⟨b, off, cap, _, h, _⟩
  · exact ⟨a, cap, h⟩
  · simp at h
theorem RdB.cons {w : World} {B pc : Nat} {v : Value} {z : Int} {zs : List Int} (h : RdB w B pc v (z :: zs)) : ∃ b off cap, v = .slice (some ⟨b, off, none⟩) (zs.length + 1) cap ∧ zs.length + 1 ≤ cap ∧ w.cell? ⟨b, off, none⟩ = some (.int .i64 z) ∧ (cap ≠ 1 → RdB w B pc (.slice (some ⟨b, off + 1, none⟩) zs.length (cap - 1)) zs) := by
  rcases h with ⟨a, cap, _, h⟩ | ⟨b, off, cap, h1, h2, h3, h4, h4', h5⟩
  · cases h
  · refine ⟨b, off, cap, h1, (by simp at h3; omega), (by have := h5 0 h2; simpa using this), fun hc => ?_⟩
    by_cases h0 : zs = []
    · subst h0; exact .inl ⟨_, _, rfl, rfl⟩
    · refine .inr ⟨b, off + 1, cap - 1, rfl, List.length_pos_iff.2 h0, by simp at h3; omega, h4, h4', fun k hk => ?_⟩
      have := h5 (k + 1) (by simpa using hk)
      rw [show off + 1 + k = off + (k + 1) by omega, this]; simp
def one (c : Bool) (x : Int) : List Int := if c = true then [x] else []
theorem one_app (c : Bool) (x : Int) (out r : List Int) : (if c = true then out ++ [x] else out) ++ r = out ++ (one c x ++ r) := by cases c <;> simp [one]
theorem one_len (c : Bool) (x : Int) (out : List Int) : (if c = true then out ++ [x] else out).length ≤ out.length + 1 := by cases c <;> simp
def chL (kp : Bool → Bool → Bool) : List Int → List Int → List Int
  | [], [] => []
  | x :: ps, [] => one (kp true false) x ++ chL kp ps []
  | [], y :: bs => one (kp false true) y ++ chL kp [] bs
  | x :: ps, y :: bs => if x < y then one (kp true false) x ++ chL kp ps (y :: bs) else if y < x then one (kp false true) y ++ chL kp (x :: ps) bs else one (kp true true) x ++ chL kp ps bs
termination_by ps bs => ps.length + bs.length
theorem one_mem (c : Bool) (x y : Int) : y ∈ one c x ↔ c = true ∧ y = x := by cases c <;> simp [one]
theorem ss_cons {x : Int} {l : List Int} (h : SS (x :: l)) : SS l ∧ ∀ y ∈ l, x < y := ⟨(List.pairwise_cons.1 h).2, (List.pairwise_cons.1 h).1⟩
theorem chL_mem (kp : Bool → Bool → Bool) (h0 : kp false false = false) (ps bs : List Int) (ha : SS ps) (hb : SS bs) (z : Int) : z ∈ chL kp ps bs ↔ kp (decide (z ∈ ps)) (decide (z ∈ bs)) = true := by
  fun_induction chL kp ps bs with
  | case1 => simp [h0]
  | case2 x ps ih =>
    have h1 := ss_cons ha
    rw [List.mem_append, one_mem, ih h1.1 hb]
    by_cases e : z = x
    · subst e
      have : ¬ z ∈ ps := fun h => by have := h1.2 z h; omega
      simp [this, h0]
    · simp [e]
  | case3 y bs ih =>
    have h1 := ss_cons hb
    rw [List.mem_append, one_mem, ih ha h1.1]
    by_cases e : z = y
    · subst e
      have : ¬ z ∈ bs := fun h => by have := h1.2 z h; omega
      simp [this, h0]
    · simp [e]
  | case4 x ps y bs hlt ih =>
    have h1 := ss_cons ha
    have h2 := ss_cons hb
    rw [List.mem_append, one_mem, ih h1.1 hb]
    by_cases e : z = x
    · subst e
      have n1 : ¬ z ∈ ps := fun h => by have := h1.2 z h; omega
      have n2 : ¬ z ∈ bs := fun h => by have := h2.2 z h; omega
      have n3 : ¬ z = y := by omega
      simp [n1, n2, n3, h0]
    · simp [e]
  | case5 x ps y bs h hlt ih =>
    have h1 := ss_cons ha
    have h2 := ss_cons hb
    rw [List.mem_append, one_mem, ih ha h2.1]
    by_cases e : z = y
    · subst e
      have n1 : ¬ z ∈ ps := fun h => by have := h1.2 z h; omega
      have n2 : ¬ z ∈ bs := fun h => by have := h2.2 z h; omega
      have n3 : ¬ z = x := by omega
      simp [n1, n2, n3, h0]
    · simp [e]
  | case6 x ps y bs h h' ih =>
    have h1 := ss_cons ha
    have h2 := ss_cons hb
    obtain rfl : x = y := by omega
    rw [List.mem_append, one_mem, ih h1.1 h2.1]
    by_cases e : z = x
    · subst e
      have n1 : ¬ z ∈ ps := fun h => by have := h1.2 z h; omega
      have n2 : ¬ z ∈ bs := fun h => by have := h2.2 z h; omega
      simp [n1, n2, h0]
    · simp [e]
theorem chL_low (kp : Bool → Bool → Bool) (m : Int) (ps bs : List Int) (ha : ∀ y ∈ ps, m < y) (hb : ∀ y ∈ bs, m < y) : ∀ y ∈ chL kp ps bs, m < y := by
  fun_induction chL kp ps bs with
  | case1 => simp
  | case2 x ps ih => intro y hy; exact (List.mem_append.1 hy).elim (fun h => ha y (by simp [((one_mem _ _ _).1 h).2])) (fun h => ih (fun y h => ha y (by simp [h])) hb y h)
  | case3 x bs ih => intro y hy; exact (List.mem_append.1 hy).elim (fun h => hb y (by simp [((one_mem _ _ _).1 h).2])) (fun h => ih ha (fun y h => hb y (by simp [h])) y h)
  | case4 x ps y bs hlt ih => intro z hy; exact (List.mem_append.1 hy).elim (fun h => ha z (by simp [((one_mem _ _ _).1 h).2])) (fun h => ih (fun y h => ha y (by simp [h])) hb z h)
  | case5 x ps y bs h hlt ih => intro z hy; exact (List.mem_append.1 hy).elim (fun h => hb z (by simp [((one_mem _ _ _).1 h).2])) (fun h => ih ha (fun y h => hb y (by simp [h])) z h)
  | case6 x ps y bs h h' ih => intro z hy; exact (List.mem_append.1 hy).elim (fun h => ha z (by simp [((one_mem _ _ _).1 h).2])) (fun h => ih (fun y h => ha y (by simp [h])) (fun y h => hb y (by simp [h])) z h)
theorem one_ss {c : Bool} {x : Int} {l : List Int} (h : SS l) (hl : ∀ y ∈ l, x < y) : SS (one c x ++ l) := by
  cases c
  · simpa [one] using h
  · exact List.pairwise_cons.2 ⟨hl, h⟩
theorem chL_ss (kp : Bool → Bool → Bool) (ps bs : List Int) (ha : SS ps) (hb : SS bs) : SS (chL kp ps bs) := by
  fun_induction chL kp ps bs with
  | case1 => exact List.Pairwise.nil
  | case2 x ps ih => have h1 := ss_cons ha; exact one_ss (ih h1.1 hb) (chL_low kp x _ _ h1.2 (by simp))
  | case3 x bs ih => have h1 := ss_cons hb; exact one_ss (ih ha h1.1) (chL_low kp x _ _ (by simp) h1.2)
  | case4 x ps y bs hlt ih => have h1 := ss_cons ha; have h2 := ss_cons hb; exact one_ss (ih h1.1 hb) (chL_low kp x _ _ h1.2 (fun z hz => (List.mem_cons.1 hz).elim (fun e => by omega) (fun e => by have := h2.2 z e; omega)))
  | case5 x ps y bs h hlt ih => have h1 := ss_cons ha; have h2 := ss_cons hb; exact one_ss (ih ha h2.1) (chL_low kp y _ _ (fun z hz => (List.mem_cons.1 hz).elim (fun e => by omega) (fun e => by have := h1.2 z e; omega)) h2.2)
  | case6 x ps y bs h h' ih => have h1 := ss_cons ha; have h2 := ss_cons hb; exact one_ss (ih h1.1 h2.1) (chL_low kp x _ _ h1.2 (fun z hz => by have := h2.2 z hz; omega))
def MPost (w : World) (pc : Nat) (ls : List Int) (e : Ending) (w' : World) : Prop := e = .returned (.tuple #[]) ∧ ∃ v, w'.heap[pc]? = some (.cells #[v] 23 (0, 0)) ∧ w'.ownsRow w.heap.size 3 1 v ls.length (nums ls) ∧ FrC w.heap.size pc w w'
theorem chL_nn (kp : Bool → Bool → Bool) : chL kp [] [] = [] := by unfold chL; rfl
theorem chL_cn (kp : Bool → Bool → Bool) (x : Int) (ps : List Int) : chL kp (x :: ps) [] = one (kp true false) x ++ chL kp ps [] := by rw [chL]
theorem chL_nc (kp : Bool → Bool → Bool) (y : Int) (bs : List Int) : chL kp [] (y :: bs) = one (kp false true) y ++ chL kp [] bs := by rw [chL]
theorem chL_lt (kp : Bool → Bool → Bool) {x y : Int} (ps bs : List Int) (h : x < y) : chL kp (x :: ps) (y :: bs) = one (kp true false) x ++ chL kp ps (y :: bs) := by rw [chL, if_pos h]
theorem chL_gt (kp : Bool → Bool → Bool) {x y : Int} (ps bs : List Int) (h : y < x) : chL kp (x :: ps) (y :: bs) = one (kp false true) y ++ chL kp (x :: ps) bs := by rw [chL, if_neg (by omega), if_pos h]
theorem chL_eq (kp : Bool → Bool → Bool) (x : Int) (ps bs : List Int) : chL kp (x :: ps) (x :: bs) = one (kp true true) x ++ chL kp ps bs := by rw [chL, if_neg (by omega), if_neg (by omega)]
theorem below_frc {w w' : World} {pc : Nat} (h : Below w.heap.size w w') : FrC w.heap.size pc w w' := ⟨h.os, h.tape, h.output, h.size, fun k hk _ => h.block k hk⟩
theorem frc_drawn {B pc : Nat} {w w' w2 : World} (h : FrC B pc w w') (hd : Drawn w' w2) : FrC B pc w w2 := by
  obtain ⟨q, rfl⟩ := hd; exact ⟨h.os, h.tape, h.output, h.size, h.block⟩
theorem ch_drawn {w w' : World} {B pc kb : Nat} {kv v : Value} {out : List Int} (h : CH w B pc kb kv v out) (hd : Drawn w w') : CH w' B pc kb kv v out := by
  obtain ⟨q, rfl⟩ := hd; exact ⟨h.blk, h.keep, h.row, h.pcB, h.kbB, h.size⟩
/-- what stands between two rounds -/
structure Mg (w wr : World) (B pc kb : Nat) (kv : Value) (kp : Bool → Bool → Bool) (ls : List Int) (va vb v : Value) (ps qs out : List Int) : Prop where
  a : RdB wr B pc va ps
  b : RdB wr B pc vb qs
  ch : CH wr B pc kb kv v out
  sum : out ++ chL kp ps qs = ls
  len : out.length + ps.length + qs.length ≤ 2000
  fr : FrC B pc w wr
theorem Mg.step {w wr w' w1 : World} {B pc kb : Nat} {kv va vb va' vb' v : Value} {kp : Bool → Bool → Bool} {ls ps qs ps' qs' out : List Int} {c : Bool} {x : Int} (h : Mg w wr B pc kb kv kp ls va vb v ps qs out) (hd : Drawn wr w1) (hp : VPost w1 B pc kb kv (if c = true then out ++ [x] else out) w')
    (ha : RdB wr B pc va' ps') (hb : RdB wr B pc vb' qs') (hs : chL kp ps qs = one c x ++ chL kp ps' qs') (hl : ps'.length + qs'.length < ps.length + qs.length) : ∃ v' out', Mg w w' B pc kb kv kp ls va' vb' v' ps' qs' out' := by
  obtain ⟨v', h1, h2⟩ := hp
  have hf := (frc_drawn (FrC.refl B pc wr) hd).trans h2
  exact ⟨v', _, ha.kept hf, hb.kept hf, h1, by rw [one_app, ← hs]; exact h.sum, by have := one_len c x out; have := h.len; omega, h.fr.trans hf⟩
theorem FrC.mono {B B' pc : Nat} {w w' : World} (h : FrC B pc w w') (hb : B' ≤ B) : FrC B' pc w w' := ⟨h.os, h.tape, h.output, h.size, fun k hk hn => h.block k (Nat.lt_of_lt_of_le hk hb) hn⟩
end Go.Proofs.Ytjmmaaphadeokaa.Ids
