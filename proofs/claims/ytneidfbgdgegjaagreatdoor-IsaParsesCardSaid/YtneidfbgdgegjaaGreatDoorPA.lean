/- Instructions, checks and live registers, without memory. -/
namespace Go.Proofs.YtneidfbgdgegjaaGreatDoor
set_option linter.unusedVariables false
set_option linter.unusedSimpArgs false
/-- an instruction -/
structure I6 where
  op : Int
  dst : Int
  a : Int
  b : Int
  c : Int
  imm : Int
def srcs (op : Int) : Int := if op < 0 ∨ 19 < op then -1 else if op ≤ 1 then 0 else if op ≤ 4 then 1 else if op = 19 then 3 else 2
def usesL (i : I6) : List Int := [i.a, i.b, i.c].take (srcs i.op).toNat
def opB (op : Int) : Bool := decide (0 ≤ op ∧ op ≤ 19)
def dfB (op : Int) : Bool := decide (1 ≤ op ∧ op ≤ 19)
def defB (i : I6) (r : Int) : Bool := dfB i.op && decide (i.dst = r)
def inB (regs r : Int) : Bool := decide (0 ≤ r ∧ r < regs)
def hasB (l : List Int) (x : Int) : Bool := l.any (fun y => decide (y = x))
/-- an unused field is not zero -/
def junkB (i : I6) : Bool :=
  (decide (i.op = 0) && decide (i.dst ≠ 0)) || (decide (i.op ≠ 1) && decide (i.imm ≠ 0)) || (decide (srcs i.op < 1) && decide (i.a ≠ 0)) || (decide (srcs i.op < 2) && decide (i.b ≠ 0)) || (decide (srcs i.op < 3) && decide (i.c ≠ 0))
def regB (regs : Int) (i : I6) : Bool := (dfB i.op && !inB regs i.dst) || (usesL i).any (fun r => !inB regs r)
def insE (m regs : Int) (i : I6) : Int :=
  if opB i.op = false then 4 else if regB regs i = true then 18 else if i.op = 1 ∧ m < i.imm then 2 else if junkB i = true then 19 else 0
def firstE (m regs : Int) : List I6 → Int
  | [] => 0
  | i :: t => if insE m regs i = 0 then firstE m regs t else insE m regs i
def dupB : List Int → Bool
  | [] => false
  | x :: t => hasB t x || dupB t
def outE (regs : Int) (out : List Int) : Int := if out.any (fun r => !inB regs r) = true then 18 else if dupB out = true then 9 else 0
def maskI (w : Int) : Int := 2 ^ w.toNat - 1
def chkE (w regs : Int) (ins : List I6) (out : List Int) : Int :=
  if w < 1 ∨ 64 < w then 3 else if regs < 1 ∨ 8 < regs then 18 else if 256 < ins.length then 7 else
  if firstE (maskI w) regs ins = 0 then outE regs out else firstE (maskI w) regs ins
/-- the value of r before these instructions may still be used -/
def usedB : List I6 → List Int → Int → Bool
  | [], out, r => hasB out r
  | i :: t, out, r => hasB (usesL i) r || (!defB i r && usedB t out r)
def deadB (i : I6) (t : List I6) (out : List Int) : Bool := !dfB i.op || !usedB t out i.dst
def removeL (out : List Int) : List I6 → List I6
  | [] => []
  | i :: t => if deadB i (removeL out t) out = true then removeL out t else i :: removeL out t
/-- the registers below n that are live before these instructions -/
def liveL (n : Nat) (t : List I6) (out : List Int) : List Int := ((List.range n).filter (fun r : Nat => usedB t out r)).map (fun r : Nat => (r : Int))
def anyDefB (l : List I6) (r : Int) : Bool := l.any (fun i => defB i r)
def winOut (n : Nat) (w t : List I6) (out : List Int) : List Int := ((List.range n).filter (fun r : Nat => usedB t out r && anyDefB w r)).map (fun r : Nat => (r : Int))
/-! valid programs -/
theorem hasB_mem {l : List Int} {x : Int} : hasB l x = true ↔ x ∈ l := by
  unfold hasB; rw [List.any_eq_true]
  constructor
  · rintro ⟨y, hy, h⟩; have := of_decide_eq_true h; subst this; exact hy
  · intro h; exact ⟨x, h, by simp⟩
theorem firstE_zero {m regs : Int} : ∀ {l : List I6}, firstE m regs l = 0 ↔ ∀ i ∈ l, insE m regs i = 0
  | [] => by simp [firstE]
  | i :: t => by
    unfold firstE
    by_cases h : insE m regs i = 0
    · rw [if_pos h, firstE_zero]; simp [h]
    · rw [if_neg h]; simp [h]
theorem insE_regB {m regs : Int} {i : I6} (h : insE m regs i = 0) : regB regs i = false := by
  unfold insE at h
  split at h
  · omega
  · split at h
    · omega
    · rename_i h2; simpa using h2
theorem insE_opB {m regs : Int} {i : I6} (h : insE m regs i = 0) : opB i.op = true := by
  unfold insE at h
  split at h
  · omega
  · rename_i h2; simpa using h2
theorem uses_in {regs : Int} {i : I6} (h : regB regs i = false) {r : Int} (hr : r ∈ usesL i) : 0 ≤ r ∧ r < regs := by
  unfold regB at h
  rw [Bool.or_eq_false_iff] at h
  have h2 := List.any_eq_false.1 h.2 r hr
  simpa [inB] using h2
theorem dst_in {regs : Int} {i : I6} (h : regB regs i = false) (hd : dfB i.op = true) : 0 ≤ i.dst ∧ i.dst < regs := by
  unfold regB at h
  rw [Bool.or_eq_false_iff, hd] at h
  simpa [inB] using h.1
/-- what a valid program has -/
structure Vd (w regs : Int) (ins : List I6) (out : List Int) : Prop where
  w1 : 1 ≤ w
  w2 : w ≤ 64
  r1 : 1 ≤ regs
  r2 : regs ≤ 8
  len : ins.length ≤ 256
  fe : ∀ i ∈ ins, insE (maskI w) regs i = 0
  oin : ∀ r ∈ out, 0 ≤ r ∧ r < regs
  nd : dupB out = false
theorem chk_zero {w regs : Int} {ins : List I6} {out : List Int} : chkE w regs ins out = 0 ↔ Vd w regs ins out := by
  unfold chkE
  constructor
  · intro h
    split at h
    · omega
    · split at h
      · omega
      · split at h
        · omega
        · split at h
          · rename_i h1 h2 h3 h4
            unfold outE at h
            split at h
            · omega
            · split at h
              · omega
              · rename_i h5 h6
                exact ⟨by omega, by omega, by omega, by omega, by omega, firstE_zero.1 h4, fun r hr => by
                  have h5 : (out.any fun r => !inB regs r) = false := by simpa using h5
                  have := List.any_eq_false.1 h5 r hr; simpa [inB] using this, by simpa using h6⟩
          · rename_i h4; exact absurd h h4
  · rintro ⟨w1, w2, r1, r2, hl, hi, ho, hn⟩
    rw [if_neg (by omega), if_neg (by omega), if_neg (by omega), if_pos (firstE_zero.2 hi)]
    unfold outE
    rw [if_neg, if_neg (by simp [hn])]
    simp only [List.any_eq_true, not_exists, not_and]
    intro r hr
    simpa [inB] using ho r hr
theorem Vd.sub {w regs : Int} {ins ins' : List I6} {out : List Int} (h : Vd w regs ins out) (hl : ins'.length ≤ ins.length) (hs : ∀ i ∈ ins', i ∈ ins) : Vd w regs ins' out :=
  ⟨h.w1, h.w2, h.r1, h.r2, by have := h.len; omega, fun i hi => h.fe i (hs i hi), h.oin, h.nd⟩
theorem used_in {w regs : Int} {ins : List I6} {out : List Int} (h : Vd w regs ins out) : ∀ {r : Int}, usedB ins out r = true → 0 ≤ r ∧ r < regs := by
  have hins := h.fe
  have hout := h.oin
  clear h
  induction ins with
  | nil => intro r hr; exact hout r (hasB_mem.1 hr)
  | cons i t ih =>
    intro r hr
    unfold usedB at hr
    rw [Bool.or_eq_true] at hr
    rcases hr with hr | hr
    · exact uses_in (insE_regB (hins i (by simp))) (hasB_mem.1 hr)
    · rw [Bool.and_eq_true] at hr
      exact ih (fun j hj => hins j (List.mem_cons_of_mem _ hj)) hr.2
theorem live_regs {w regs : Int} {t : List I6} {out : List Int} (h : Vd w regs t out) : liveL 8 t out = liveL regs.toNat t out := by
  have h1 := h.r1
  have h2 := h.r2
  unfold liveL
  congr 1
  have e : (8 : Nat) = regs.toNat + (8 - regs.toNat) := by omega
  rw [e, List.range_add, List.filter_append]
  have hz : ((List.range (8 - regs.toNat)).map (fun x => regs.toNat + x)).filter (fun r : Nat => usedB t out r) = [] := by
    rw [List.filter_eq_nil_iff]
    intro r hr hu
    rw [List.mem_map] at hr
    obtain ⟨k, _, rfl⟩ := hr
    have := used_in h hu
    omega
  rw [hz, List.append_nil]
theorem removeL_len (out : List Int) : ∀ l : List I6, (removeL out l).length ≤ l.length
  | [] => by simp [removeL]
  | i :: t => by
    have := removeL_len out t
    unfold removeL
    split
    · simp; omega
    · simp; omega
theorem removeL_mem (out : List Int) : ∀ (l : List I6) (j : I6), j ∈ removeL out l → j ∈ l
  | [], j, h => by simp [removeL] at h
  | i :: t, j, h => by
    unfold removeL at h
    split at h
    · exact List.mem_cons_of_mem _ (removeL_mem out t j h)
    · rcases List.mem_cons.1 h with rfl | h
      · simp
      · exact List.mem_cons_of_mem _ (removeL_mem out t j h)
theorem Vd.removed {w regs : Int} {ins : List I6} {out : List Int} (h : Vd w regs ins out) : Vd w regs (removeL out ins) out :=
  h.sub (removeL_len out ins) (removeL_mem out ins)
/-- of what stays, nothing is dead -/
theorem removeL_alive (out : List Int) : ∀ (l : List I6) (k : Nat) (h : k < (removeL out l).length), deadB ((removeL out l)[k]) ((removeL out l).drop (k + 1)) out = false
  | [], k, h => by simp [removeL] at h
  | i :: t, k, h => by
    by_cases hd : deadB i (removeL out t) out = true
    · have e : removeL out (i :: t) = removeL out t := by rw [removeL, if_pos hd]
      simp only [e] at h ⊢
      exact removeL_alive out t k h
    · have e : removeL out (i :: t) = i :: removeL out t := by rw [removeL, if_neg hd]
      simp only [e] at h ⊢
      cases k with
      | zero => simpa using hd
      | succ k => simpa using removeL_alive out t k (by simpa using h)
end Go.Proofs.YtneidfbgdgegjaaGreatDoor
