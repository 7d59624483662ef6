/- The machine, without memory: runs, live registers, what may be removed. -/
import Derived.Test.YtjmmaaphadeokaaP
namespace Go.Proofs.Ytjmmaaphadeokaa
set_option linter.unusedVariables false
set_option linter.unusedSimpArgs false
def gR (s : List Int) (r : Int) : Int := s.getD r.toNat 0
def sR (s : List Int) (r v : Int) : List Int := s.set r.toNat v
/-- one instruction; none: a trap. f: what the operations with values compute -/
def stepM (f : Int → Int → Int → Int) (i : I6) (s : List Int) : Option (List Int) :=
  if i.op = 0 then some s else if i.op = 1 then some (sR s i.dst i.imm) else
  if (i.op = 11 ∨ i.op = 12) ∧ gR s i.b = 0 then none else
  if i.op = 19 then (if gR s i.a = 0 then some (sR s i.dst (gR s i.c)) else some (sR s i.dst (gR s i.b))) else some (sR s i.dst (f i.op (gR s i.a) (gR s i.b)))
def runM (f : Int → Int → Int → Int) : List I6 → List Int → Option (List Int)
  | [], s => some s
  | i :: t, s => (stepM f i s).bind (runM f t)
/-- operations with one source do not look at a second -/
def OneSrc (f : Int → Int → Int → Int) : Prop := ∀ op a b b', 2 ≤ op → op ≤ 4 → f op a b = f op a b'
theorem runM_cons (f : Int → Int → Int → Int) (i : I6) (t : List I6) (s : List Int) : runM f (i :: t) s = (stepM f i s).bind (runM f t) := rfl
theorem runM_app (f : Int → Int → Int → Int) : ∀ (l t : List I6) (s : List Int), runM f (l ++ t) s = (runM f l s).bind (runM f t)
  | [], t, s => by simp [runM]
  | i :: l, t, s => by
    rw [List.cons_append, runM_cons, runM_cons]
    cases stepM f i s with
    | none => rfl
    | some s' => exact runM_app f l t s'
theorem sR_len (s : List Int) (r v : Int) : (sR s r v).length = s.length := by simp [sR]
theorem gR_sR {s : List Int} {r r' v : Int} (h0 : 0 ≤ r) (h1 : r < 8) (hs : s.length = 8) (h0' : 0 ≤ r') (h1' : r' < 8) : gR (sR s r v) r' = if r' = r then v else gR s r' := by
  unfold gR sR
  simp only [List.getD_eq_getElem?_getD, List.getElem?_set]
  by_cases e : r' = r
  · subst e
    rw [if_pos rfl, if_pos rfl, if_pos (by omega)]; rfl
  · rw [if_neg e, if_neg (by omega)]
theorem stepM_len {f : Int → Int → Int → Int} {i : I6} {s s' : List Int} (h : stepM f i s = some s') : s'.length = s.length := by
  unfold stepM at h
  repeat' split at h
  all_goals first | (cases h; done) | (simp only [Option.some.injEq] at h; rw [← h]; exact sR_len _ _ _) | (simp only [Option.some.injEq] at h; rw [← h])
theorem runM_len {f : Int → Int → Int → Int} : ∀ {l : List I6} {s s' : List Int}, runM f l s = some s' → s'.length = s.length
  | [], s, s', h => by simp [runM] at h; rw [h]
  | i :: t, s, s', h => by
    rw [runM_cons] at h
    cases hs : stepM f i s with
    | none => rw [hs] at h; cases h
    | some s1 => rw [hs] at h; rw [runM_len h, stepM_len hs]
/-- two states that agree on some registers -/
def Agr (L : Int → Bool) (s t : List Int) : Prop := ∀ r, 0 ≤ r → r < 8 → L r = true → gR s r = gR t r
/-- an instruction of a valid program, for eight registers -/
structure Iv (i : I6) : Prop where
  op0 : 0 ≤ i.op
  op1 : i.op ≤ 19
  dst : dfB i.op = true → 0 ≤ i.dst ∧ i.dst < 8
  src : ∀ r ∈ usesL i, 0 ≤ r ∧ r < 8
theorem Vd.iv {w regs : Int} {ins : List I6} {out : List Int} (h : Vd w regs ins out) : ∀ i ∈ ins, Iv i := fun i hi => by
  have h1 := insE_opB (h.fe i hi)
  have h2 := insE_regB (h.fe i hi)
  have hr := h.r2
  unfold opB at h1
  have h3 := of_decide_eq_true h1
  exact ⟨h3.1, h3.2, fun hd => by have := dst_in h2 hd; omega, fun r hr' => by have := uses_in h2 hr'; omega⟩
/-- what an instruction reads, by its operation -/
theorem src1 {i : I6} (h2 : 2 ≤ i.op) (h4 : i.op ≤ 4) : i.a ∈ usesL i := by
  have e : srcs i.op = 1 := by
    unfold srcs
    repeat' split
    all_goals omega
  unfold usesL; rw [e]; simp
theorem src2 {i : I6} (h2 : 5 ≤ i.op) (h4 : i.op ≤ 18) : i.a ∈ usesL i ∧ i.b ∈ usesL i := by
  have e : srcs i.op = 2 := by
    unfold srcs
    repeat' split
    all_goals omega
  unfold usesL; rw [e]; simp
theorem src3 {i : I6} (h : i.op = 19) : i.a ∈ usesL i ∧ i.b ∈ usesL i ∧ i.c ∈ usesL i := by
  have e : srcs i.op = 3 := by rw [h]; rfl
  unfold usesL; rw [e]; simp
/-- an instruction writes its destination alone, by what it reads alone -/
theorem stepM_agr {f : Int → Int → Int → Int} (hf : OneSrc f) {i : I6} (hi : Iv i) {s t s' : List Int} (hs : s.length = 8) (ht : t.length = 8) (hu : Agr (fun r => hasB (usesL i) r) s t) (h : stepM f i s = some s') :
    ∃ t', stepM f i t = some t' ∧ ∀ r, 0 ≤ r → r < 8 → (defB i r = true → gR s' r = gR t' r) ∧ (defB i r = false → gR s' r = gR s r ∧ gR t' r = gR t r) := by
  have eq : ∀ r, r ∈ usesL i → gR s r = gR t r := fun r hr => hu r (hi.src r hr).1 (hi.src r hr).2 (hasB_mem.2 hr)
  have put : ∀ v, dfB i.op = true → ∀ r, 0 ≤ r → r < 8 → (defB i r = true → gR (sR s i.dst v) r = gR (sR t i.dst v) r) ∧ (defB i r = false → gR (sR s i.dst v) r = gR s r ∧ gR (sR t i.dst v) r = gR t r) := by
    intro v hd r h0 h1
    obtain ⟨d0, d1⟩ := hi.dst hd
    rw [gR_sR d0 d1 hs h0 h1, gR_sR d0 d1 ht h0 h1]
    unfold defB
    rw [hd, Bool.true_and]
    by_cases e : i.dst = r
    · rw [if_pos e.symm, if_pos e.symm]; simp [e]
    · rw [if_neg (fun h => e h.symm), if_neg (fun h => e h.symm)]; simp [e]
  have hop0 := hi.op0
  have hop1 := hi.op1
  unfold stepM at h ⊢
  by_cases e0 : i.op = 0
  · rw [if_pos e0] at h ⊢
    obtain rfl : s = s' := Option.some.inj h
    have hdf : dfB i.op = false := by rw [e0]; rfl
    exact ⟨t, rfl, fun r _ _ => ⟨(fun hd => by unfold defB at hd; rw [hdf] at hd; cases hd), (fun _ => ⟨rfl, rfl⟩)⟩⟩
  · have hdf : dfB i.op = true := by unfold dfB; exact decide_eq_true ⟨by omega, by omega⟩
    rw [if_neg e0] at h ⊢
    by_cases e1 : i.op = 1
    · rw [if_pos e1] at h ⊢
      obtain rfl := Option.some.inj h
      exact ⟨_, rfl, put _ hdf⟩
    · rw [if_neg e1] at h ⊢
      by_cases e2 : i.op = 11 ∨ i.op = 12
      · have u := src2 (i := i) (by omega) (by omega)
        rw [eq i.b u.2, eq i.a u.1] at h
        by_cases ez : gR t i.b = 0
        · rw [if_pos ⟨e2, ez⟩] at h; cases h
        · rw [if_neg (fun h => ez h.2), if_neg (by omega)] at h
          rw [if_neg (fun h => ez h.2), if_neg (by omega)]
          obtain rfl := Option.some.inj h
          exact ⟨_, rfl, put _ hdf⟩
      · rw [if_neg (fun h => e2 h.1)] at h ⊢
        by_cases e3 : i.op = 19
        · have u := src3 e3
          rw [if_pos e3, eq i.a u.1, eq i.b u.2.1, eq i.c u.2.2] at h
          rw [if_pos e3]
          by_cases ez : gR t i.a = 0
          · rw [if_pos ez] at h ⊢
            obtain rfl := Option.some.inj h
            exact ⟨_, rfl, put _ hdf⟩
          · rw [if_neg ez] at h ⊢
            obtain rfl := Option.some.inj h
            exact ⟨_, rfl, put _ hdf⟩
        · rw [if_neg e3] at h ⊢
          have ev : f i.op (gR s i.a) (gR s i.b) = f i.op (gR t i.a) (gR t i.b) := by
            by_cases e4 : i.op ≤ 4
            · rw [eq i.a (src1 (by omega) e4)]
              exact hf _ _ _ _ (by omega) e4
            · have u := src2 (i := i) (by omega) (by omega)
              rw [eq i.a u.1, eq i.b u.2]
          rw [ev] at h
          obtain rfl := Option.some.inj h
          exact ⟨_, rfl, put _ hdf⟩
/-- the final values of out hang on the live registers alone -/
theorem runM_agr {f : Int → Int → Int → Int} (hf : OneSrc f) (out : List Int) : ∀ {l : List I6}, (∀ i ∈ l, Iv i) → ∀ {s t s' : List Int}, s.length = 8 → t.length = 8 → Agr (usedB l out) s t → runM f l s = some s' → ∃ t', runM f l t = some t' ∧ Agr (fun r => hasB out r) s' t'
  | [], _, s, t, s', hs, ht, ha, h => by
    obtain rfl : s = s' := by simpa [runM] using h
    exact ⟨t, rfl, ha⟩
  | i :: l, hv, s, t, s', hs, ht, ha, h => by
    rw [runM_cons] at h
    cases h1 : stepM f i s with
    | none => rw [h1] at h; cases h
    | some s1 =>
      rw [h1] at h
      obtain ⟨t1, h2, h3⟩ := stepM_agr hf (hv i (by simp)) hs ht (fun r r0 r1 hr => ha r r0 r1 (by unfold usedB; rw [show hasB (usesL i) r = true from hr]; rfl)) h1
      obtain ⟨t', h4, h5⟩ := runM_agr hf out (fun j hj => hv j (List.mem_cons_of_mem _ hj)) (s := s1) (t := t1) (s' := s') (by rw [stepM_len h1, hs]) (by rw [stepM_len h2, ht]) (fun r r0 r1 hr => by
        cases hd : defB i r with
        | true => exact (h3 r r0 r1).1 hd
        | false =>
          obtain ⟨a1, a2⟩ := (h3 r r0 r1).2 hd
          rw [a1, a2]
          exact ha r r0 r1 (by unfold usedB; rw [hd, hr]; simp)) h
      exact ⟨t', by rw [runM_cons, h2]; exact h4, h5⟩
/-- what is removed changes no register that is live at the end, and adds no trap -/
theorem removeM {f : Int → Int → Int → Int} (hf : OneSrc f) (out : List Int) : ∀ {l : List I6}, (∀ i ∈ l, Iv i) → ∀ {s t s' : List Int}, s.length = 8 → t.length = 8 → Agr (usedB (removeL out l) out) s t → runM f l s = some s' → ∃ t', runM f (removeL out l) t = some t' ∧ Agr (fun r => hasB out r) s' t'
  | [], _, s, t, s', hs, ht, ha, h => by
    obtain rfl : s = s' := by simpa [runM] using h
    exact ⟨t, rfl, ha⟩
  | i :: l, hv, s, t, s', hs, ht, ha, h => by
    rw [runM_cons] at h
    cases h1 : stepM f i s with
    | none => rw [h1] at h; cases h
    | some s1 =>
      rw [h1] at h
      by_cases hd : deadB i (removeL out l) out = true
      · have e : removeL out (i :: l) = removeL out l := by rw [removeL, if_pos hd]
        rw [e] at ha ⊢
        -- s1 against t: the destination is not used
        refine removeM hf out (fun j hj => hv j (List.mem_cons_of_mem _ hj)) (by rw [stepM_len h1, hs]) ht (fun r r0 r1 hr => ?_) h
        obtain ⟨t1, h2, h3⟩ := stepM_agr hf (hv i (by simp)) hs hs (fun r _ _ _ => rfl) h1
        have hnd : defB i r = false := by
          cases hx : defB i r with
          | false => rfl
          | true =>
            exfalso
            unfold deadB at hd
            unfold defB at hx
            rw [Bool.and_eq_true] at hx
            have hdr : i.dst = r := of_decide_eq_true hx.2
            rw [hx.1, hdr, hr] at hd
            cases hd
        rw [((h3 r r0 r1).2 hnd).1]
        exact ha r r0 r1 hr
      · have e : removeL out (i :: l) = i :: removeL out l := by rw [removeL, if_neg hd]
        rw [e] at ha ⊢
        obtain ⟨t1, h2, h3⟩ := stepM_agr hf (hv i (by simp)) hs ht (fun r r0 r1 hr => ha r r0 r1 (by unfold usedB; rw [show hasB (usesL i) r = true from hr]; rfl)) h1
        obtain ⟨t', h4, h5⟩ := removeM hf out (fun j hj => hv j (List.mem_cons_of_mem _ hj)) (s := s1) (t := t1) (s' := s') (by rw [stepM_len h1, hs]) (by rw [stepM_len h2, ht]) (fun r r0 r1 hr => by
          cases hdf : defB i r with
          | true => exact (h3 r r0 r1).1 hdf
          | false =>
            obtain ⟨a1, a2⟩ := (h3 r r0 r1).2 hdf
            rw [a1, a2]
            exact ha r r0 r1 (by unfold usedB; rw [hdf, hr]; simp)) h
        exact ⟨t', by rw [runM_cons, h2]; exact h4, h5⟩
/-- what no instruction defines stays -/
theorem runM_stays {f : Int → Int → Int → Int} (hf : OneSrc f) {r : Int} (r0 : 0 ≤ r) (r1 : r < 8) : ∀ {l : List I6}, (∀ i ∈ l, Iv i) → anyDefB l r = false → ∀ {s s' : List Int}, s.length = 8 → runM f l s = some s' → gR s' r = gR s r
  | [], _, _, s, s', hs, h => by
    obtain rfl : s = s' := by simpa [runM] using h
    rfl
  | i :: l, hv, hn, s, s', hs, h => by
    unfold anyDefB at hn
    rw [List.any_cons, Bool.or_eq_false_iff] at hn
    rw [runM_cons] at h
    cases h1 : stepM f i s with
    | none => rw [h1] at h; cases h
    | some s1 =>
      rw [h1] at h
      obtain ⟨t1, h2, h3⟩ := stepM_agr hf (hv i (by simp)) hs hs (fun r _ _ _ => rfl) h1
      rw [runM_stays hf r0 r1 (fun j hj => hv j (List.mem_cons_of_mem _ hj)) hn.2 (by rw [stepM_len h1, hs]) h]
      exact ((h3 r r0 r1).2 hn.1).1
theorem anyDef_remove (out : List Int) {r : Int} : ∀ {l : List I6}, anyDefB l r = false → anyDefB (removeL out l) r = false := fun {l} h => by
  unfold anyDefB at *
  rw [List.any_eq_false] at *
  exact fun i hi => h i (removeL_mem out l i hi)
/-- a window without its dead instructions -/
theorem putsM {f : Int → Int → Int → Int} (hf : OneSrc f) (out : List Int) {A W B : List I6} (hA : ∀ i ∈ A, Iv i) (hW : ∀ i ∈ W, Iv i) (hB : ∀ i ∈ B, Iv i) {s s' : List Int} (hs : s.length = 8) (h : runM f (A ++ (W ++ B)) s = some s') : ∃ t', runM f (A ++ (removeL (winOut 8 W B out) W ++ B)) s = some t' ∧ Agr (fun r => hasB out r) s' t' := by
  rw [runM_app] at h ⊢
  cases h1 : runM f A s with
  | none => rw [h1] at h; cases h
  | some s1 =>
    rw [h1] at h
    have l1 : s1.length = 8 := by rw [runM_len h1, hs]
    simp only [Option.bind_some] at h ⊢
    rw [runM_app] at h ⊢
    cases h2 : runM f W s1 with
    | none => rw [h2] at h; cases h
    | some s2 =>
      rw [h2] at h
      simp only [Option.bind_some] at h
      have l2 : s2.length = 8 := by rw [runM_len h2, l1]
      obtain ⟨t2, h3, h4⟩ := removeM hf (winOut 8 W B out) hW l1 l1 (fun r _ _ _ => rfl) h2
      rw [h3]
      simp only [Option.bind_some]
      refine runM_agr hf out hB l2 (by rw [runM_len h3, l1]) (fun r r0 r1 hr => ?_) h
      cases hd : anyDefB W r with
      | true =>
        refine h4 r r0 r1 (hasB_mem.2 ?_)
        unfold winOut
        refine List.mem_map.2 ⟨r.toNat, List.mem_filter.2 ⟨List.mem_range.2 (by omega), ?_⟩, by omega⟩
        rw [Int.toNat_of_nonneg r0, hr, hd]; rfl
      | false =>
        rw [runM_stays hf r0 r1 hW hd l1 h2, runM_stays hf r0 r1 (fun i hi => hW i (removeL_mem _ W i hi)) (anyDef_remove _ hd) l1 h3]
end Go.Proofs.Ytjmmaaphadeokaa
