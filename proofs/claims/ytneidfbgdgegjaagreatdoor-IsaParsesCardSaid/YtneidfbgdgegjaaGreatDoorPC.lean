/- Programs as text, without memory. -/
import Derived.Test.YtneidfbgdgegjaaGreatDoorPA
import Derived.Test.YtneidfbgdgegjaaGreatDoorPB
namespace Go.Proofs.YtneidfbgdgegjaaGreatDoor
set_option linter.unusedVariables false
set_option linter.unusedSimpArgs false
def nmT : List (List UInt8) := [[110, 111, 112], [109, 111, 118, 105], [109, 111, 118], [110, 111, 116], [110, 101, 103], [97, 110, 100], [111, 114], [120, 111, 114], [97, 100, 100], [115, 117, 98], [109, 117, 108], [100, 105, 118], [114, 101, 109], [115, 104, 108], [115, 104, 114], [115, 97, 114], [101, 113], [117, 108, 116], [115, 108, 116], [115, 101, 108]]
def nameL (op : Int) : List UInt8 := if opB op = true then nmT.getD op.toNat [] else []
/-- the first name from k on -/
def ofK : Nat → Nat → List UInt8 → Option Nat
  | 0, _, _ => none
  | n + 1, k, l => if nmT.getD k [] = l then some k else ofK n (k + 1) l
def ofL (l : List UInt8) : Option Nat := ofK 20 0 l
theorem ofK_step {k : Nat} (h : k < 20) (l : List UInt8) : ofK (20 - k) k l = if nmT.getD k [] = l then some k else ofK (20 - (k + 1)) (k + 1) l := by
  rw [show 20 - k = (20 - (k + 1)) + 1 by omega]; rfl
theorem ofK_lt : ∀ (n k : Nat) (l : List UInt8) (r : Nat), ofK n k l = some r → k ≤ r ∧ r < k + n ∧ nmT.getD r [] = l
  | 0, k, l, r, h => by cases h
  | n + 1, k, l, r, h => by
    unfold ofK at h
    split at h
    · cases h; exact ⟨Nat.le_refl _, by omega, by assumption⟩
    · obtain ⟨h1, h2, h3⟩ := ofK_lt n (k + 1) l r h
      exact ⟨by omega, by omega, h3⟩
theorem ofL_lt {l : List UInt8} {r : Nat} (h : ofL l = some r) : r < 20 ∧ nmT.getD r [] = l := by
  obtain ⟨_, h2, h3⟩ := ofK_lt _ _ _ _ h
  exact ⟨by omega, h3⟩
theorem ofL_nm : ∀ r, r < 20 → ofL (nmT.getD r []) = some r := by decide
theorem nm_no : ∀ r, r < 20 → (nmT.getD r []).all (fun c => decide (c ≠ 32 ∧ c ≠ 10)) = true ∧ nmT.getD r [] ≠ [111, 117, 116] ∧ nmT.getD r [] ≠ [] ∧ (nmT.getD r []).length ≤ 4 := by decide
/-! numerals -/
def decO (l : List UInt8) : Option Nat := match numE 10 l with | .ok x => some x | _ => none
def whO (l : List UInt8) : Option Int := match numE 10 l with | .ok x => if x < 9223372036854775808 then some (x : Int) else none | _ => none
theorem num_first {c : UInt8} {r : List UInt8} (h : numB (pb 10) (c :: r) = true) : isDec c = true := by
  have h1 := (Bool.and_eq_true_iff.1 h).1
  simp only [List.all_cons, Bool.and_eq_true] at h1
  have := h1.1
  unfold pb at this
  rwa [if_neg (by omega)] at this
theorem numE_not_dash {l : List UInt8} (h : l.take 1 = [45]) : numE 10 l = .syntax := by
  cases l with
  | nil => cases h
  | cons c r =>
    have hc : c = 45 := by simpa using h
    subst hc
    unfold numE
    rw [if_neg]
    intro hn
    exact absurd (num_first hn) (by decide)
/-- the program's whole numbers -/
theorem wh_parseI (l : List UInt8) : whO l = (match parseI l with | .ok n => if 0 ≤ n then some n else none | _ => none) := by
  unfold parseI whO
  by_cases h : l.take 1 = [45]
  · rw [if_pos h, numE_not_dash h]
    cases hu : numE 10 (l.drop 1) with
    | ok x =>
      unfold neg
      dsimp only
      by_cases h0 : x = 0
      · rw [if_pos h0]
      · rw [if_neg h0]
        by_cases h1 : x ≤ 9223372036854775808
        · rw [if_pos h1]; dsimp only; rw [if_neg (by omega)]
        · rw [if_neg h1]
    | «syntax» => rfl
    | range => rfl
  · rw [if_neg h]
    cases hu : numE 10 l with
    | ok x =>
      unfold pos
      dsimp only
      by_cases h1 : x < 9223372036854775808
      · rw [if_pos h1, if_pos h1]; dsimp only; rw [if_pos (by omega)]
      · rw [if_neg h1, if_neg h1]
    | «syntax» => rfl
    | range => rfl
/-- a numeral that is written as it is read -/
theorem dec_parseS (l : List UInt8) : decO l = (match parseS l with | .ok x => if wrn 10 x = l then some x else none | _ => none) := by
  unfold decO
  cases hu : numE 10 l with
  | ok x =>
    have hw := numE_uniq (.inl rfl) hu
    have h2 : l.take 2 ≠ [48, 120] := by rw [← hw]; exact take2_dec fun c hc => (wr_dec_mem _ c hc).2
    unfold parseS
    rw [if_neg h2, hu]
    dsimp only
    rw [if_pos hw]
  | «syntax» =>
    cases hp : parseS l with
    | ok x =>
      dsimp only
      rw [if_neg]
      intro hw
      have hx : x < 18446744073709551616 := by
        unfold parseS at hp
        split at hp
        · exact (numE_ok hp).2.2
        · exact (numE_ok hp).2.2
      rw [← hw, numE_wr (.inl rfl) hx] at hu
      cases hu
    | «syntax» => rfl
    | range => rfl
  | range =>
    cases hp : parseS l with
    | ok x =>
      dsimp only
      rw [if_neg]
      intro hw
      have hx : x < 18446744073709551616 := by
        unfold parseS at hp
        split at hp
        · exact (numE_ok hp).2.2
        · exact (numE_ok hp).2.2
      rw [← hw, numE_wr (.inl rfl) hx] at hu
      cases hu
    | «syntax» => rfl
    | range => rfl
theorem whO_dec (l : List UInt8) : whO l = (match decO l with | some x => if x < 9223372036854775808 then some (x : Int) else none | none => none) := by
  unfold whO decO
  cases numE 10 l <;> rfl
theorem whO_in {l : List UInt8} {n : Int} (h : whO l = some n) : 0 ≤ n ∧ n < 9223372036854775808 ∧ Lib.itoa n = l := by
  unfold whO at h
  split at h
  · rename_i x hx
    split at h
    · rename_i h1
      cases h
      refine ⟨by omega, by omega, ?_⟩
      rw [itoa_wr, if_neg (by omega), show ((x : Int)).toNat = x by omega, numE_uniq (.inl rfl) hx]
    · cases h
  · cases h
theorem decO_in {l : List UInt8} {n : Nat} (h : decO l = some n) : n < 18446744073709551616 ∧ wrn 10 n = l := by
  unfold decO at h
  split at h
  · rename_i x hx
    cases h
    exact ⟨(numE_ok hx).2.2, numE_uniq (.inl rfl) hx⟩
  · cases h
theorem whO_itoa {n : Int} (h : 0 ≤ n) (h2 : n < 9223372036854775808) : whO (Lib.itoa n) = some n := by
  rw [itoa_wr, if_neg (by omega)]
  unfold whO
  rw [numE_wr (.inl rfl) (by omega)]
  dsimp only
  rw [if_pos (by omega)]
  congr 1; omega
theorem decO_wr {n : Nat} (h : n < 18446744073709551616) : decO (wrn 10 n) = some n := by
  unfold decO; rw [numE_wr (.inl rfl) h]
/-! lines -/
def regO (l : List UInt8) : Option Int := match l with | [] => none | c :: r => if c = 114 then whO r else none
def regsO : List (List UInt8) → Option (List Int)
  | [] => some []
  | x :: r => match regO x with
    | none => none
    | some n => match regsO r with
      | none => none
      | some l => some (n :: l)
def widthL : List UInt8 := [119, 105, 100, 116, 104]
def regsL : List UInt8 := [114, 101, 103, 115]
def outL : List UInt8 := [111, 117, 116]
def headO (t : List (List UInt8)) : Option (Int × Int) := match t with
  | [a, b, c, d] => if a = widthL ∧ c = regsL then (match whO b with | none => none | some x => match whO d with | none => none | some y => some (x, y)) else none
  | _ => none
def need (op : Int) : Int := srcs op + if op = 0 then 0 else 1
def insO (t : List (List UInt8)) : Option I6 := match t with
  | [] => none
  | nm :: rest => match ofL nm with
    | none => none
    | some op => if op = 1 then (match rest with
        | [a, b] => match regO a with
          | none => none
          | some d => match decO b with
            | none => none
            | some x => some ⟨1, d, 0, 0, 0, x⟩
        | _ => none)
      else match regsO rest with
        | none => none
        | some l => if (l.length : Int) = need op then some ⟨op, l.getD 0 0, l.getD 1 0, l.getD 2 0, l.getD 3 0, 0⟩ else none
/-- what a text is read as -/
inductive PR where
  | bad (line : Nat)
  | ok (ins : List I6) (out : List Int)
/-- the lines behind the first, the number of lines read so far, the instructions so far -/
def bodyP : Nat → List I6 → List (List UInt8) → PR
  | ln, acc, [] => .bad (ln + 1)
  | ln, acc, x :: r => if (sp x).headD [] = outL then (match regsO (sp x).tail with
      | none => .bad (ln + 1)
      | some out => match r with
        | [] => .ok acc out
        | _ :: _ => .bad (ln + 2))
    else match insO (sp x) with
      | none => .bad (ln + 1)
      | some i => bodyP (ln + 1) (acc ++ [i]) r
/-- lines without their ends: what stands between line feeds, a last empty piece left out -/
def lns : List UInt8 → List (List UInt8)
  | [] => []
  | c :: r => if c = 10 then [] :: lns r else match lns r with
    | [] => [[c]]
    | x :: xs => (c :: x) :: xs
theorem lns_end : ∀ {l : List UInt8}, l ≠ [] → (∀ c ∈ l, c ≠ 10) → lns l = [l]
  | [], h, _ => absurd rfl h
  | [c], _, h => by unfold lns; rw [if_neg (h c (by simp))]; rfl
  | c :: d :: r, _, h => by
    have ih := lns_end (l := d :: r) (by simp) (fun e he => h e (by simp [he]))
    unfold lns
    rw [if_neg (h c (by simp)), ih]
theorem lns_cut : ∀ {l : List UInt8} (r : List UInt8), (∀ c ∈ l, c ≠ 10) → lns (l ++ 10 :: r) = l :: lns r
  | [], r, _ => by show lns (10 :: r) = [] :: lns r; rw [lns, if_pos rfl]
  | c :: l, r, h => by
    have ih := lns_cut (l := l) r (fun d hd => h d (by simp [hd]))
    show lns (c :: (l ++ 10 :: r)) = _
    rw [lns, if_neg (h c (by simp)), ih]
theorem lns_len : ∀ l : List UInt8, (lns l).length ≤ l.length
  | [] => Nat.le_refl _
  | c :: r => by
    have := lns_len r
    unfold lns
    split
    · simp; omega
    · split
      · simp
      · rename_i h; rw [h] at this; simp at this ⊢; omega
/-- a program, or the line that is bad -/
inductive PC where
  | bad (line : Nat)
  | ok (w regs : Int) (ins : List I6) (out : List Int)
def progP : List (List UInt8) → PC
  | [] => .bad 1
  | x :: r => match headO (sp x) with
    | none => .bad 1
    | some p => match bodyP 1 [] r with
      | .bad n => .bad n
      | .ok ins out => .ok p.1 p.2 ins out
/-! checks, with the place -/
def firstK (m regs : Int) : Nat → List I6 → Nat
  | k, [] => k
  | k, i :: t => if insE m regs i = 0 then firstK m regs (k + 1) t else k
def chkK (w regs : Int) (ins : List I6) (out : List Int) : Int :=
  if w < 1 ∨ 64 < w then -1 else if regs < 1 ∨ 8 < regs then -1 else if 256 < ins.length then -1 else
  if firstE (maskI w) regs ins = 0 then (if outE regs out = 0 then 0 else -1) else firstK (maskI w) regs 0 ins
/-- what comes back: the program, the line, the code -/
structure RC where
  w : Int
  regs : Int
  ins : List I6
  out : List Int
  line : Int
  err : Int
def parseP (s : List UInt8) : RC := match progP (lns s) with
  | .bad n => ⟨0, 0, [], [], n, 6⟩
  | .ok w regs ins out => if chkE w regs ins out = 0 then ⟨w, regs, ins, out, 0, 0⟩ else ⟨0, 0, [], [], chkK w regs ins out + 2, chkE w regs ins out⟩
def parseT (s : List UInt8) : RC := if 65536 < s.length then ⟨0, 0, [], [], 0, 7⟩ else parseP s
/-! what is printed -/
def regT (n : Int) : List UInt8 := 114 :: Lib.itoa n
def insW (i : I6) : List (List UInt8) := nameL i.op :: ((if dfB i.op = true then [regT i.dst] else []) ++ (if i.op = 1 then [wrn 10 i.imm.toNat] else []) ++ (usesL i).map regT)
def lineP (t : List (List UInt8)) : List UInt8 := jn t ++ [10]
def headW (w regs : Int) : List (List UInt8) := [widthL, Lib.itoa w, regsL, Lib.itoa regs]
def outW (out : List Int) : List (List UInt8) := outL :: out.map regT
def printP (w regs : Int) (ins : List I6) (out : List Int) : List UInt8 := lineP (headW w regs) ++ (ins.flatMap fun i => lineP (insW i)) ++ lineP (outW out)
/-! pieces at a byte; lines with their ends -/
def spc (c : UInt8) : List UInt8 → List (List UInt8)
  | [] => [[]]
  | d :: r => if d = c then [] :: spc c r else match spc c r with
    | x :: xs => (d :: x) :: xs
    | [] => [[d]]
theorem spc32 : ∀ l : List UInt8, spc 32 l = sp l
  | [] => rfl
  | d :: r => by
    unfold spc sp
    rw [spc32 r]
    by_cases h : d = 32
    · rw [if_pos h, if_pos h]
    · rw [if_neg h, if_neg h]
      cases sp r <;> rfl
theorem spc_ne (c : UInt8) (l : List UInt8) : spc c l ≠ [] := by
  cases l with
  | nil => simp [spc]
  | cons d r =>
    unfold spc; split
    · simp
    · split <;> simp
theorem spc_plain {c : UInt8} : ∀ {l : List UInt8}, (∀ d ∈ l, d ≠ c) → spc c l = [l]
  | [], _ => rfl
  | d :: r, h => by
    unfold spc
    rw [if_neg (h d (by simp)), spc_plain (fun e he => h e (by simp [he]))]
theorem spc_cut {c : UInt8} : ∀ {l : List UInt8} (r : List UInt8), (∀ d ∈ l, d ≠ c) → spc c (l ++ c :: r) = l :: spc c r
  | [], r, _ => by show spc c (c :: r) = [] :: spc c r; rw [spc, if_pos rfl]
  | d :: l, r, h => by
    have ih := spc_cut (l := l) r (fun e he => h e (by simp [he]))
    show spc c (d :: (l ++ c :: r)) = _
    rw [spc, if_neg (h d (by simp)), ih]
theorem spc_len (c : UInt8) : ∀ l : List UInt8, (spc c l).length ≤ l.length + 1
  | [] => by simp [spc]
  | d :: r => by
    have := spc_len c r
    unfold spc
    split
    · simp; omega
    · split
      · rename_i x xs h; rw [h] at this; simp at this ⊢; omega
      · simp
theorem spc_mem (c : UInt8) : ∀ l : List UInt8, ∀ x ∈ spc c l, x.length ≤ l.length
  | [], x, h => by simp [spc] at h; subst h; simp
  | d :: r, x, h => by
    have ih := spc_mem c r
    unfold spc at h
    split at h
    · rcases List.mem_cons.1 h with rfl | h
      · simp
      · have := ih x h; simp; omega
    · split at h
      · rename_i y ys hy
        rcases List.mem_cons.1 h with rfl | h
        · have := ih y (by rw [hy]; simp); simp; omega
        · have := ih x (by rw [hy]; simp [h]); simp; omega
      · rcases List.mem_cons.1 h with rfl | h
        · simp
        · cases h
theorem lns_spc : ∀ l : List UInt8, lns l = if (spc 10 l).getLast? = some [] then (spc 10 l).dropLast else spc 10 l
  | [] => by simp [lns, spc]
  | c :: r => by
    have ih := lns_spc r
    have hn := spc_ne 10 r
    unfold lns spc
    split
    · rw [ih]
      generalize spc 10 r = S at hn
      cases S with
      | nil => exact absurd rfl hn
      | cons x xs =>
        rw [List.getLast?_cons_cons]
        split <;> rfl
    · rw [ih]
      generalize spc 10 r = S at hn
      cases S with
      | nil => exact absurd rfl hn
      | cons x xs =>
        cases xs with
        | nil =>
          cases x with
          | nil => simp
          | cons y ys => simp
        | cons y ys =>
          dsimp only
          rw [List.getLast?_cons_cons, List.getLast?_cons_cons]
          by_cases h : (y :: ys).getLast? = some []
          · rw [if_pos h, if_pos h]; rfl
          · rw [if_neg h, if_neg h]
def lnT : List UInt8 → List (List UInt8)
  | [] => []
  | c :: r => if c = 10 then [10] :: lnT r else match lnT r with
    | [] => [[c]]
    | x :: xs => (c :: x) :: xs
theorem lnT_end : ∀ {l : List UInt8}, l ≠ [] → (∀ c ∈ l, c ≠ 10) → lnT l = [l]
  | [], h, _ => absurd rfl h
  | [c], _, h => by unfold lnT; rw [if_neg (h c (by simp))]; rfl
  | c :: d :: r, _, h => by
    have ih := lnT_end (l := d :: r) (by simp) (fun e he => h e (by simp [he]))
    unfold lnT
    rw [if_neg (h c (by simp)), ih]
theorem lnT_cut : ∀ {l : List UInt8} (r : List UInt8), (∀ c ∈ l, c ≠ 10) → lnT (l ++ 10 :: r) = (l ++ [10]) :: lnT r
  | [], r, _ => by show lnT (10 :: r) = [10] :: lnT r; rw [lnT, if_pos rfl]
  | c :: l, r, h => by
    have ih := lnT_cut (l := l) r (fun d hd => h d (by simp [hd]))
    show lnT (c :: (l ++ 10 :: r)) = _
    rw [lnT, if_neg (h c (by simp)), ih]
    rfl
theorem lnT_ne : ∀ l : List UInt8, ∀ x ∈ lnT l, x ≠ []
  | [], x, h => by cases h
  | c :: r, x, h => by
    have ih := lnT_ne r
    unfold lnT at h
    split at h
    · rcases List.mem_cons.1 h with rfl | h
      · simp
      · exact ih x h
    · split at h
      · rcases List.mem_cons.1 h with rfl | h
        · simp
        · cases h
      · rename_i y ys hy
        rcases List.mem_cons.1 h with rfl | h
        · simp
        · exact ih x (by rw [hy]; simp [h])
/-- a line without its end -/
def trm (x : List UInt8) : List UInt8 := if x.getLast? = some 10 then x.dropLast else x
theorem trm_cons {c : UInt8} {x : List UInt8} (h : x ≠ []) : trm (c :: x) = c :: trm x := by
  unfold trm
  cases x with
  | nil => exact absurd rfl h
  | cons d r =>
    rw [List.getLast?_cons_cons]
    split <;> rfl
theorem trm_lns : ∀ l : List UInt8, (lnT l).map trm = lns l
  | [] => rfl
  | c :: r => by
    have ih := trm_lns r
    have hne := lnT_ne r
    unfold lnT lns
    rw [← ih]
    split
    · simp [trm]
    · rename_i hc
      generalize lnT r = S at hne
      cases S with
      | nil => simp [trm, hc]
      | cons x xs => simp [trm_cons (hne x (by simp))]
theorem trm_len (x : List UInt8) : (trm x).length ≤ x.length := by
  unfold trm; split <;> simp
end Go.Proofs.YtneidfbgdgegjaaGreatDoor
