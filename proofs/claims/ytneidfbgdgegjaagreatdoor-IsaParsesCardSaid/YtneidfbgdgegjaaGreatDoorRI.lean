/- The reader: instructions, the pure part; an instruction without registers to read. -/
import Derived.Test.YtneidfbgdgegjaaGreatDoorRO
import Derived.Test.YtneidfbgdgegjaaGreatDoorOF
import Derived.Test.YtneidfbgdgegjaaGreatDoorLF
namespace Go.Proofs.YtneidfbgdgegjaaGreatDoor
open Go.RowKit
set_option linter.unusedVariables false
set_option linter.unusedSimpArgs false
/-- m registers are read: one of them is bad -/
def rdB : Nat → List ByteArray → Bool
  | 0, _ => false
  | m + 1, l => (regO (bl (hdB l))).isNone || rdB m l.tail
theorem drop_tail {α : Type} (l : List α) (j : Nat) : (l.drop j).tail = l.drop (j + 1) := by rw [List.tail_drop]
theorem tail_drop' {α : Type} (l : List α) (j : Nat) : l.tail.drop j = l.drop (j + 1) := by cases l <;> simp
theorem rdB_snoc : ∀ (j : Nat) (l : List ByteArray), rdB (j + 1) l = (rdB j l || (regO (bl (hdB (l.drop j)))).isNone)
  | 0, l => by unfold rdB; unfold rdB; simp
  | j + 1, l => by
    rw [rdB, rdB_snoc j l.tail, rdB, tail_drop', Bool.or_assoc]
theorem regO_nil : regO [] = none := rfl
theorem rd_ok : ∀ (m : Nat) (l : List ByteArray), (rdB m l = false ∧ l.drop m = []) ↔ ∃ v, regsO (l.map bl) = some v ∧ v.length = m
  | 0, l => by
    constructor
    · rintro ⟨_, h⟩
      have h : l = [] := h
      subst h
      exact ⟨[], rfl, rfl⟩
    · rintro ⟨v, h1, h2⟩
      refine ⟨rfl, ?_⟩
      cases l with
      | nil => rfl
      | cons x l =>
        exfalso
        have e : regsO ((x :: l).map bl) = match regO (bl x) with | none => none | some n => match regsO (l.map bl) with | none => none | some l => some (n :: l) := rfl
        rw [e] at h1
        cases hx : regO (bl x) with
        | none => rw [hx] at h1; cases h1
        | some n =>
          rw [hx] at h1
          cases hl : regsO (l.map bl) with
          | none => rw [hl] at h1; cases h1
          | some a => rw [hl] at h1; cases h1; simp at h2
  | m + 1, [] => by
    constructor
    · rintro ⟨h, _⟩
      exact absurd h (by simp [rdB, hdB, bl, regO_nil])
    · rintro ⟨v, h1, h2⟩
      cases h1; simp at h2
  | m + 1, x :: l => by
    have ih := rd_ok m l
    have e : regsO ((x :: l).map bl) = match regO (bl x) with | none => none | some n => match regsO (l.map bl) with | none => none | some l => some (n :: l) := rfl
    rw [e]
    have e2 : rdB (m + 1) (x :: l) = ((regO (bl x)).isNone || rdB m l) := rfl
    rw [e2]
    cases hx : regO (bl x) with
    | none => simp
    | some n =>
      simp only [Option.isNone_some, Bool.false_or, List.drop_succ_cons]
      rw [ih]
      constructor
      · rintro ⟨v, h1, h2⟩
        exact ⟨n :: v, by rw [h1], by simp [h2]⟩
      · rintro ⟨v, h1, h2⟩
        cases hl : regsO (l.map bl) with
        | none => rw [hl] at h1; cases h1
        | some a => rw [hl] at h1; cases h1; exact ⟨a, rfl, by simpa using h2⟩
/-- the number read at place t -/
def Rg (l : List ByteArray) (t : Nat) (v : Int) : Prop := ∀ m, regO (bl (hdB (l.drop t))) = some m → v = m
theorem regs_at : ∀ (l : List ByteArray) (v : List Int), regsO (l.map bl) = some v → ∀ t, t < v.length → regO (bl (hdB (l.drop t))) = some (v.getD t 0)
  | [], v, h, t, ht => by cases h; simp at ht
  | x :: l, v, h, t, ht => by
    have e : regsO ((x :: l).map bl) = match regO (bl x) with | none => none | some n => match regsO (l.map bl) with | none => none | some l => some (n :: l) := rfl
    rw [e] at h
    cases hx : regO (bl x) with
    | none => rw [hx] at h; cases h
    | some n =>
      rw [hx] at h
      cases hl : regsO (l.map bl) with
      | none => rw [hl] at h; cases h
      | some a =>
        rw [hl] at h
        cases h
        cases t with
        | zero => simpa [hdB] using hx
        | succ t => simpa using regs_at l a hl t (by simpa using ht)
/-- what an instruction's line gives -/
structure InO (ts : List ByteArray) (bad : Bool) (i : I6) (ts' : List ByteArray) (bad' : Bool) : Prop where
  bd : bad = true → bad' = true
  ok : bad = false → ((bad' = false ∧ ts' = []) ↔ (insO (ts.map bl)).isSome = true)
  val : ∀ j, insO (ts.map bl) = some j → i = j
def InP (w : World) (r : Nat) (ts : List ByteArray) (bad : Bool) (e : Ending) (w' : World) : Prop :=
  ∃ (i : I6) (ts' : List ByteArray) (bad' : Bool), e = .returned (av i) ∧ RS w' r ts' bad' ∧ InO ts bad i ts' bad' ∧ St (isB r) w w'
theorem ino_none {t : ByteArray} {ts : List ByteArray} {bad : Bool} (h : ofL (bl t) = none) : InO (t :: ts) bad ⟨0, 0, 0, 0, 0, 0⟩ ts (bad || !false) := by
  have e : insO ((t :: ts).map bl) = none := by
    show (match ofL (bl t) with | none => none | some op => _) = _
    rw [h]
  exact ⟨fun _ => by simp, fun _ => by rw [e]; simp, fun j hj => by rw [e] at hj; cases hj⟩
theorem ins_eq {t : ByteArray} {ts : List ByteArray} {op : Nat} (h : ofL (bl t) = some op) (h1 : op ≠ 1) : insO ((t :: ts).map bl) = match regsO (ts.map bl) with
    | none => none
    | some l => if (l.length : Int) = need op then some ⟨op, l.getD 0 0, l.getD 1 0, l.getD 2 0, l.getD 3 0, 0⟩ else none := by
  show (match ofL (bl t) with | none => none | some op => _) = _
  rw [h]
  show (if op = 1 then _ else _) = _
  rw [if_neg h1]
  cases regsO (ts.map bl) <;> rfl
theorem ino_nop {t : ByteArray} {ts : List ByteArray} {bad : Bool} (h : ofL (bl t) = some 0) : InO (t :: ts) bad ⟨0, 0, 0, 0, 0, 0⟩ ts (bad || !true) := by
  have e := ins_eq (ts := ts) h (by omega)
  have hn : need ((0 : Nat) : Int) = 0 := by decide
  rw [hn] at e
  refine ⟨fun hb => by simp [hb], fun hb => ?_, fun j hj => ?_⟩
  · rw [e, hb]
    have := rd_ok 0 ts
    simp only [rdB, List.drop_zero, true_and] at this
    simp only [Bool.not_true, Bool.or_self, true_and]
    rw [this]
    constructor
    · rintro ⟨v, h1, h2⟩
      rw [h1]
      dsimp only
      rw [if_pos (by omega)]; rfl
    · intro hs
      cases hl : regsO (ts.map bl) with
      | none => rw [hl] at hs; cases hs
      | some l =>
        rw [hl] at hs
        dsimp only at hs
        by_cases h0 : (l.length : Int) = 0
        · exact ⟨l, rfl, by omega⟩
        · rw [if_neg h0] at hs; cases hs
  · rw [e] at hj
    cases hl : regsO (ts.map bl) with
    | none => rw [hl] at hj; cases hj
    | some l =>
      rw [hl] at hj
      dsimp only at hj
      by_cases h0 : (l.length : Int) = 0
      · have : l = [] := List.eq_nil_of_length_eq_zero (by omega)
        subst this
        rw [if_pos h0] at hj
        cases hj; rfl
      · rw [if_neg h0] at hj; cases hj
theorem ino_movi {t : ByteArray} {ts : List ByteArray} {bad : Bool} (h : ofL (bl t) = some 1) {d : Int} {x : Nat} (hd : ∀ m, regO (bl (hdB ts)) = some m → d = m) (hx : ∀ m, decO (bl (hdB ts.tail)) = some m → x = m) :
    InO (t :: ts) bad ⟨1, d, 0, 0, 0, x⟩ ts.tail.tail (bad || !true || (regO (bl (hdB ts))).isNone || (decO (bl (hdB ts.tail))).isNone) := by
  have e : insO ((t :: ts).map bl) = match ts.map bl with
        | [a, b] => match regO a with
          | none => none
          | some d => match decO b with
            | none => none
            | some x => some ⟨1, d, 0, 0, 0, x⟩
        | _ => none := by
    show (match ofL (bl t) with | none => none | some op => _) = _
    rw [h]
    rfl
  have dn : decO [] = none := rfl
  refine ⟨fun hb => by simp [hb], fun hb => ?_, fun j hj => ?_⟩
  · rw [e, hb]
    match ts with
    | [] => simp [hdB, bl, regO_nil]
    | [a] => simp [hdB, bl, dn]
    | [a, b] =>
      simp only [hdB, List.headD_cons, List.tail_cons, List.map_cons, List.map_nil]
      cases regO (bl a) <;> cases decO (bl b) <;> simp
    | a :: b :: c :: r => simp
  · rw [e] at hj
    match ts with
    | [] => cases hj
    | [a] => cases hj
    | [a, b] =>
      simp only [hdB, List.headD_cons, List.tail_cons, List.map_cons, List.map_nil] at hj hd hx
      cases ha : regO (bl a) with
      | none => rw [ha] at hj; cases hj
      | some d' =>
        cases hb : decO (bl b) with
        | none => rw [ha, hb] at hj; cases hj
        | some x' =>
          rw [ha, hb] at hj
          cases hj
          rw [hd _ ha, hx _ hb]
    | a :: b :: c :: r => simp at hj
/-- after j sources -/
def PS (l : List ByteArray) (op d : Int) (j : Nat) (i : I6) : Prop :=
  i.op = op ∧ i.dst = d ∧ i.imm = 0 ∧ (if 1 ≤ j then Rg l 0 i.a else i.a = 0) ∧ (if 2 ≤ j then Rg l 1 i.b else i.b = 0) ∧ (if 3 ≤ j then Rg l 2 i.c else i.c = 0)
theorem ino_regs {t : ByteArray} {ts : List ByteArray} {bad : Bool} {op n : Nat} (h : ofL (bl t) = some op) (h1 : 2 ≤ op) (hn : srcs (op : Int) = (n : Int)) (h3 : n ≤ 3) {d : Int} (hd : ∀ m, regO (bl (hdB ts)) = some m → d = m) {i : I6} (hp : PS ts.tail op d n i) :
    InO (t :: ts) bad i (ts.tail.drop n) (bad || !true || (regO (bl (hdB ts))).isNone || rdB n ts.tail) := by
  have e := ins_eq (ts := ts) h (by omega)
  have hnd : need (op : Int) = (n : Int) + 1 := by unfold need; rw [hn, if_neg (by omega)]
  rw [hnd] at e
  have hr : rdB (n + 1) ts = ((regO (bl (hdB ts))).isNone || rdB n ts.tail) := rfl
  refine ⟨fun hb => by simp [hb], fun hb => ?_, fun j hj => ?_⟩
  · rw [e, hb]
    have := rd_ok (n + 1) ts
    rw [hr, ← tail_drop'] at this
    simp only [Bool.not_true, Bool.or_self, Bool.false_or]
    rw [this]
    constructor
    · rintro ⟨v, g1, g2⟩
      rw [g1]
      dsimp only
      rw [if_pos (by omega)]; rfl
    · intro hs
      cases hl : regsO (ts.map bl) with
      | none => rw [hl] at hs; cases hs
      | some l =>
        rw [hl] at hs
        dsimp only at hs
        by_cases h0 : (l.length : Int) = (n : Int) + 1
        · exact ⟨l, rfl, by omega⟩
        · rw [if_neg h0] at hs; cases hs
  · rw [e] at hj
    cases hl : regsO (ts.map bl) with
    | none => rw [hl] at hj; cases hj
    | some l =>
      rw [hl] at hj
      dsimp only at hj
      by_cases h0 : (l.length : Int) = (n : Int) + 1
      · rw [if_pos h0] at hj
        cases hj
        have hat := regs_at ts l hl
        have hlen : l.length = n + 1 := by omega
        obtain ⟨p1, p2, p3, p4, p5, p6⟩ := hp
        obtain ⟨io, id, ia, ib, ic, im⟩ := i
        dsimp only at p1 p2 p3 p4 p5 p6
        have q0 := hd _ (by simpa using hat 0 (by omega))
        have out : ∀ k, n + 1 ≤ k → l.getD k 0 = 0 := fun k hk => by rw [List.getD_eq_getElem?_getD, List.getElem?_eq_none (by omega)]; rfl
        have qa : ia = l.getD 1 0 := by
          by_cases c : 1 ≤ n
          · rw [if_pos c] at p4; exact p4 _ (by rw [tail_drop']; exact hat 1 (by omega))
          · rw [if_neg c] at p4; rw [p4, out 1 (by omega)]
        have qb : ib = l.getD 2 0 := by
          by_cases c : 2 ≤ n
          · rw [if_pos c] at p5; exact p5 _ (by rw [tail_drop']; exact hat 2 (by omega))
          · rw [if_neg c] at p5; rw [p5, out 2 (by omega)]
        have qc : ic = l.getD 3 0 := by
          by_cases c : 3 ≤ n
          · rw [if_pos c] at p6; exact p6 _ (by rw [tail_drop']; exact hat 3 (by omega))
          · rw [if_neg c] at p6; rw [p6, out 3 (by omega)]
        rw [p1, p2, p3, q0, qa, qb, qc, List.getD_eq_getElem?_getD]
        simp [List.getD_eq_getElem?_getD]
      · rw [if_neg h0] at hj; cases hj
end Go.Proofs.YtneidfbgdgegjaaGreatDoor
