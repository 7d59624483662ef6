/- Operations that came in as an argument; what they do to the links. -/
import Derived.Test.YtpnjmkmobdaefaaV
import Derived.ProofKit
import Derived.OpenShut
import Derived.ChangeOld
import Derived.Below
import Derived.Deep.Slices
import Derived.ChangeSame
namespace Go.Proofs.Ytpnjmkmobdaefaa
open Go.ChangeShapes Go.WideShapes Go.ChangeAt Go.RowKit Go.Deep Go.Maps
set_option linter.unusedVariables false
set_option linter.unusedSimpArgs false
/-- an operation -/
structure A4 where
  u : Bool
  a : Int
  b : Int
  y : Int
def M4 (w : World) (b o : Nat) (x : A4) : Prop := w.cell? ⟨b, o, none⟩ = some (.bool x.u) ∧ w.cell? ⟨b, o + 1, none⟩ = some (.int .i64 x.a) ∧ w.cell? ⟨b, o + 2, none⟩ = some (.int .i64 x.b) ∧ w.cell? ⟨b, o + 3, none⟩ = some (.int .i64 x.y)
theorem M4.keep {w w' : World} {b o : Nat} {x : A4} (h : M4 w b o x) (hb : BK w w') : M4 w' b o x := ⟨cellBk h.1 hb, cellBk h.2.1 hb, cellBk h.2.2.1 hb, cellBk h.2.2.2 hb⟩
structure RA (w : World) (p : Option Addr) (l : List A4) : Prop where
  get : ∀ k (h : k < l.length), ∃ b o, p = some ⟨b, o, none⟩ ∧ M4 w b (o + k * 4) l[k]
  ok : ∀ x ∈ l, okI x.a ∧ okI x.b ∧ okI x.y
theorem RA.keep {w w' : World} {p : Option Addr} {l : List A4} (h : RA w p l) (hb : BK w w') : RA w' p l :=
  ⟨fun k hk => by obtain ⟨b, o, h1, h2⟩ := h.get k hk; exact ⟨b, o, h1, h2.keep hb⟩, h.ok⟩
theorem cells28 : Try.prog.cellsOf 28 = 4 := by kernel_rfl
theorem cells3' : Try.prog.cellsOf 3 = 1 := by kernel_rfl
theorem cells4' : Try.prog.cellsOf 4 = 1 := by kernel_rfl
section
variable {H : Type} {enc : TypeId × Value → H} {w : World} {base : Nat} {spare : Nat → Bool} {held : Bool}
theorem act_open {n : Nat} {cs : List Value} {x : DataW H × List MemPlace} (h : DataW.trod enc Try.prog w base spare held n 28 cs = some x) : ∃ (u : Bool) (a b y : Int), cs = [.bool u, .int .i64 a, .int .i64 b, .int .i64 y] ∧ okI a ∧ okI b ∧ okI y := by
  obtain ⟨fs, hfs, hof⟩ : ∃ fs, Try.prog.underlying 28 = some (.struct fs) ∧ fs.map (fun f => (f.offset, f.type)) = #[(0, 4), (1, 3), (2, 3), (3, 3)] := ⟨_, Try.underlying28, by simp⟩
  obtain ⟨xs, m, _, _, hlen, hxl, hf⟩ := DataW.trod_struct hfs h
  rw [cells28] at hlen
  match cs, hlen with
  | [c0, c1, c2, c3], _ =>
    have hsz : fs.size = 4 := by have := congrArg Array.size hof; simpa using this
    have get : ∀ i, i < 4 → ∃ f, fs[i]? = some f ∧ f.offset = i ∧ f.type = (if i = 0 then 4 else 3) := by
      intro i hi
      have hi' : i < fs.size := by omega
      have e := congrArg (fun l => l[i]?) hof
      simp only [Array.getElem?_map, Array.getElem?_eq_getElem hi', Option.map_some] at e
      refine ⟨fs[i], Array.getElem?_eq_getElem hi', ?_⟩
      match i, hi with
      | 0, _ => simp at e; exact e
      | 1, _ => simp at e; exact e
      | 2, _ => simp at e; exact e
      | 3, _ => simp at e; exact e
    have val : ∀ i (hi : i < 4), i ≠ 0 → ∃ v, ([c0, c1, c2, c3].drop i).take 1 = [v] ∧ ∃ k : Int, v = .int .i64 k ∧ okI k := by
      intro i hi h0
      obtain ⟨f, h1, h2, h3⟩ := get i hi
      rw [if_neg h0] at h3
      have h4 := hf i f h1
      rw [h2, h3, cells3'] at h4
      have hxi : xs[i]? = some (xs[i]'(by omega)) := List.getElem?_eq_getElem (by omega)
      rw [hxi] at h4
      obtain ⟨k, h5, _, hw⟩ := DataW.trod_int Try.underlying3 h4
      exact ⟨_, h5, k, rfl, wf_ok hw⟩
    obtain ⟨v0, e0, u, rfl⟩ : ∃ v, ([c0, c1, c2, c3].drop 0).take 1 = [v] ∧ ∃ u : Bool, v = .bool u := by
      obtain ⟨f, h1, h2, h3⟩ := get 0 (by omega)
      rw [if_pos rfl] at h3
      have h4 := hf 0 f h1
      rw [h2, h3, cells4'] at h4
      have hxi : xs[0]? = some (xs[0]'(by omega)) := List.getElem?_eq_getElem (by omega)
      rw [hxi] at h4
      obtain ⟨k, h5, _⟩ := DataW.trod_bool Try.underlying4 h4
      exact ⟨_, h5, k, rfl⟩
    obtain ⟨v1, e1, k1, rfl, w1⟩ := val 1 (by omega) (by omega)
    obtain ⟨v2, e2, k2, rfl, w2⟩ := val 2 (by omega) (by omega)
    obtain ⟨v3, e3, k3, rfl, w3⟩ := val 3 (by omega) (by omega)
    simp at e0 e1 e2 e3
    exact ⟨u, k1, k2, k3, by rw [e0, e1, e2, e3], w1, w2, w3⟩
theorem acts_open {fuel : Nat} {v : Value} {x : DataW H × List MemPlace} (h : DataW.trod enc Try.prog w base (fun _ => true) held fuel 22 [v] = some x) : ∃ p c ac, v = .slice p ac.length c ∧ RA w p ac := by
  rcases open_slice Try.underlying22 h with ⟨h0, _⟩ | ⟨a, len, cap, m, n, D, Pl, hcs, hb, hl, hm, hmm, hx, hi⟩
  · exact ⟨none, 0, [], by simpa using h0, ⟨fun k hk => by simp at hk, fun x hx => by simp at hx⟩⟩
  · simp only [List.cons.injEq, and_true] at hcs
    subst hcs
    by_cases h0 : len = 0
    · subst h0; exact ⟨_, cap, [], rfl, ⟨fun k hk => by simp at hk, fun x hx => by simp at hx⟩⟩
    · simp at hmm
      subst hmm
      have key : ∀ i, i < len → ∃ x : A4, w.cell? (a.add (i * 4)) = some (.bool x.u) ∧ w.cell? ((a.add (i * 4)).add 1) = some (.int .i64 x.a) ∧ w.cell? ((a.add (i * 4)).add 2) = some (.int .i64 x.b) ∧ w.cell? ((a.add (i * 4)).add 3) = some (.int .i64 x.y) ∧ okI x.a ∧ okI x.b ∧ okI x.y := by
        intro i hil
        obtain ⟨cs', hc, ht⟩ := hi i (by omega)
        rw [cells28] at hc
        obtain ⟨u, p, q, r, rfl, w1, w2, w3⟩ := act_open ht
        obtain ⟨_, _, hat⟩ := World.cells?_some hc
        have a0 := hat 0 (by omega)
        have a1 := hat 1 (by omega)
        have a2 := hat 2 (by omega)
        have a3 := hat 3 (by omega)
        exact ⟨⟨u, p, q, r⟩, by simpa [Addr.add] using a0, by simpa using a1, by simpa using a2, by simpa using a3, w1, w2, w3⟩
      obtain ⟨x0, c0, _⟩ := key 0 (by omega)
      have e0 : a.add (0 * 4) = a := by simp [Addr.add]
      rw [e0] at c0
      obtain ⟨b, off, sp⟩ := a
      have hsp : sp = none := by
        cases sp with
        | none => rfl
        | some s => exfalso; unfold World.cell? at c0; split at c0 <;> simp at c0
      subst hsp
      have hadd : ∀ o j, (⟨b, o, none⟩ : Addr).add j = ⟨b, o + j, none⟩ := fun o j => Go.WideShapes.add_plain _ _ _
      have key2 : ∀ i, ∃ x : A4, i < len → M4 w b (off + i * 4) x ∧ okI x.a ∧ okI x.b ∧ okI x.y := by
        intro i
        by_cases hil : i < len
        · obtain ⟨x, h1, h2, h3, h4, h5⟩ := key i hil
          rw [hadd] at h1
          rw [hadd, hadd] at h2 h3 h4
          exact ⟨x, fun _ => ⟨⟨h1, h2, h3, h4⟩, h5⟩⟩
        · exact ⟨⟨false, 0, 0, 0⟩, fun h => absurd h hil⟩
      refine ⟨some ⟨b, off, none⟩, _, (List.range len).map (fun i => (key2 i).choose), by simp; rfl, ⟨fun k hk => ⟨b, off, rfl, ?_⟩, fun x hx => ?_⟩⟩
      · simp at hk
        simp only [List.getElem_map, List.getElem_range]
        exact ((key2 k).choose_spec hk).1
      · obtain ⟨k, hk, rfl⟩ := List.mem_map.1 hx
        exact ((key2 k).choose_spec (List.mem_range.1 hk)).2
end
/-! the links after an operation -/
def undoB (M : List L3) (n : Int) : Bool := if 0 ≤ n ∧ n ≤ M.length then true else false
def undoM (M : List L3) (n : Int) : List L3 := if 0 ≤ n ∧ n ≤ M.length then M.take n.toNat else M
def linkB (M : List L3) (a b : Int) : Bool := if (a < 0 ∨ b < 0) ∨ sameB M a b = true then false else true
def linkM (M : List L3) (a b y : Int) : List L3 := if (a < 0 ∨ b < 0) ∨ sameB M a b = true then M else M ++ [⟨a, b, y⟩]
def stM (M : List L3) (x : A4) : List L3 := if x.u = true then undoM M x.a else linkM M x.a x.b x.y
def stB (M : List L3) (x : A4) : Bool := if x.u = true then undoB M x.a else linkB M x.a x.b
def playM : List L3 → List A4 → List L3
  | M, [] => M
  | M, x :: t => playM (stM M x) t
theorem undoM_len (M : List L3) (n : Int) : (undoM M n).length ≤ M.length := by
  unfold undoM; split
  · simp; omega
  · exact Nat.le_refl _
theorem linkM_len (M : List L3) (a b y : Int) : (linkM M a b y).length ≤ M.length + 1 := by
  unfold linkM; split
  · omega
  · simp
theorem stM_len (M : List L3) (x : A4) : (stM M x).length ≤ M.length + 1 := by
  unfold stM; split
  · have := undoM_len M x.a; omega
  · exact linkM_len _ _ _ _
theorem playM_len : ∀ (l : List A4) (M : List L3), (playM M l).length ≤ M.length + l.length
  | [], M => Nat.le_refl _
  | x :: t, M => by have := playM_len t (stM M x); have := stM_len M x; unfold playM; simp; omega
theorem playM_snoc : ∀ (l : List A4) (M : List L3) (x : A4), playM M (l ++ [x]) = stM (playM M l) x
  | [], M, x => rfl
  | y :: t, M, x => playM_snoc t (stM M y) x
/-- what an operation on a forest leaves -/
def SP (w : World) (B : Nat) (o : FO) (N : Nat) (t : Bool) (M' : List L3) (e : Ending) (w' : World) : Prop := e = .returned (.bool t) ∧ ∃ o', o'.f = o.f ∧ FS w' B o' M' (N + 100) ∧ Step w w' o.foot o'.foot
theorem undo_st (w : World) (B : Nat) (o : FO) (M : List L3) (N : Nat) (h : FS w B o M N) (hN : N < 600000) (hk : M.length ≤ 100) (n : Int) : Calls Try.prog 14 #[.pointer (some ⟨o.f, 0, none⟩), .int .i64 n] w (SP w B o N (undoB M n) (undoM M n)) := by
  by_cases q : 0 ≤ n ∧ n ≤ M.length
  · obtain ⟨k, rfl⟩ : ∃ k : Nat, n = (k : Int) := ⟨n.toNat, by omega⟩
    refine (undo14 w B o M N h k (by omega) (by omega) (by omega)).mono ?_
    rintro e w' ⟨rfl, o', e1, e2, e3⟩
    unfold undoB undoM
    rw [if_pos q, if_pos q, Int.toNat_natCast]
    exact ⟨rfl, o', e1, e2.mono (by omega), e3⟩
  · refine (undo14_no w B o M N h n (by omega)).mono ?_
    rintro e w' ⟨rfl, rfl⟩
    unfold undoB undoM
    rw [if_neg q, if_neg q]
    exact ⟨rfl, o, rfl, h.mono (by omega), Step.refl _ _⟩
theorem link_st (w : World) (B : Nat) (o : FO) (M : List L3) (N : Nat) (h : FS w B o M N) (hB : B ≤ w.heap.size) (hN1 : M.length ≤ N) (hN : N < 600000) (hk : M.length ≤ 100) (a b y : Int) (ha : okI a) (hb : okI b) (hy : okI y) : Calls Try.prog 16 #[.pointer (some ⟨o.f, 0, none⟩), .int .i64 a, .int .i64 b, .int .i64 y] w (SP w B o N (linkB M a b) (linkM M a b y)) := by
  by_cases q : a < 0 ∨ b < 0
  · refine (link16_neg w B o M N h a b y q).mono ?_
    rintro e w' ⟨rfl, rfl⟩
    unfold linkB linkM
    rw [if_pos (.inl q), if_pos (.inl q)]
    exact ⟨rfl, o, rfl, h.mono (by omega), Step.refl _ _⟩
  · cases s : sameB M a b with
    | true =>
      refine (link16_same w B o M N h a b y ha hb (by omega) (by omega) ((same_cr (by omega) (by omega)).1 s)).mono ?_
      rintro e w' ⟨rfl, rfl⟩
      unfold linkB linkM
      rw [if_pos (.inr s), if_pos (.inr s)]
      exact ⟨rfl, o, rfl, h.mono (by omega), Step.refl _ _⟩
    | false =>
      have hq : ¬ ((a < 0 ∨ b < 0) ∨ sameB M a b = true) := by rw [s]; simp; omega
      refine (link16_new w B o M N h hB hN1 (by omega) (by omega) a b y ha hb hy (by omega) (by omega) (fun hc => by
        have := (same_cr (M := M) (show 0 ≤ a by omega) (show 0 ≤ b by omega)).2 hc
        rw [s] at this; cases this)).mono ?_
      rintro e w' ⟨rfl, o', e1, e2, e3⟩
      unfold linkB linkM
      rw [if_neg hq, if_neg hq]
      exact ⟨rfl, o', e1, e2.mono (by omega), e3⟩
end Go.Proofs.Ytpnjmkmobdaefaa
