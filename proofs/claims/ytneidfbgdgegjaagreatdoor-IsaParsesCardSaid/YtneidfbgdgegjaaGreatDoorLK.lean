/- An instruction checked; the greatest of a list; counts. -/
import Derived.Test.YtneidfbgdgegjaaGreatDoorLJ
import Derived.Deep.MidRow
namespace Go.Proofs.YtneidfbgdgegjaaGreatDoor
open Go.RowKit
set_option linter.unusedVariables false
set_option linter.unusedSimpArgs false
theorem chk81 (W R : Int) (p q : Option Addr) (n pc m qc : Nat) (i : I6) (w : World) (w1 : 1 ≤ W) (w2 : W ≤ 64) :
    Calls Tryz.prog 41 #[.agg #[.int .i64 W, .int .i64 R, .slice p n pc, .slice q m qc], .agg #[.int .i64 i.op, .int .i64 i.dst, .int .i64 i.a, .int .i64 i.b, .int .i64 i.c, .int .u64 i.imm]] w fun e w' => e = .returned (.int .i64 (insE (maskI W) R i)) ∧ BK w w' := by
  cases hv : opB i.op
  · rw [insE_op hv]; exact ci_op W R p q n pc m qc i w hv
  · cases hd : dfB i.op
    · cases ha : anyMiss R (usesL i)
      · rw [insE_rest hv (by rw [hd]; rfl) ha]
        have h1 : i.op ≠ 1 := by intro h; rw [h] at hd; cases hd
        rw [if_neg (by omega)]
        cases hj : junkB i
        · exact ci_nop_f W R p q n pc m qc i w hv hd ha h1 (by rw [junk_ne i hv, hj])
        · exact ci_nop_t W R p q n pc m qc i w hv hd ha h1 (by rw [junk_ne i hv, hj])
      · rw [insE_reg hv (.inr ha)]; exact ci_use0 W R p q n pc m qc i w hv hd ha
    · cases hm : missB R i.dst
      · cases ha : anyMiss R (usesL i)
        · rw [insE_rest hv (by rw [hm]; simp) ha]
          by_cases h1 : i.op = 1
          · by_cases hg : maskI W < i.imm
            · rw [if_pos ⟨h1, hg⟩]; exact ci_gt W R p q n pc m qc i w hv hd hm ha h1 w1 w2 hg
            · rw [if_neg (by omega)]
              cases hj : junkB i
              · exact ci_one_f W R p q n pc m qc i w hv hd hm ha h1 w1 w2 (by omega) (by rw [junk_ne i hv, hj])
              · exact ci_one_t W R p q n pc m qc i w hv hd hm ha h1 w1 w2 (by omega) (by rw [junk_ne i hv, hj])
          · rw [if_neg (by omega)]
            cases hj : junkB i
            · exact ci_df_f W R p q n pc m qc i w hv hd hm ha h1 (by rw [junk_ne i hv, hj])
            · exact ci_df_t W R p q n pc m qc i w hv hd hm ha h1 (by rw [junk_ne i hv, hj])
        · rw [insE_reg hv (.inr ha)]; exact ci_use1 W R p q n pc m qc i w hv hd hm ha
      · rw [insE_reg hv (.inl (by rw [hd, hm]; rfl))]; exact ci_dst W R p q n pc m qc i w hv hd hm
/-! the greatest of a list -/
def IsMax (l : List Int) (x : Int) : Prop := x ∈ l ∧ ∀ y ∈ l, y ≤ x
def MP (l : List Int) (w : World) (e : Ending) (w' : World) : Prop := ∃ x : Int, e = .returned (.int .i64 x) ∧ IsMax l x ∧ w = w'
theorem max_step {l : List Int} {k : Nat} {x : Int} (hk : k < l.length) (h : IsMax (l.take k) x) : IsMax (l.take (k + 1)) (max x l[k]) := by
  rw [List.take_succ_eq_append_getElem hk]
  obtain ⟨h1, h2⟩ := h
  constructor
  · rw [List.mem_append]
    by_cases h : x ≤ l[k]
    · right; rw [show max x l[k] = l[k] by omega]; simp
    · left; rw [show max x l[k] = x by omega]; exact h1
  · intro y hy
    rw [List.mem_append] at hy
    rcases hy with hy | hy
    · have := h2 y hy; omega
    · simp at hy; omega
set_option maxHeartbeats 1000000 in
theorem max98 (l : List Int) (p : Option Addr) (c : Nat) (w : World) (h : RO w p c l) (h0 : 0 < l.length) (hl : l.length ≤ 1000) : Calls Tryz.prog 66 #[.slice p l.length c] w (MP l w) := by
  have HR := Lib.hid h
  obtain ⟨b, o, rfl, hc⟩ := h.get 0 h0
  have h1 : IsMax (l.take (0 + 1)) l[0] := by
    rw [List.take_succ_eq_append_getElem h0]; exact ⟨by simp, fun y hy => by simp at hy; omega⟩
  have H1 := Lib.hid h1
  clear h h1
  rw [Nat.add_zero] at hc
  generalize l[0] = x0 at hc H1
  have hd : decide ((l.length : Int) < 1) = false := by simp; omega
  have hd2 : (1 : Int) ≤ l.length := by omega
  go_enter Tryz.func66, Tryz.ntmps66
  go_wp2_with fail
  clear hc
  go_loop [3, 4] (fun x i => ∃ (k : Nat) (m : Int), 1 ≤ k ∧ k ≤ l.length ∧ i = .int .i64 k ∧ x = .int .i64 m ∧ IsMax (l.take k) m) (fun _ i => l.length - (intOf i).toNat)
  case atStart => exact ⟨1, x0, by omega, by omega, rfl, rfl, H1.out⟩
  case round =>
    obtain ⟨k, m, hk0, hk, rfl, rfl, hm⟩ := hrel
    have HM := Lib.hid hm
    clear hm
    by_cases hlt : k < l.length
    · obtain ⟨b', o', he, hc⟩ := HR.out.get k hlt
      simp only [Option.some.injEq, Addr.mk.injEq, and_true] at he
      obtain ⟨rfl, rfl⟩ := he
      have HS := Lib.hid (max_step hlt HM.out)
      generalize l[k] = y at hc HS
      go_wp2_with fail
      all_goals
        go_round
        case rel => exact ⟨k + 1, max m y, by omega, by omega, by go_num, by first | rfl | exact congrArg _ (by omega), HS.out⟩
        case measure => simp [intOf]; omega
    · go_wp2_with fail
      go_ret
      exact ⟨_, rfl, by have := HM.out; rwa [List.take_of_length_le (by omega)] at this, rfl⟩
/-! the registers of Out counted -/
def ca (cs : List Int) : Array Value := (cs.map (Value.int .i64)).toArray
theorem ca_size (cs : List Int) : (ca cs).size = cs.length := by simp [ca]
theorem ca_get (cs : List Int) (k : Nat) (h : k < cs.length) : (ca cs)[k]? = some (.int .i64 cs[k]) := by simp [ca, h]
theorem ca_set (l : List Int) (j : Nat) (x : Int) : (ca l).setIfInBounds j (.int .i64 x) = ca (l.set j x) := by simp [ca, List.map_set]
def cnt (l : List Int) (r : Nat) : Int := ((l.filter (fun x => decide (x = (r : Int)))).length : Int)
def cl (l : List Int) : List Int := (List.range 8).map (cnt l)
theorem cl_len (l : List Int) : (cl l).length = 8 := by simp [cl]
theorem cnt_snoc (l : List Int) (x : Int) (r : Nat) : cnt (l ++ [x]) r = if x = r then cnt l r + 1 else cnt l r := by
  unfold cnt; rw [List.filter_append]; by_cases h : x = r <;> simp [h]
theorem cl_snoc (l : List Int) (r : Nat) (h : r < 8) : (cl l).set r (cnt l r + 1) = cl (l ++ [(r : Int)]) := by
  unfold cl
  apply List.ext_getElem
  · simp
  · intro j h1 h2
    simp at h1
    rw [List.getElem_set]
    simp only [List.getElem_map, List.getElem_range, cnt_snoc]
    by_cases e : r = j
    · subst e; simp
    · rw [if_neg e, if_neg (by omega)]
theorem cnt_le (l : List Int) (r : Nat) : 0 ≤ cnt l r ∧ cnt l r ≤ l.length := by
  unfold cnt; exact ⟨by omega, by have := List.length_filter_le (fun x => decide (x = (r : Int))) l; omega⟩
theorem cnt_mem (l : List Int) (r : Nat) : 0 < cnt l r ↔ hasB l r = true := by
  unfold cnt
  rw [hasB_mem]
  constructor
  · intro h
    have h : 0 < (l.filter (fun x => decide (x = (r : Int)))).length := by omega
    obtain ⟨y, hy⟩ := List.exists_mem_of_length_pos h
    rw [List.mem_filter] at hy
    have := of_decide_eq_true hy.2
    subst this; exact hy.1
  · intro h
    have : 0 < (l.filter (fun x => decide (x = (r : Int)))).length := List.length_pos_of_mem (a := (r : Int)) (by rw [List.mem_filter]; exact ⟨h, by simp⟩)
    omega
theorem cnt_cons (x : Int) (t : List Int) (r : Nat) : cnt (x :: t) r = if x = r then cnt t r + 1 else cnt t r := by
  unfold cnt; rw [List.filter_cons]; by_cases h : x = r <;> simp [h]
theorem dup_cnt (l : List Int) (h : ∀ x ∈ l, 0 ≤ x ∧ x < 8) : dupB l = true ↔ ∃ r : Nat, r < 8 ∧ 1 < cnt l r := by
  induction l with
  | nil => simp [dupB, cnt]
  | cons x t ih =>
    have ih := ih fun y hy => h y (List.mem_cons_of_mem _ hy)
    obtain ⟨h0, h8⟩ := h x (by simp)
    obtain ⟨a, rfl⟩ : ∃ a : Nat, x = a := ⟨x.toNat, by omega⟩
    unfold dupB
    rw [Bool.or_eq_true, ih, ← cnt_mem]
    constructor
    · rintro (h1 | ⟨r, hr, h1⟩)
      · exact ⟨a, by omega, by rw [cnt_cons, if_pos rfl]; omega⟩
      · exact ⟨r, hr, by rw [cnt_cons]; split <;> omega⟩
    · rintro ⟨r, hr, h1⟩
      rw [cnt_cons] at h1
      by_cases e : (a : Int) = r
      · rw [if_pos e] at h1
        have e : a = r := by omega
        subst e
        left; omega
      · rw [if_neg e] at h1; right; exact ⟨r, hr, h1⟩
theorem cl_zero : ca (cl []) = #[.int .i64 0, .int .i64 0, .int .i64 0, .int .i64 0, .int .i64 0, .int .i64 0, .int .i64 0, .int .i64 0] := rfl
theorem ro_block {w : World} {b : Nat} {l : List Int} {T : Nat} (h : w.heap[b]? = some (.cells (ca l) T (0, 0))) : RO w (some ⟨b, 0, none⟩) l.length l :=
  ⟨fun h => (by cases h), Nat.le_refl _, fun k hk => ⟨b, 0, rfl, by rw [Nat.zero_add, cell_of_row w _ _ _ _ _ h]; exact ca_get l k hk⟩⟩
theorem max_dup {l : List Int} {x : Int} (h : ∀ y ∈ l, 0 ≤ y ∧ y < 8) (hm : IsMax (cl l) x) : decide (1 < x) = dupB l := by
  rw [Bool.eq_iff_iff, dup_cnt l h, decide_eq_true_iff]
  obtain ⟨h1, h2⟩ := hm
  constructor
  · intro hx
    unfold cl at h1
    rw [List.mem_map] at h1
    obtain ⟨r, hr, rfl⟩ := h1
    exact ⟨r, by simpa using hr, hx⟩
  · rintro ⟨r, hr, h3⟩
    have := h2 (cnt l r) (by unfold cl; rw [List.mem_map]; exact ⟨r, by simpa using hr, rfl⟩)
    omega
end Go.Proofs.YtneidfbgdgegjaaGreatDoor
