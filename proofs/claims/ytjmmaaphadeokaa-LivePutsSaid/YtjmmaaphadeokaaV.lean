/- Rows reversed and copied. -/
import Derived.Test.YtjmmaaphadeokaaShelf
import Derived.Test.YtjmmaaphadeokaaQ
namespace Go.Proofs.Ytjmmaaphadeokaa
open Go.RowKit Go.Shelf Go.Sort Go.Lib
set_option linter.unusedVariables false
set_option linter.unusedSimpArgs false
instance : Inhabited I6 := ⟨⟨0, 0, 0, 0, 0, 0⟩⟩
theorem flat6_arr (l : List I6) : flatK cells6 6 l.toArray = (flat6 l).toArray := by
  apply Array.ext
  · simp [flat6_len]
  · intro t h1 h2
    have ht : t < l.length * 6 := by simpa using h1
    have hk : t / 6 < l.length := by omega
    have hj : t % 6 < 6 := by omega
    have hg := flat6_get l (t / 6) hk (t % 6) hj
    have e : t / 6 * 6 + t % 6 = t := by omega
    rw [e] at hg
    have h3 := get_flatK cells6 6 l.toArray t (by simpa using ht)
    rw [getElem!_pos _ t (by simpa using ht)] at h3
    rw [h3]
    have h5 : (flat6 l)[t]? = some ((flat6 l)[t]'(by rw [flat6_len]; exact ht)) := List.getElem?_eq_getElem _
    rw [h5] at hg
    have h6 : l.toArray[t / 6]! = l[t / 6] := by rw [getElem!_pos _ _ (by simpa using hk)]; simp
    rw [h6]
    have h7 : (cells6 l[t / 6])[t % 6]! = (cells6 l[t / 6])[t % 6]'(by simp [cells6]; omega) := getElem!_pos _ _ _
    rw [h7]
    have h8 : (cells6 l[t / 6])[t % 6]? = some ((cells6 l[t / 6])[t % 6]'(by simp [cells6]; omega)) := List.getElem?_eq_getElem _
    rw [h8] at hg
    simpa using (Option.some.inj hg).symm
theorem holds6 {w : World} {B g cap n : Nat} {l : List I6} (h : w.ownsRow B 54 6 (.slice (some ⟨g, 0, none⟩) n cap) l.length (flat6 l)) : HoldsK cells6 6 w g 0 l.toArray := by
  unfold HoldsK
  rw [flat6_arr]
  rcases h.2 with ⟨hv, h0⟩ | ⟨g', cap', cur, hv, hb, hg, h1, h2, h3, h4⟩
  · simp at hv
  · simp only [Value.slice.injEq, Option.some.injEq, Addr.mk.injEq, and_true] at hv
    obtain ⟨⟨rfl, _⟩, _, rfl⟩ := hv
    intro j hj
    have hj' : j < (flat6 l).length := by simpa using hj
    refine ⟨?_, by simp [World.frozen?, hg]⟩
    rw [Nat.zero_add, cell_of_row w _ _ _ _ _ hg, ← Array.getElem?_toList]
    have h5 : (cur.toList.take (l.length * 6))[j]? = (flat6 l)[j]? := by rw [h4]
    rw [List.getElem?_take_of_lt (by rw [flat6_len] at hj'; exact hj')] at h5
    rw [h5, getElem!_pos _ j hj]
    simp [hj']
theorem own_put {w : World} {B g cap n q : Nat} {l m : List I6} (h : w.ownsRow B 54 6 (.slice (some ⟨g, 0, none⟩) n cap) l.length (flat6 l)) (hl : m.length = l.length) :
    (putRowK cells6 6 (Sort.ahead w q) g 0 m.toArray).ownsRow B 54 6 (.slice (some ⟨g, 0, none⟩) n cap) m.length (flat6 m) ∧ w.grownBy (putRowK cells6 6 (Sort.ahead w q) g 0 m.toArray) (some g) := by
  unfold putRowK
  rw [flat6_arr]
  rcases h.2 with ⟨hv, h0⟩ | ⟨g', cap', cur, hv, hb, hg, h1, h2, h3, h4⟩
  · simp at hv
  · simp only [Value.slice.injEq, Option.some.injEq, Addr.mk.injEq, and_true] at hv
    obtain ⟨⟨rfl, _⟩, rfl, rfl⟩ := hv
    have hn : (flat6 m).length = m.length * 6 := flat6_len m
    constructor
    · refine ⟨hn, .inr ⟨_, _, putCells id 0 (flat6 m).toArray cur, by rw [hl], hb, ?_, by omega, h2, by simp [putCells, h3], ?_⟩⟩
      · simp [putRow, mapBlock, Sort.ahead, Array.getElem?_modify, hg, onCells]
      · apply List.ext_getElem?
        intro j
        by_cases hj : j < m.length * 6
        · rw [List.getElem?_take_of_lt hj, Array.getElem?_toList]
          simp [putCells, hn, hj, show j < cur.size by omega]
        · rw [List.getElem?_take_eq_none (by omega), List.getElem?_eq_none (by omega)]
    · refine ⟨rfl, rfl, rfl, by simp [putRow, mapBlock, Sort.ahead], fun k hk hne => ?_⟩
      have : ¬ g = k := fun e => hne (by rw [e])
      simp [putRow, mapBlock, Sort.ahead, Array.getElem?_modify, this]
def RevP (w : World) (B : Nat) (p : Option Addr) (n c : Nat) (l : List I6) (e : Ending) (w' : World) : Prop :=
  e = .returned (.tuple #[]) ∧ w'.ownsRow B 54 6 (.slice p n c) l.length (flat6 l) ∧ w.grownBy w' (Value.slice p n c).ownBlock
theorem rev40 (w : World) (B : Nat) (p : Option Addr) (c : Nat) (l : List I6) (h : w.ownsRow B 54 6 (.slice p l.length c) l.length (flat6 l)) (hB : B ≤ w.heap.size) (hl : l.length ≤ 1000) :
    Calls Try.prog 40 #[.slice p l.length c] w (RevP w B p l.length c l.reverse) := by
  rcases h.2 with ⟨hv, h0⟩ | ⟨g, cap, cur, hv, hb, hg, h1, h2, h3, h4⟩
  · obtain rfl := List.eq_nil_of_length_eq_zero h0
    simp only [Value.slice.injEq] at hv
    obtain ⟨rfl, _, rfl⟩ := hv
    refine (@AnyQ.slices_Reverse_empty _ _ Try.rev40 none 0 w).mono ?_
    rintro e w' ⟨rfl, rfl⟩
    exact ⟨rfl, h, rfl, rfl, rfl, Nat.le_refl _, fun _ _ _ => rfl⟩
  · simp only [Value.slice.injEq] at hv
    obtain ⟨rfl, _, rfl⟩ := hv
    have hc := AnyQ.slices_Reverse Try.rev40 6 Try.isAgg54 Try.sizeOf54 cells6 (fun _ => rfl) (fun x v hv => by simp [cells6] at hv; rcases hv with rfl | rfl | rfl | rfl | rfl | rfl <;> rfl) g 0 c l.toArray w (holds6 h) (by simp; omega)
    have hsz : l.toArray.size = l.length := by simp
    rw [hsz] at hc
    refine hc.mono ?_
    rintro e w' ⟨rfl, q, rfl⟩
    rw [List.reverse_toArray]
    obtain ⟨o, gr⟩ := own_put (q := q) (m := l.reverse) h (by simp)
    exact ⟨rfl, o, gr⟩
theorem info54 : (Try.prog.info? 54).map (fun i => (i.zero, i.size, i.bytes)) = some (some (.agg #[.int .i64 0, .int .i64 0, .int .i64 0, .int .i64 0, .int .i64 0, .int .u64 0]), 6, 48) := by kernel_rfl
/-- a slice of one's own comes back -/
def OP (e6 sz : Nat) (w : World) (n : Nat) (xs : List Value) (e : Ending) (w' : World) : Prop := ∃ v, e = .returned v ∧ w'.ownsRow w.heap.size e6 sz v n xs ∧ BK w w'
theorem ro_cells {w : World} {b o c : Nat} {l : List Int} (h : RO w (some ⟨b, o, none⟩) c l) : ∀ j u, (ints l)[j]? = some u → w.cell? ((⟨b, o, none⟩ : Addr).add j) = some u := by
  intro j u hu
  have hj : j < l.length := by have := (List.getElem?_eq_some_iff.1 hu).1; simpa [ints] using this
  obtain ⟨b', o', he, hc⟩ := h.get j hj
  simp only [Option.some.injEq, Addr.mk.injEq, and_true] at he
  obtain ⟨rfl, rfl⟩ := he
  rw [show (⟨b, o, none⟩ : Addr).add j = ⟨b, o + j, none⟩ from Go.WideShapes.add_plain _ _ _, hc, ← hu]
  simp [ints, hj]
theorem ri_cells {w : World} {b o c : Nat} {l : List I6} (h : RI w (some ⟨b, o, none⟩) c l) : ∀ j u, (flat6 l)[j]? = some u → w.cell? ((⟨b, o, none⟩ : Addr).add j) = some u := by
  intro j u hu
  have hj : j < l.length * 6 := by have := (List.getElem?_eq_some_iff.1 hu).1; rwa [flat6_len] at this
  obtain ⟨b', o', he, hc⟩ := h.get (j / 6) (by omega)
  simp only [Option.some.injEq, Addr.mk.injEq, and_true] at he
  obtain ⟨rfl, rfl⟩ := he
  have hg := flat6_get l (j / 6) (by omega) (j % 6) (by omega)
  rw [show j / 6 * 6 + j % 6 = j by omega, hu] at hg
  rw [show (⟨b, o, none⟩ : Addr).add j = ⟨b, o + j, none⟩ from Go.WideShapes.add_plain _ _ _, show o + j = o + j / 6 * 6 + j % 6 by omega]
  obtain ⟨c0, c1, c2, c3, c4, c5⟩ := hc
  generalize l[j / 6]'(by omega) = i at hg c0 c1 c2 c3 c4 c5
  have h6 : j % 6 < 6 := by omega
  generalize j % 6 = r at hg h6
  match r, h6 with
  | 0, _ => simp [cells6] at hg; rw [hg]; exact c0
  | 1, _ => simp [cells6] at hg; rw [hg]; exact c1
  | 2, _ => simp [cells6] at hg; rw [hg]; exact c2
  | 3, _ => simp [cells6] at hg; rw [hg]; exact c3
  | 4, _ => simp [cells6] at hg; rw [hg]; exact c4
  | 5, _ => simp [cells6] at hg; rw [hg]; exact c5
theorem flat6_one (l : List I6) : ∀ u ∈ flat6 l, u.oneCell' = true := by
  intro u hu
  simp only [flat6, List.mem_flatMap] at hu
  obtain ⟨i, _, hu⟩ := hu
  simp [cells6] at hu
  rcases hu with rfl | rfl | rfl | rfl | rfl | rfl <;> rfl
theorem own_empty (w : World) (B : Nat) (hB : B ≤ w.heap.size) (e sz : Nat) : (w.alloc (.cells #[] e)).ownsRow B e sz (.slice (some ⟨w.heap.size, 0, none⟩) 0 0) 0 [] :=
  ⟨by simp, .inr ⟨w.heap.size, 0, #[], rfl, hB, heap_alloc_new w _, Nat.le_refl _, Nat.zero_le _, by simp, by simp⟩⟩
/-- the cells that an append copies -/
def SrcC (w : World) (p : Option Addr) (xs : List Value) : Prop := ∀ ad, p = some ad → ∀ j u, xs[j]? = some u → w.cell? (ad.add j) = some u
theorem ro_src {w : World} {p : Option Addr} {c : Nat} {l : List Int} (h : RO w p c l) : SrcC w p (ints l) := by
  rintro ad rfl j u hu
  have hj : 0 < l.length := by have := (List.getElem?_eq_some_iff.1 hu).1; simp [ints] at this; omega
  obtain ⟨b, o, he, _⟩ := h.get 0 hj
  obtain rfl : ad = ⟨b, o, none⟩ := by simpa using he
  exact ro_cells h j u hu
theorem ri_src {w : World} {p : Option Addr} {c : Nat} {l : List I6} (h : RI w p c l) : SrcC w p (flat6 l) := by
  rintro ad rfl j u hu
  have hj : 0 < l.length := by have := (List.getElem?_eq_some_iff.1 hu).1; rw [flat6_len] at this; omega
  obtain ⟨b, o, he, _⟩ := h.get 0 hj
  obtain rfl : ad = ⟨b, o, none⟩ := by simpa using he
  exact ri_cells h j u hu
theorem ints_one (l : List Int) : ∀ u ∈ ints l, u.oneCell' = true := by intro u hu; simp [ints] at hu; obtain ⟨x, _, rfl⟩ := hu; rfl
set_option maxRecDepth 100000 in
set_option maxHeartbeats 1000000 in
theorem clone41 (l : List Int) (p : Option Addr) (c : Nat) (w : World) (h : RO w p c l) (hl : l.length ≤ 1000) : Calls Try.prog 41 #[.slice p l.length c] w (OP 3 1 w l.length (ints l)) := by
  obtain ⟨i0, hi, hz0, hz1, hz2⟩ := info_parts info3
  cases p with
  | none =>
    have hc := h.nl rfl
    have hle := h.le
    obtain rfl := List.eq_nil_of_length_eq_zero (show l.length = 0 by omega)
    refine (AnyE.slices_Clone_nil Try.clone41 0 c w).mono ?_
    rintro e w' ⟨rfl, rfl⟩
    exact ⟨_, rfl, World.ownsRow_nil _ _ _ _, BK.refl _⟩
  | some a =>
    have HS := Lib.hid (ro_src (h.keep (bk_alloc (BK.refl w) (.cells #[] 3))) a rfl)
    have hml : 0 + l.length ≤ maxLen := by unfold maxLen; omega
    have q22 : ∀ (w : World) (a : Option Addr) (n c n' c' : Nat), (binOp .eql 23 (.slice a n c) (.slice none n' c')).run Try.prog w = .ok (.bool a.isNone) w := fun w a n c n' c' => Lib.run_eql_slice_nil w _ _ a n c n' c' Try.underlying23
    clear h
    go_enter Try.func41, Try.ntmps41
    go_wp2_with (at_builtin; refine wpList_append_own _ rfl _ _ 23 rfl w.heap.size 3 i0 (.int .i64 0) 1 8 Try.underlying23 hi hz0 hz1 hz2 rfl (by decide) _ _ _ rfl (own_empty w w.heap.size (Nat.le_refl _) 3 1) a l.length c (ints l) rfl (by simp [ints]) HS.out (ints_one l) hml (by omega) (by simp) ?_; intro v' w1 ho hg _; have HO := Lib.hid ho; have HG := Lib.hid hg; clear ho hg)
    go_ret
    exact ⟨_, rfl, own_cast HO.out (by simp) (by simp), ((Below.refl _ _).alloc (Nat.le_refl _) _).grown HG.out (by simp) (fun k e => (World.ownsRow.lt (own_empty w w.heap.size (Nat.le_refl _) 3 1) k e).1)⟩
set_option maxRecDepth 100000 in
set_option maxHeartbeats 1000000 in
theorem clone44 (l : List I6) (p : Option Addr) (c : Nat) (w : World) (h : RI w p c l) (hl : l.length ≤ 1000) : Calls Try.prog 44 #[.slice p l.length c] w (OP 54 6 w l.length (flat6 l)) := by
  obtain ⟨i0, hi, hz0, hz1, hz2⟩ := info_parts info54
  cases p with
  | none =>
    have hc := h.nl rfl
    have hle := h.le
    obtain rfl := List.eq_nil_of_length_eq_zero (show l.length = 0 by omega)
    refine (AnyE.slices_Clone_nil Try.clone44 0 c w).mono ?_
    rintro e w' ⟨rfl, rfl⟩
    exact ⟨_, rfl, World.ownsRow_nil _ _ _ _, BK.refl _⟩
  | some a =>
    have HS := Lib.hid (ri_src (h.keep (bk_alloc (BK.refl w) (.cells #[] 54))) a rfl)
    have hml : 0 + l.length ≤ maxLen := by unfold maxLen; omega
    have q22 : ∀ (w : World) (a : Option Addr) (n c n' c' : Nat), (binOp .eql 22 (.slice a n c) (.slice none n' c')).run Try.prog w = .ok (.bool a.isNone) w := fun w a n c n' c' => Lib.run_eql_slice_nil w _ _ a n c n' c' Try.underlying22
    clear h
    go_enter Try.func44, Try.ntmps44
    go_wp2_with (at_builtin; refine wpList_append_own _ rfl _ _ 22 rfl w.heap.size 54 i0 _ 6 48 Try.underlying22 hi hz0 hz1 hz2 rfl (by decide) _ _ _ rfl (own_empty w w.heap.size (Nat.le_refl _) 54 6) a l.length c (flat6 l) rfl (flat6_len l) HS.out (flat6_one l) hml (by omega) (by simp) ?_; intro v' w1 ho hg _; have HO := Lib.hid ho; have HG := Lib.hid hg; clear ho hg)
    go_ret
    exact ⟨_, rfl, own_cast HO.out (by simp) (by simp), ((Below.refl _ _).alloc (Nat.le_refl _) _).grown HG.out (by simp) (fun k e => (World.ownsRow.lt (own_empty w w.heap.size (Nat.le_refl _) 54 6) k e).1)⟩
end Go.Proofs.Ytjmmaaphadeokaa
