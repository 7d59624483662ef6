/- Initial values that agree on the live registers. -/
import Derived.Test.YtjmmaaphadeokaaZE
import Derived.Test.YtjmmaaphadeokaaUC
import Derived.Test.YtjmmaaphadeokaaUD
import Derived.Test.YtjmmaaphadeokaaRC
import Derived.Test.YtjmmaaphadeokaaRD
import Derived.Test.YtjmmaaphadeokaaRL
namespace Go.Proofs.Ytjmmaaphadeokaa
open Go.RowKit
set_option linter.unusedVariables false
set_option linter.unusedSimpArgs false
theorem Vd.rg {w regs : Int} {ins : List I6} {out : List Int} (h : Vd w regs ins out) : ∀ i ∈ ins, Rg i := fun i hi => by
  have h1 := insE_opB (h.fe i hi)
  have h2 := insE_regB (h.fe i hi)
  have hr := h.r2
  have hq := h.r1
  have hv := h.iv i hi
  have h1' := h1
  unfold opB at h1
  have h3 := of_decide_eq_true h1
  have hb : 2 ≤ i.op → i.op ≤ 4 → i.b = 0 := fun ha hb => by
    have hj := h.fe i hi
    have e : srcs i.op = 1 := by
      unfold srcs
      repeat' split
      all_goals omega
    unfold insE at hj
    rw [h1', if_neg (by simp), h2, if_neg (by simp)] at hj
    by_cases hx : i.op = 1 ∧ maskI w < i.imm
    · omega
    · rw [if_neg hx] at hj
      by_cases hk : junkB i = true
      · rw [if_pos hk] at hj; omega
      · unfold junkB at hk
        rw [e] at hk
        simp at hk
        exact hk.1.2
  exact ⟨fun ho => hv.dst (decide_eq_true ⟨ho, h3.2⟩), fun ho => by
      by_cases h4 : i.op ≤ 4
      · exact hv.src _ (src1 ho h4)
      · by_cases h9 : i.op = 19
        · exact hv.src _ (src3 h9).1
        · exact hv.src _ (src2 (by omega) (by omega)).1, fun ho => by
      by_cases h4 : i.op ≤ 4
      · rw [hb ho h4]; omega
      · by_cases h9 : i.op = 19
        · exact hv.src _ (src3 h9).2.1
        · exact hv.src _ (src2 (by omega) (by omega)).2, fun ho => hv.src _ (src3 ho).2.2, h3.1, h3.2⟩
/-- t, but on L what s holds -/
def mixL (s t : List Int) (L : List Int) : List Int := L.foldl (fun u r => u.set r.toNat (gR s r)) t
theorem mixL_len (s t : List Int) : ∀ L : List Int, (mixL s t L).length = t.length := by
  intro L
  unfold mixL
  induction L generalizing t with
  | nil => rfl
  | cons r L ih => rw [List.foldl_cons, ih]; simp
theorem mixL_snoc (s t L : List Int) (r : Nat) (h : r < s.length) : (mixL s t L).set r s[r] = mixL s t (L ++ [(r : Int)]) := by
  unfold mixL
  rw [List.foldl_append, List.foldl_cons, List.foldl_nil, gR_nat r h]; simp
theorem mixL_get (s t : List Int) (ht : t.length = 8) (L : List Int) (hL : ∀ y ∈ L, 0 ≤ y ∧ y < 8) {r : Int} (r0 : 0 ≤ r) (r1 : r < 8) (hr : r ∈ L) : gR (mixL s t L) r = gR s r := by
  have key : ∀ (L : List Int) (t : List Int), t.length = 8 → (∀ y ∈ L, 0 ≤ y ∧ y < 8) → (r ∈ L ∨ gR t r = gR s r) → gR (mixL s t L) r = gR s r := by
    intro L
    induction L with
    | nil => intro t _ _ h; exact h.elim (fun h => by cases h) id
    | cons y L ih =>
      intro t ht hL h
      have hy := hL y (by simp)
      have e : mixL s t (y :: L) = mixL s (sR t y (gR s y)) L := rfl
      rw [e]
      refine ih _ (by rw [sR_len, ht]) (fun z hz => hL z (List.mem_cons_of_mem _ hz)) ?_
      by_cases h2 : r ∈ L
      · exact .inl h2
      · right
        rw [gR_sR hy.1 hy.2 ht r0 r1]
        by_cases e2 : r = y
        · rw [if_pos e2, e2]
        · rw [if_neg e2]
          exact h.elim (fun h => absurd (List.mem_cons.1 h) (fun h => h.elim e2 h2)) id
  exact key L t ht hL (.inl hr)
theorem gR_cut (W : Int) (s : List Int) {r : Int} (r0 : 0 ≤ r) (h : r.toNat < s.length) : gR (cutS W s) r = cutV W (gR s r) := by
  unfold gR cutS
  simp [List.getD_eq_getElem?_getD, h]
theorem cutS_len (W : Int) (s : List Int) : (cutS W s).length = s.length := by simp [cutS]
theorem live_in {W R : Int} {ins : List I6} {out : List Int} (h : Vd W R ins out) : ∀ y ∈ inpL W R ins out, 0 ≤ y ∧ y < R := fun y hy => by
  unfold inpL at hy
  rw [if_pos (chk_zero.2 h)] at hy
  unfold liveL at hy
  obtain ⟨x, hx, rfl⟩ := List.mem_map.1 hy
  exact used_in h (List.mem_filter.1 hx).2
theorem live_has {W R : Int} {ins : List I6} {out : List Int} (h : Vd W R ins out) {r : Int} (r0 : 0 ≤ r) (r1 : r < 8) (hu : usedB ins out r = true) : r ∈ inpL W R ins out := by
  unfold inpL
  rw [if_pos (chk_zero.2 h)]
  unfold liveL
  exact List.mem_map.2 ⟨r.toNat, List.mem_filter.2 ⟨List.mem_range.2 (by omega), by rw [Int.toNat_of_nonneg r0]; exact hu⟩, by omega⟩
theorem inp_len8 (W R : Int) (ins : List I6) (out : List Int) : (inpL W R ins out).length ≤ 8 := by
  unfold inpL
  split
  · exact liveL_len 8 _ _
  · simp
theorem eqL_own (l : List Int) : eqL l l = true := decide_eq_true rfl
/-- the law, pure -/
theorem inputs_pure {W R : Int} {ins : List I6} {out : List Int} (h : Vd W R ins out) {s t x : List Int} (hs : s.length = 8) (ht : t.length = 8) (hx : runM (valV W) ins (cutS W s) = some x) :
    ∃ y, runM (valV W) ins (cutS W (mixL s t (inpL W R ins out))) = some y ∧ ∀ r ∈ out, gR x r = gR y r := by
  obtain ⟨y, h1, h2⟩ := runM_agr (valV_one W) out h.iv (s := cutS W s) (t := cutS W (mixL s t (inpL W R ins out))) (by rw [cutS_len, hs]) (by rw [cutS_len, mixL_len, ht]) (fun r r0 r1 hu => by
    rw [gR_cut W s r0 (by omega), gR_cut W _ r0 (by rw [mixL_len]; omega), mixL_get s t ht _ (fun y hy => by have := live_in h y hy; have := h.r2; omega) r0 r1 (live_has h r0 r1 hu)]) hx
  refine ⟨y, h1, fun r hr => ?_⟩
  have := h.oin r hr
  have := h.r2
  exact h2 r (by omega) (by omega) (hasB_mem.2 hr)
/-- Run, in one line -/
def RunQ (W : Int) (ins : List I6) (s : List Int) (w : World) (e : Ending) (w' : World) : Prop :=
  ∃ x : List Int, x.length = 8 ∧ (∀ y, runM (valV W) ins (cutS W s) = some y → x = y) ∧ e = .returned (.tuple #[.agg (ua x), .bool (runM (valV W) ins (cutS W s)).isSome]) ∧ BK w w'
theorem runQ {W : Int} {ins : List I6} {s : List Int} {w : World} {e : Ending} {w' : World} (h : RunP W ins s w e w') : RunQ W ins s w e w' := by
  obtain ⟨hb, ⟨x, h1, h2, rfl⟩ | ⟨h2, x, h1, rfl⟩⟩ := h
  · exact ⟨x, h1, (fun y hy => by rw [h2] at hy; exact Option.some.inj hy), by rw [h2]; rfl, hb⟩
  · exact ⟨x, h1, (fun y hy => by rw [h2] at hy; cases hy), by rw [h2]; rfl, hb⟩
section
variable {H : Type} {enc : TypeId × Value → H} {w : World} {base : Nat} {sp : Nat → Bool} {held : Bool}
theorem u64s_array {n : Nat} {t : TypeId} {fuel : Nat} {cs : List Value} {x : DataW H × List MemPlace} (ht : Try.prog.underlying t = some (.array n 44)) (hc : Try.prog.cellsOf t = n) (c44 : Try.prog.cellsOf 44 = 1) (h : DataW.trod enc Try.prog w base sp held fuel t cs = some x) : ∃ zs : List Int, zs.length = n ∧ cs = zs.map (Value.int .u64) ∧ ∀ z ∈ zs, (Lit.int .u64 z).wf = true := by
  obtain ⟨xs, m, _, _, hlen, _, hf⟩ := DataW.trod_array ht h
  rw [hc] at hlen
  have key : ∀ i, i < n → ∃ z : Int, cs[i]? = some (.int .u64 z) ∧ (Lit.int .u64 z).wf = true := fun i hi => by
    have h1 := hf i hi
    rw [c44, List.getElem?_eq_getElem (by omega)] at h1
    obtain ⟨z, h2, _, hw⟩ := DataW.trod_int Try.underlying44 h1
    refine ⟨z, ?_, hw⟩
    have h3 := congrArg (fun l => l[0]?) h2
    simpa [List.getElem?_take, List.getElem?_drop] using h3
  have key2 : ∀ i, ∃ z : Int, i < n → cs[i]? = some (.int .u64 z) ∧ (Lit.int .u64 z).wf = true := fun i => by
    by_cases hi : i < n
    · obtain ⟨z, hz⟩ := key i hi
      exact ⟨z, fun _ => hz⟩
    · exact ⟨0, fun h => absurd h hi⟩
  refine ⟨(List.range n).map fun i => (key2 i).choose, by simp, ?_, ?_⟩
  · apply List.ext_getElem?
    intro i
    by_cases hi : i < n
    · rw [((key2 i).choose_spec hi).1]; simp [hi]
    · rw [List.getElem?_eq_none (by omega), List.getElem?_eq_none (by simp; omega)]
  · intro z hz
    simp only [List.mem_map, List.mem_range] at hz
    obtain ⟨i, hi, rfl⟩ := hz
    exact ((key2 i).choose_spec hi).2
set_option maxRecDepth 100000 in
theorem open_regs {r : Reach} {b0 : Nat} {v : Value} {d : DataW H} {p : List MemPlace} (hv : Value.okWide Try.prog w r b0 45 v) (h : DataW.Trod enc Try.prog w base sp held 45 v d p) : ∃ s : List Int, s.length = 8 ∧ v = .agg (ua s) := by
  obtain ⟨cs, rfl, hsz⟩ := okWide_array Try.underlying45 hv
  obtain ⟨fuel, hf⟩ := h
  obtain ⟨zs, hl, he, hw⟩ := u64s_array (cs := cs.toList) Try.underlying45 (by kernel_rfl) (by kernel_rfl) hf
  have e : cs = ua zs := by
    apply Array.ext'
    rw [he]
    unfold ua
    rfl
  exact ⟨zs, hl, by rw [e]⟩
end
end Go.Proofs.Ytjmmaaphadeokaa
