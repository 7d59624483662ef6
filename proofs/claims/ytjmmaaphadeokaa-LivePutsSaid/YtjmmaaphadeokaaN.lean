/- Sets of registers. -/
import Derived.Test.YtjmmaaphadeokaaM
import Derived.Laws.Tables
import Derived.Laws.CopyOwn
namespace Go.Proofs.Ytjmmaaphadeokaa
open Go.RowKit
set_option linter.unusedVariables false
set_option linter.unusedSimpArgs false
def ba (s : List Bool) : Array Value := (s.map Value.bool).toArray
theorem ba_size (s : List Bool) : (ba s).size = s.length := by simp [ba]
theorem ba_get (s : List Bool) (k : Nat) (h : k < s.length) : (ba s)[k]? = some (.bool s[k]) := by simp [ba, h]
theorem ba_set (s : List Bool) (j : Nat) (x : Bool) : (ba s).setIfInBounds j (.bool x) = ba (s.set j x) := by simp [ba, List.map_set]
theorem ba_one (s : List Bool) : (ba s).all (·.oneCell') = true := by
  rw [Array.all_eq_true_iff_forall_mem]; intro v hv; simp [ba] at hv
  rcases hv with ⟨_, rfl⟩ | ⟨_, rfl⟩ <;> rfl
def SH (w : World) (b : Nat) (s : List Bool) : Prop := w.heap[b]? = some (.cells (ba s) 58 (0, 0))
theorem SH.lt {w : World} {b : Nat} {s : List Bool} (h : SH w b s) : b < w.heap.size := (Array.getElem?_eq_some_iff.1 h).1
theorem SH.keep {w w' : World} {b : Nat} {s : List Bool} (h : SH w b s) (hb : BK w w') : SH w' b s := (bk_block hb h.lt).trans h
theorem SH.other {w : World} {b : Nat} {s : List Bool} (h : SH w b s) (p : Addr) (u : Value) (hp : b ≠ p.block) : SH (w.setCell p u) b s := (Below.heap_setCell w p u b hp).trans h
theorem SH.set {w : World} {b : Nat} {s : List Bool} (h : SH w b s) (j : Nat) (x : Bool) : SH (w.setCell ⟨b, j, none⟩ (.bool x)) b (s.set j x) := by
  unfold SH
  rw [heap_setCell_same w b j (ba s) 58 (.bool x) h, ba_set]
theorem SH.cell {w : World} {b : Nat} {s : List Bool} (h : SH w b s) (j : Nat) (hj : j < s.length) : w.cell? ⟨b, j, none⟩ = some (.bool s[j]) := by
  rw [cell_of_row w _ _ _ _ _ h]; exact ba_get s j hj
theorem SH.frozen {w : World} {b : Nat} {s : List Bool} (h : SH w b s) (j : Nat) : w.frozen? ⟨b, j, none⟩ = false := by simp [World.frozen?, show w.heap[b]? = _ from h]
theorem SH.new (w : World) (s : List Bool) : SH (w.alloc (.cells (ba s) 58)) w.heap.size s := heap_alloc_new w _
theorem SH.old {w : World} {b : Nat} {s : List Bool} (h : SH w b s) (o : Obj) : SH (w.alloc o) b s := (heap_alloc_old w o h.lt).trans h
theorem SH.row {w : World} {b : Nat} {s s' : List Bool} (h : SH w b s) : SH (w.setRow b (ba s')) b s' := setRow_heap w b (ba s) (ba s') 58 (0, 0) h
/-- the set of a list's registers -/
def hvL (l : List Int) : List Bool := (List.range 8).map (fun r : Nat => hasB l r)
theorem hvL_len (l : List Int) : (hvL l).length = 8 := by simp [hvL]
theorem map8 (f g : Nat → Bool) (h : ∀ r, r < 8 → f r = g r) : (List.range 8).map f = (List.range 8).map g :=
  List.map_congr_left fun r hr => h r (by simpa using hr)
theorem set8 (f : Nat → Bool) (a : Nat) (x : Bool) (h : a < 8) : ((List.range 8).map f).set a x = (List.range 8).map (fun r => if r = a then x else f r) := by
  apply List.ext_getElem
  · simp
  · intro j h1 h2
    rw [List.getElem_set]
    simp only [List.getElem_map, List.getElem_range]
    by_cases e : a = j
    · subst e; simp
    · rw [if_neg e, if_neg (fun h => e h.symm)]
theorem hvL_snoc (l : List Int) (a : Nat) (h : a < 8) : (hvL l).set a true = hvL (l ++ [(a : Int)]) := by
  unfold hvL
  rw [set8 _ _ _ h]
  refine map8 _ _ fun r hr => ?_
  by_cases e : r = a
  · subst e; rw [if_pos rfl]; symm; rw [hasB_mem]; simp
  · rw [if_neg e, Bool.eq_iff_iff, hasB_mem, hasB_mem]
    simp only [List.mem_append, List.mem_singleton]
    constructor
    · exact .inl
    · rintro (h | h)
      · exact h
      · omega
theorem zeros58 : ba (hvL []) = #[.bool false, .bool false, .bool false, .bool false, .bool false, .bool false, .bool false, .bool false] := rfl
theorem get8 (f : Nat → Bool) (a : Nat) (h : a < ((List.range 8).map f).length) : ((List.range 8).map f)[a] = f a := by simp
set_option maxRecDepth 100000 in
set_option maxHeartbeats 1000000 in
theorem set36 (l : List Int) (p : Option Addr) (c : Nat) (w : World) (h : RO w p c l) (hin : ∀ x ∈ l, 0 ≤ x ∧ x < 8) (hl : l.length ≤ 1000) :
    Calls Try.prog 36 #[.slice p l.length c] w fun e w' => e = .returned (.agg (ba (hvL l))) ∧ BK w w' := by
  have h0 := (SH.new w (hvL [])).old (.cells (ba (hvL [])) 58)
  have h1 := SH.new (w.alloc (.cells (ba (hvL [])) 58)) (hvL [])
  rw [sz1] at h1
  have hk := bk_alloc (bk_alloc (BK.refl w) (.cells (ba (hvL [])) 58)) (.cells (ba (hvL [])) 58)
  have HR := Lib.hid h
  have HI := Lib.hid hin
  clear h hin
  go_enter Try.func36, Try.ntmps36
  go_wp2_with fail
  rw [← zeros58]
  generalize (w.alloc (.cells (ba (hvL [])) 58)).alloc (.cells (ba (hvL [])) 58) = w0 at h0 h1 hk ⊢
  have H0 := Lib.hid h0
  have H1 := Lib.hid h1
  have HK := Lib.hid hk
  clear h0 h1 hk
  go_loopw [8] (fun i wr => ∃ k : Nat, k ≤ l.length ∧ i = .int .i64 k ∧ SH wr w.heap.size (hvL []) ∧ SH wr (w.heap.size + 1) (hvL (l.take k)) ∧ BK w wr) (fun i _ => l.length - (intOf i).toNat)
  case atStart => exact ⟨0, Nat.zero_le _, rfl, H0.out, H1.out, HK.out⟩
  case round =>
    obtain ⟨k, hk, rfl, s0, s1, hkw⟩ := hrel
    have S0 := Lib.hid s0
    have S1 := Lib.hid s1
    have HKW := Lib.hid hkw
    clear s0 s1
    by_cases hlt : k < l.length
    · obtain ⟨b, o, rfl, hc⟩ := (HR.out.keep hkw).get k hlt
      have hy := HI.out l[k] (List.getElem_mem hlt)
      have hsn := List.take_succ_eq_append_getElem hlt
      clear hkw
      generalize l[k] = y at hc hy hsn
      obtain ⟨a, rfl⟩ : ∃ a : Nat, y = a := ⟨y.toNat, by omega⟩
      have ha8 : a < 8 := by omega
      have HS := Lib.hid (S1.out.set a true)
      rw [hvL_snoc _ _ ha8, ← hsn] at HS
      have e1 := S1.out.cell a (by rw [hvL_len]; exact ha8)
      have f1 := S1.out.frozen a
      have hi0 : (0 : Int) ≤ a := by omega
      have hi1 : (a : Int) < 8 := by omega
      clear hsn hy
      generalize (hvL (l.take k))[a]'(by rw [hvL_len]; exact ha8) = z at e1
      go_wp2_with fail
      go_roundw
      case rel => exact ⟨k + 1, by omega, by go_num, S0.out.other _ _ (by show w.heap.size ≠ w.heap.size + 1; omega), HS.out, bk_set HKW.out _ _ (by show w.heap.size ≤ w.heap.size + 1; omega)⟩
      case measure => simp [intOf]; omega
    · obtain rfl : k = l.length := by omega
      rw [List.take_length] at S1
      have HS := Lib.hid (S0.out.row (s' := hvL l))
      clear hkw
      go_upto_region 7 with (fail)
      refine wp_region_lit ?_
      refine wpList_load_row rfl 58 _ rfl (w.heap.size + 1) rfl 58 (ba (hvL l)) (0, 0) _ S1.out Try.underlying58 rfl (by rw [ba_size, hvL_len]; kernel_rfl) ?_
      refine wpList_store_row rfl 58 _ _ rfl w.heap.size (ba (hvL l)) rfl rfl 58 (ba (hvL [])) S0.out (by rw [ba_size, hvL_len]; kernel_rfl) (by rw [ba_size, ba_size, hvL_len, hvL_len]) (ba_one _) ?_
      go_wp2_with fail
      refine bodyPost_ret (v := .agg (ba (hvL l))) (results_cell_row Try.results36 _ _ w.heap.size 58 (ba (hvL l)) (0, 0) _ rfl HS.out Try.underlying58 rfl (by rw [ba_size, hvL_len]; kernel_rfl)) rfl ⟨rfl, below_setRow (show Below w.heap.size w wr from HKW.out) (Nat.le_refl _) _⟩
end Go.Proofs.Ytjmmaaphadeokaa
