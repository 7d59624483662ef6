/- Equal lists; the reference on instructions: the parts. -/
import Derived.Test.YtjmmaaphadeokaaUB
namespace Go.Proofs.Ytjmmaaphadeokaa
open Go.RowKit Go.Shelf
set_option linter.unusedVariables false
set_option linter.unusedSimpArgs false
theorem in50' (r R : Int) (w : World) : Calls Try.prog 50 #[.int .i64 r, .int .i64 R] w fun e w' => e = .returned (.bool (inB R r)) ∧ w' = w := (in50 r R w).mono fun _ _ ⟨a, b⟩ => ⟨a, b.symm⟩
theorem mask62' (W : Int) (h1 : 1 ≤ W) (h2 : W ≤ 64) (w : World) : Calls Try.prog 62 #[.int .i64 W] w fun e w' => e = .returned (.int .u64 (maskI W)) ∧ w' = w := (mask62 W h1 h2 w).mono fun _ _ ⟨a, b⟩ => ⟨a, b.symm⟩
/-! equal lists -/
def eqL (l m : List Int) : Bool := decide (l = m)
def EqTo (l m : List Int) (k : Nat) : Prop := l.take k = m.take k
theorem eqto_snoc {l m : List Int} {k : Nat} (h1 : k < l.length) (h2 : k < m.length) (h : EqTo l m k) (e : l[k] = m[k]) : EqTo l m (k + 1) := by
  unfold EqTo at *
  rw [List.take_succ_eq_append_getElem h1, List.take_succ_eq_append_getElem h2, h, e]
theorem eql_no {l m : List Int} {k : Nat} (h1 : k < l.length) (h2 : k < m.length) (e : ¬ l[k] = m[k]) : eqL l m = false := by
  unfold eqL; apply decide_eq_false; intro h; subst h; exact e rfl
set_option maxHeartbeats 1000000 in
theorem same14 (l m : List Int) (p q : Option Addr) (c d : Nat) (w : World) (h : RO w p c l) (h' : RO w q d m) (hl : l.length ≤ 100000) (hm : m.length ≤ 100000) :
    Calls Try.prog 14 #[.slice p l.length c, .slice q m.length d] w fun e w' => e = .returned (.bool (eqL l m)) ∧ BK w w' := by
  by_cases hne : l.length = m.length
  · have HN := Lib.hid hne
    have hb : ((l.length : Int) != (m.length : Int)) = false := by rw [hne]; simp
    have HR := Lib.hid h
    have HR' := Lib.hid h'
    clear h h' hne
    go_enter Try.func14, Try.ntmps14
    go_wp2_with fail
    go_loopw [5] (fun i wr => ∃ k : Nat, k ≤ l.length ∧ i = .int .i64 k ∧ EqTo l m k ∧ BK w wr) (fun i _ => l.length - (intOf i).toNat)
    case atStart => exact ⟨0, Nat.zero_le _, rfl, by unfold EqTo; simp, BK.refl _⟩
    case round =>
      obtain ⟨k, hk, rfl, hs, hkw⟩ := hrel
      have HS := Lib.hid hs
      have HK := Lib.hid hkw
      by_cases hlt : k < l.length
      · have hlt2 : k < m.length := by have := HN.out; omega
        obtain ⟨b, o, rfl, hc⟩ := (HR.out.keep hkw).get k hlt
        obtain ⟨b', o', rfl, hc'⟩ := (HR'.out.keep hkw).get k hlt2
        have HY := Lib.hid (fun e => eqto_snoc hlt hlt2 HS.out e)
        have HNo := Lib.hid (fun e => eql_no (l := l) (m := m) hlt hlt2 e)
        clear hs hkw
        generalize l[k] = x at hc HY HNo
        generalize m[k] = y at hc' HY HNo
        by_cases hxy : x = y
        · have H1 := Lib.hid (HY.out hxy)
          subst hxy
          go_wp2_with fail
          go_quiet (fail)
          go_wp2_with fail
          go_roundw
          case rel => exact ⟨k + 1, by omega, by go_num, H1.out, bk_drewN HK.out _⟩
          case measure => simp [intOf]; omega
        · have H1 := Lib.hid (HNo.out hxy)
          have hd : (x != y) = true := by simpa using hxy
          clear hxy
          go_wp2_with fail
          go_quiet (fail)
          go_wp2_with fail
          go_ret
          exact ⟨ret_bool H1.out.symm, bk_drewN HK.out _⟩
      · obtain rfl : k = l.length := by omega
        clear hs hkw
        go_wp2_with fail
        go_ret
        refine ⟨ret_bool ?_, HK.out⟩
        have h := HS.out
        unfold EqTo at h
        rw [List.take_length, HN.out, List.take_length] at h
        unfold eqL; symm; exact decide_eq_true h
  · have hb : ((l.length : Int) != (m.length : Int)) = true := by simp; omega
    have HE := Lib.hid (show eqL l m = false from by unfold eqL; apply decide_eq_false; intro h; exact hne (by rw [h]))
    clear hne
    go_enter Try.func14, Try.ntmps14
    go_wp2_with fail
    go_ret
    exact ⟨ret_bool HE.out.symm, BK.refl _⟩
/-! the reference's check of an instruction -/
theorem us_get (i : I6) (n : Nat) (h : srcs i.op = n) (h3 : n ≤ 3) (k : Nat) (hk : k < n) : ∃ h1 : k < (usesL i).length, ∃ h2 : k < [i.a, i.b, i.c].length, (usesL i)[k] = [i.a, i.b, i.c][k] := by
  have e := usesL_n i n h
  refine ⟨by rw [e]; simp; omega, by simp; omega, ?_⟩
  simp [e]
def ZTo (i : I6) (n k : Nat) : Prop := ∀ j (h : j < [i.a, i.b, i.c].length), n ≤ j → j < k → [i.a, i.b, i.c][j] = 0
theorem zto_snoc {i : I6} {n k : Nat} (hk : k < [i.a, i.b, i.c].length) (h : ZTo i n k) (e : [i.a, i.b, i.c][k] = 0) : ZTo i n (k + 1) := by
  intro j hj h1 h2
  by_cases e2 : j = k
  · subst e2; exact e
  · exact h j hj h1 (by omega)
def headJ (i : I6) : Bool := (decide (i.op = 0) && decide (i.dst ≠ 0)) || (decide (i.op ≠ 1) && decide (i.imm ≠ 0))
theorem junk_head {i : I6} (h : headJ i = true) : junkB i = true := by
  unfold headJ at h
  unfold junkB
  rw [h]; rfl
theorem junk_tail {i : I6} {n k : Nat} (hs : srcs i.op = n) (hk : k < [i.a, i.b, i.c].length) (hn : n ≤ k) (e : ¬ [i.a, i.b, i.c][k] = 0) : junkB i = true := by
  unfold junkB
  rw [hs]
  match k, hk with
  | 0, _ => have e : ¬ i.a = 0 := e; simp [e]; left; left; right; omega
  | 1, _ => have e : ¬ i.b = 0 := e; simp [e]; left; right; omega
  | 2, _ => have e : ¬ i.c = 0 := e; simp [e]; right; omega
theorem junk_no {i : I6} {n : Nat} (hs : srcs i.op = n) (h : headJ i = false) (hz : ZTo i n 3) : junkB i = false := by
  unfold headJ at h
  unfold junkB
  rw [h, hs]
  have z0 := hz 0 (by simp)
  have z1 := hz 1 (by simp)
  have z2 := hz 2 (by simp)
  simp only [List.getElem_cons_zero, List.getElem_cons_succ] at z0 z1 z2
  simp only [Bool.false_or, Bool.or_eq_false_iff, Bool.and_eq_false_iff, decide_eq_false_iff_not]
  refine ⟨⟨?_, ?_⟩, ?_⟩
  · by_cases e : n = 0
    · right; have := z0 (by omega) (by omega); omega
    · left; omega
  · by_cases e : n ≤ 1
    · right; have := z1 (by omega) (by omega); omega
    · left; omega
  · by_cases e : n ≤ 2
    · right; have := z2 (by omega) (by omega); omega
    · left; omega
theorem ro_full (w : World) (x y z : Int) : RO (w.alloc (.cells #[.int .i64 x, .int .i64 y, .int .i64 z] 3)) (some ⟨w.heap.size, 0, none⟩) 3 [x, y, z] := ro_three w x y z 3 (Nat.le_refl _)
end Go.Proofs.Ytjmmaaphadeokaa
