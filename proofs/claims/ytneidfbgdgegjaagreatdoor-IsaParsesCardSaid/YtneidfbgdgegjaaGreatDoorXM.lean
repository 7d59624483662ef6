/- The law Prints, and what it calls: Clone, Equal, Same, Copy, the reference's Print. -/
import Derived.Test.YtneidfbgdgegjaaGreatDoorWL
import Derived.Test.YtneidfbgdgegjaaGreatDoorRX
import Derived.Test.YtneidfbgdgegjaaGreatDoorLJ
import Derived.Test.YtneidfbgdgegjaaGreatDoorDL
namespace Go.Proofs.YtneidfbgdgegjaaGreatDoor
open Go.RowKit Go.Shelf
set_option linter.unusedVariables false
set_option linter.unusedSimpArgs false
/-! part VC -/
def OP (e6 sz : Nat) (w : World) (n : Nat) (xs : List Value) (e : Ending) (w' : World) : Prop := ∃ v, e = .returned v ∧ w'.ownsRow w.heap.size e6 sz v n xs ∧ BK w w'
theorem ro_cells {w : World} {b o c : Nat} {l : List Int} (h : RO w (some ⟨b, o, none⟩) c l) : ∀ j u, (ints l)[j]? = some u → w.cell? ((⟨b, o, none⟩ : Addr).add j) = some u := by
  intro j u hu
  have hj : j < l.length := by have := (List.getElem?_eq_some_iff.1 hu).1; simpa [ints] using this
  obtain ⟨b', o', he, hc⟩ := h.get j hj
  simp only [Option.some.injEq, Addr.mk.injEq, and_true] at he
  obtain ⟨rfl, rfl⟩ := he
  rw [show (⟨b, o, none⟩ : Addr).add j = ⟨b, o + j, none⟩ from Go.WideShapes.add_plain _ _ _, hc, ← hu]
  simp [ints, hj]
theorem ri_cells {w : World} {b o c : Nat} {l : List I6} (h : RI w (some ⟨b, o, none⟩) c l) : ∀ j u, (flat6 l)[j]? = some u → w.cell? ((⟨b, o, none⟩ : Addr).add j) = some u := by
  intro j u hu
  have hj : j < l.length * 6 := by have := (List.getElem?_eq_some_iff.1 hu).1; rwa [flat6_len] at this
  obtain ⟨b', o', he, hc⟩ := h.get (j / 6) (by omega)
  simp only [Option.some.injEq, Addr.mk.injEq, and_true] at he
  obtain ⟨rfl, rfl⟩ := he
  have hg := flat6_get l (j / 6) (by omega) (j % 6) (by omega)
  rw [show j / 6 * 6 + j % 6 = j by omega, hu] at hg
  rw [show (⟨b, o, none⟩ : Addr).add j = ⟨b, o + j, none⟩ from Go.WideShapes.add_plain _ _ _, show o + j = o + j / 6 * 6 + j % 6 by omega]
  obtain ⟨c0, c1, c2, c3, c4, c5⟩ := hc
  generalize l[j / 6]'(by omega) = i at hg c0 c1 c2 c3 c4 c5
  have h6 : j % 6 < 6 := by omega
  generalize j % 6 = r at hg h6
  match r, h6 with
  | 0, _ => simp [cells6] at hg; rw [hg]; exact c0
  | 1, _ => simp [cells6] at hg; rw [hg]; exact c1
  | 2, _ => simp [cells6] at hg; rw [hg]; exact c2
  | 3, _ => simp [cells6] at hg; rw [hg]; exact c3
  | 4, _ => simp [cells6] at hg; rw [hg]; exact c4
  | 5, _ => simp [cells6] at hg; rw [hg]; exact c5
theorem flat6_one (l : List I6) : ∀ u ∈ flat6 l, u.oneCell' = true := by
  intro u hu
  simp only [flat6, List.mem_flatMap] at hu
  obtain ⟨i, _, hu⟩ := hu
  simp [cells6] at hu
  rcases hu with rfl | rfl | rfl | rfl | rfl | rfl <;> rfl
theorem own_empty (w : World) (B : Nat) (hB : B ≤ w.heap.size) (e sz : Nat) : (w.alloc (.cells #[] e)).ownsRow B e sz (.slice (some ⟨w.heap.size, 0, none⟩) 0 0) 0 [] :=
  ⟨by simp, .inr ⟨w.heap.size, 0, #[], rfl, hB, heap_alloc_new w _, Nat.le_refl _, Nat.zero_le _, by simp, by simp⟩⟩
/-- the cells that an append copies -/
def SrcC (w : World) (p : Option Addr) (xs : List Value) : Prop := ∀ ad, p = some ad → ∀ j u, xs[j]? = some u → w.cell? (ad.add j) = some u
theorem ro_src {w : World} {p : Option Addr} {c : Nat} {l : List Int} (h : RO w p c l) : SrcC w p (ints l) := by
  rintro ad rfl j u hu
  have hj : 0 < l.length := by have := (List.getElem?_eq_some_iff.1 hu).1; simp [ints] at this; omega
  obtain ⟨b, o, he, _⟩ := h.get 0 hj
  obtain rfl : ad = ⟨b, o, none⟩ := by simpa using he
  exact ro_cells h j u hu
theorem ri_src {w : World} {p : Option Addr} {c : Nat} {l : List I6} (h : RI w p c l) : SrcC w p (flat6 l) := by
  rintro ad rfl j u hu
  have hj : 0 < l.length := by have := (List.getElem?_eq_some_iff.1 hu).1; rw [flat6_len] at this; omega
  obtain ⟨b, o, he, _⟩ := h.get 0 hj
  obtain rfl : ad = ⟨b, o, none⟩ := by simpa using he
  exact ri_cells h j u hu
theorem ints_one (l : List Int) : ∀ u ∈ ints l, u.oneCell' = true := by intro u hu; simp [ints] at hu; obtain ⟨x, _, rfl⟩ := hu; rfl
set_option maxRecDepth 100000 in
set_option maxHeartbeats 1000000 in
theorem clone45 (l : List Int) (p : Option Addr) (c : Nat) (w : World) (h : RO w p c l) (hl : l.length ≤ 1000) : Calls Tryz.prog 45 #[.slice p l.length c] w (OP 3 1 w l.length (ints l)) := by
  obtain ⟨i0, hi, hz0, hz1, hz2⟩ := info_parts info3
  cases p with
  | none =>
    have hc := h.nl rfl
    have hle := h.le
    obtain rfl := List.eq_nil_of_length_eq_zero (show l.length = 0 by omega)
    have q22 : ∀ (w : World) (a : Option Addr) (n c n' c' : Nat), (binOp .eql 32 (.slice a n c) (.slice none n' c')).run Tryz.prog w = .ok (.bool a.isNone) w := fun w a n c n' c' => Lib.run_eql_slice_nil w _ _ a n c n' c' Tryz.underlying32
    clear h hle
    go_enter Tryz.func45, Tryz.ntmps45
    go_wp2_with fail
    go_ret
    exact ⟨_, rfl, World.ownsRow_nil _ _ _ _, BK.refl _⟩
  | some a =>
    have HS := Lib.hid (ro_src (h.keep (bk_alloc (BK.refl w) (.cells #[] 3))) a rfl)
    have hml : 0 + l.length ≤ maxLen := by unfold maxLen; omega
    have q22 : ∀ (w : World) (a : Option Addr) (n c n' c' : Nat), (binOp .eql 32 (.slice a n c) (.slice none n' c')).run Tryz.prog w = .ok (.bool a.isNone) w := fun w a n c n' c' => Lib.run_eql_slice_nil w _ _ a n c n' c' Tryz.underlying32
    clear h
    go_enter Tryz.func45, Tryz.ntmps45
    go_wp2_with (at_builtin; refine wpList_append_own _ rfl _ _ 32 rfl w.heap.size 3 i0 (.int .i64 0) 1 8 Tryz.underlying32 hi hz0 hz1 hz2 rfl (by decide) _ _ _ rfl (own_empty w w.heap.size (Nat.le_refl _) 3 1) a l.length c (ints l) rfl (by simp [ints]) HS.out (ints_one l) hml (by omega) (by simp) ?_; intro v' w1 ho hg _; have HO := Lib.hid ho; have HG := Lib.hid hg; clear ho hg)
    go_ret
    exact ⟨_, rfl, own_cast HO.out (by simp) (by simp), ((Below.refl _ _).alloc (Nat.le_refl _) _).grown HG.out (by simp) (fun k e => (World.ownsRow.lt (own_empty w w.heap.size (Nat.le_refl _) 3 1) k e).1)⟩
set_option maxRecDepth 100000 in
set_option maxHeartbeats 1000000 in
theorem clone44 (l : List I6) (p : Option Addr) (c : Nat) (w : World) (h : RI w p c l) (hl : l.length ≤ 1000) : Calls Tryz.prog 44 #[.slice p l.length c] w (OP 42 6 w l.length (flat6 l)) := by
  obtain ⟨i0, hi, hz0, hz1, hz2⟩ := info_parts info42
  cases p with
  | none =>
    have hc := h.nl rfl
    have hle := h.le
    obtain rfl := List.eq_nil_of_length_eq_zero (show l.length = 0 by omega)
    have q22 : ∀ (w : World) (a : Option Addr) (n c n' c' : Nat), (binOp .eql 31 (.slice a n c) (.slice none n' c')).run Tryz.prog w = .ok (.bool a.isNone) w := fun w a n c n' c' => Lib.run_eql_slice_nil w _ _ a n c n' c' Tryz.underlying31
    clear h hle
    go_enter Tryz.func44, Tryz.ntmps44
    go_wp2_with fail
    go_ret
    exact ⟨_, rfl, World.ownsRow_nil _ _ _ _, BK.refl _⟩
  | some a =>
    have HS := Lib.hid (ri_src (h.keep (bk_alloc (BK.refl w) (.cells #[] 42))) a rfl)
    have hml : 0 + l.length ≤ maxLen := by unfold maxLen; omega
    have q22 : ∀ (w : World) (a : Option Addr) (n c n' c' : Nat), (binOp .eql 31 (.slice a n c) (.slice none n' c')).run Tryz.prog w = .ok (.bool a.isNone) w := fun w a n c n' c' => Lib.run_eql_slice_nil w _ _ a n c n' c' Tryz.underlying31
    clear h
    go_enter Tryz.func44, Tryz.ntmps44
    go_wp2_with (at_builtin; refine wpList_append_own _ rfl _ _ 31 rfl w.heap.size 42 i0 _ 6 48 Tryz.underlying31 hi hz0 hz1 hz2 rfl (by decide) _ _ _ rfl (own_empty w w.heap.size (Nat.le_refl _) 42 6) a l.length c (flat6 l) rfl (flat6_len l) HS.out (flat6_one l) hml (by omega) (by simp) ?_; intro v' w1 ho hg _; have HO := Lib.hid ho; have HG := Lib.hid hg; clear ho hg)
    go_ret
    exact ⟨_, rfl, own_cast HO.out (by simp) (by simp), ((Below.refl _ _).alloc (Nat.le_refl _) _).grown HG.out (by simp) (fun k e => (World.ownsRow.lt (own_empty w w.heap.size (Nat.le_refl _) 42 6) k e).1)⟩
/-! part VE -/
set_option maxHeartbeats 1000000 in
theorem eq55 (l m : List Int) (p q : Option Addr) (c d : Nat) (w : World) (h : RO w p c l) (h' : RO w q d m) (hl : l.length ≤ 100000) (hm : m.length ≤ 100000) :
    Calls Tryz.prog 55 #[.slice p l.length c, .slice q m.length d] w fun e w' => e = .returned (.bool (eqL l m)) ∧ BK w w' := by
  by_cases hne : l.length = m.length
  · have HN := Lib.hid hne
    have hb : ((l.length : Int) != (m.length : Int)) = false := by rw [hne]; simp
    have HR := Lib.hid h
    have HR' := Lib.hid h'
    clear h h' hne
    go_enter Tryz.func55, Tryz.ntmps55
    go_wp2_with fail
    go_loopw [13] (fun i wr => ∃ k : Nat, k ≤ l.length ∧ i = .int .i64 k ∧ EqTo l m k ∧ BK w wr) (fun i _ => l.length - (intOf i).toNat)
    case atStart => exact ⟨0, Nat.zero_le _, rfl, by unfold EqTo; simp, BK.refl _⟩
    case round =>
      obtain ⟨k, hk, rfl, hs, hkw⟩ := hrel
      have HS := Lib.hid hs
      have HK := Lib.hid hkw
      by_cases hlt : k < l.length
      · have hlt2 : k < m.length := by have := HN.out; omega
        have ei : IntKind.i64.wrap ((k : Int) + 1) = (k : Int) + 1 := IntWalk.i64_in _ (by omega)
        obtain ⟨b, o, rfl, hc⟩ := (HR.out.keep hkw).get k hlt
        obtain ⟨b', o', rfl, hc'⟩ := (HR'.out.keep hkw).get k hlt2
        have HY := Lib.hid (fun e => eqto_snoc hlt hlt2 HS.out e)
        have HNo := Lib.hid (fun e => eql_no (l := l) (m := m) hlt hlt2 e)
        clear hs hkw
        generalize l[k] = x at hc HY HNo
        generalize m[k] = y at hc' HY HNo
        by_cases hxy : x = y
        · have H1 := Lib.hid (HY.out hxy)
          subst hxy
          go_wp2_with fail
          go_quiet (fail)
          go_wp2_with fail
          go_roundw
          case rel => exact ⟨k + 1, by omega, by go_num, H1.out, bk_drewN HK.out _⟩
          case measure => simp [intOf]; omega
        · have H1 := Lib.hid (HNo.out hxy)
          have hd : (x != y) = true := by simpa using hxy
          clear hxy
          go_wp2_with fail
          go_quiet (fail)
          go_wp2_with fail
          go_ret
          exact ⟨ret_bool H1.out.symm, bk_drewN HK.out _⟩
      · obtain rfl : k = l.length := by omega
        clear hs hkw
        go_wp2_with fail
        go_ret
        refine ⟨ret_bool ?_, HK.out⟩
        have h := HS.out
        unfold EqTo at h
        rw [List.take_length, HN.out, List.take_length] at h
        unfold eqL; symm; exact decide_eq_true h
  · have hb : ((l.length : Int) != (m.length : Int)) = true := by simp; omega
    have HE := Lib.hid (show eqL l m = false from by unfold eqL; apply decide_eq_false; intro h; exact hne (by rw [h]))
    clear hne
    go_enter Tryz.func55, Tryz.ntmps55
    go_wp2_with fail
    go_ret
    exact ⟨ret_bool HE.out.symm, BK.refl _⟩
/-! lists of instructions -/
def sameI (l m : List I6) : Prop := l = m
noncomputable def eqI (l m : List I6) : Bool := @decide (l = m) (Classical.propDecidable _)
def EqToI (l m : List I6) (k : Nat) : Prop := l.take k = m.take k
theorem eqtoI_snoc {l m : List I6} {k : Nat} (h1 : k < l.length) (h2 : k < m.length) (h : EqToI l m k) (e : l[k] = m[k]) : EqToI l m (k + 1) := by
  unfold EqToI at *
  rw [List.take_succ_eq_append_getElem h1, List.take_succ_eq_append_getElem h2, h, e]
theorem eqI_yes {l m : List I6} (h : l = m) : eqI l m = true := by unfold eqI; simpa using h
theorem eqI_neg {l m : List I6} (h : ¬ l = m) : eqI l m = false := by unfold eqI; simpa using h
theorem eqI_no {l m : List I6} {k : Nat} (h1 : k < l.length) (h2 : k < m.length) (e : ¬ l[k] = m[k]) : eqI l m = false := by
  apply eqI_neg; intro h; subst h; exact e rfl
set_option maxRecDepth 100000 in
set_option maxHeartbeats 2000000 in
theorem eq54 (l m : List I6) (p q : Option Addr) (c d : Nat) (w : World) (h : RI w p c l) (h' : RI w q d m) (hl : l.length ≤ 100000) (hm : m.length ≤ 100000) :
    Calls Tryz.prog 54 #[.slice p l.length c, .slice q m.length d] w fun e w' => e = .returned (.bool (eqI l m)) ∧ BK w w' := by
  by_cases hne : l.length = m.length
  · have HN := Lib.hid hne
    have hb : ((l.length : Int) != (m.length : Int)) = false := by rw [hne]; simp
    have HR := Lib.hid h
    have HR' := Lib.hid h'
    clear h h' hne
    go_enter Tryz.func54, Tryz.ntmps54
    go_wp2_with fail
    go_loopw [13] (fun i wr => ∃ k : Nat, k ≤ l.length ∧ i = .int .i64 k ∧ EqToI l m k ∧ BK w wr) (fun i _ => l.length - (intOf i).toNat)
    case atStart => exact ⟨0, Nat.zero_le _, rfl, by unfold EqToI; simp, BK.refl _⟩
    case round =>
      obtain ⟨k, hk, rfl, hs, hkw⟩ := hrel
      have HS := Lib.hid hs
      have HK := Lib.hid hkw
      by_cases hlt : k < l.length
      · have hlt2 : k < m.length := by have := HN.out; omega
        have ei : IntKind.i64.wrap ((k : Int) + 1) = (k : Int) + 1 := IntWalk.i64_in _ (by omega)
        have hk1 : (k : Int) < (l.length : Int) := by omega
        have hk2 : (k : Int) < (m.length : Int) := by omega
        obtain ⟨b, o, rfl, hc⟩ := (HR.out.keep hkw).get k hlt
        obtain ⟨b', o', rfl, hc'⟩ := (HR'.out.keep hkw).get k hlt2
        have HA := Lib.hid (fun wc (hb : BK wr wc) => hc.keep hb)
        have HB := Lib.hid (fun wc (hb : BK wr wc) => hc'.keep hb)
        have HY := Lib.hid (fun e => eqtoI_snoc hlt hlt2 HS.out e)
        have HNo := Lib.hid (fun e => eqI_no (l := l) (m := m) hlt hlt2 e)
        clear hs hkw hc hc'
        generalize l[k] = x at HA HB HY HNo
        generalize m[k] = y at HA HB HY HNo
        have step : ∀ (nb : Bool), neB x y = nb → True := fun _ _ => trivial
        cases hn : neB x y with
        | false =>
          have H1 := Lib.hid (HY.out ((neB_iff x y).1 hn))
          have NE := Lib.hid hn
          clear hn step
          go_upto_region 6 with (fail)
          refine wp_region_class (C := fun w' => BK wr w') (by kernel_rfl) (by kernel_rfl) (bk_drew (BK.refl _)) ?_
          repeat (first
              | go_big_quiet_step (fail)
              | (refine wpQuiet_step (fun K hK => ?_)
                 go_simp
                 first
                   | (refine hK _ ?_; clear hK K)
                   | (refine ⟨_, fun _ _ => rfl, hK _ ?_⟩; clear hK K)
                   | (apply Exists.intro; refine ⟨fun w5 hw5 => ?_, hK _ ?_⟩; (obtain ⟨q0, q1, q2, q3, q4, q5⟩ := HA.out _ hw5; go_simp; rfl); clear hK K)
                   | (apply Exists.intro; refine ⟨fun w5 hw5 => ?_, hK _ ?_⟩; (obtain ⟨q0, q1, q2, q3, q4, q5⟩ := HB.out _ hw5; go_simp; rfl); clear hK K)
                   | (apply Exists.intro; refine ⟨fun w5 hw5 => ?_, hK _ ?_⟩; (rw [ne_ifs, NE.out]; exact ⟨rfl, rfl⟩); clear hK K)))
          refine wpQuiet_nil ?_
          intro w5 hw5
          have K5 := Lib.hid (bk_tr HK.out hw5)
          clear hw5
          go_wp2_with fail
          go_roundw
          case rel => exact ⟨k + 1, by omega, by go_num, H1.out, K5.out⟩
          case measure => simp [intOf]; omega
        | true =>
          have H1 := Lib.hid (HNo.out (fun e => by rw [(neB_iff x y).2 e] at hn; cases hn))
          have NE := Lib.hid hn
          clear hn step
          go_upto_region 6 with (fail)
          refine wp_region_class (C := fun w' => BK wr w') (by kernel_rfl) (by kernel_rfl) (bk_drew (BK.refl _)) ?_
          repeat (first
              | go_big_quiet_step (fail)
              | (refine wpQuiet_step (fun K hK => ?_)
                 go_simp
                 first
                   | (refine hK _ ?_; clear hK K)
                   | (refine ⟨_, fun _ _ => rfl, hK _ ?_⟩; clear hK K)
                   | (apply Exists.intro; refine ⟨fun w5 hw5 => ?_, hK _ ?_⟩; (obtain ⟨q0, q1, q2, q3, q4, q5⟩ := HA.out _ hw5; go_simp; rfl); clear hK K)
                   | (apply Exists.intro; refine ⟨fun w5 hw5 => ?_, hK _ ?_⟩; (obtain ⟨q0, q1, q2, q3, q4, q5⟩ := HB.out _ hw5; go_simp; rfl); clear hK K)
                   | (apply Exists.intro; refine ⟨fun w5 hw5 => ?_, hK _ ?_⟩; (rw [ne_ifs, NE.out]; exact ⟨rfl, rfl⟩); clear hK K)))
          refine wpQuiet_nil ?_
          intro w5 hw5
          have K5 := Lib.hid (bk_tr HK.out hw5)
          clear hw5
          go_wp2_with fail
          go_ret
          exact ⟨ret_bool H1.out.symm, K5.out⟩
      · obtain rfl : k = l.length := by omega
        have hd : decide (l.length < l.length) = false := by simp
        clear hs hkw
        go_wp2_with fail
        go_ret
        refine ⟨ret_bool ?_, HK.out⟩
        have h := HS.out
        unfold EqToI at h
        rw [List.take_length, HN.out, List.take_length] at h
        exact (eqI_yes h).symm
  · have hb : ((l.length : Int) != (m.length : Int)) = true := by simp; omega
    have HE := Lib.hid (show eqI l m = false from eqI_neg (fun h => hne (by rw [h])))
    clear hne
    go_enter Tryz.func54, Tryz.ntmps54
    go_wp2_with fail
    go_ret
    exact ⟨ret_bool HE.out.symm, BK.refl _⟩
/-! part VS -/
noncomputable def sameC (W R W' R' : Int) (ins ins' : List I6) (out out' : List Int) : Bool := @decide (W = W' ∧ R = R' ∧ ins = ins' ∧ out = out') (Classical.propDecidable _)
theorem sameC_yes {W R W' R' : Int} {ins ins' : List I6} {out out' : List Int} (h : W = W' ∧ R = R' ∧ ins = ins' ∧ out = out') : sameC W R W' R' ins ins' out out' = true := by unfold sameC; simpa using h
theorem sameC_no {W R W' R' : Int} {ins ins' : List I6} {out out' : List Int} (h : ¬ (W = W' ∧ R = R' ∧ ins = ins' ∧ out = out')) : sameC W R W' R' ins ins' out out' = false := by
  unfold sameC; exact @decide_eq_false _ (Classical.propDecidable _) h
def SP (w : World) (b : Bool) (e : Ending) (w' : World) : Prop := e = .returned (.bool b) ∧ BK w w'
set_option maxRecDepth 100000 in
set_option maxHeartbeats 4000000 in
theorem same36_a (W R W' R' : Int) (p q p' q' : Option Addr) (pc qc pc' qc' : Nat) (ins ins' : List I6) (out out' : List Int) (w : World) (hi : RI w p pc ins) (ho : RO w q qc out) (hi' : RI w p' pc' ins') (ho' : RO w q' qc' out') (li : ins.length ≤ 100000) (lo : out.length ≤ 100000) (li' : ins'.length ≤ 100000) (lo' : out'.length ≤ 100000) (hl1 : ins.length = ins'.length) (hl2 : out.length = out'.length) (hw : W = W') (hr : R = R') : Calls Tryz.prog 36 #[.agg #[.int .i64 W, .int .i64 R, .slice p ins.length pc, .slice q out.length qc], .agg #[.int .i64 W', .int .i64 R', .slice p' ins'.length pc', .slice q' out'.length qc']] w (SP w (sameC W R W' R' ins ins' out out')) := by
  have HRES := Lib.hid (show eqI ins ins' = false → sameC W R W' R' ins ins' out out' = false from fun e => sameC_no (fun h => by rw [eqI_yes h.2.2.1] at e; cases e))
  have HRO := Lib.hid (show eqL out out' = false → sameC W R W' R' ins ins' out out' = false from fun e => sameC_no (fun h => by unfold eqL at e; exact of_decide_eq_false e h.2.2.2))
  have HYS := Lib.hid (show ins = ins' → out = out' → sameC W R W' R' ins ins' out out' = true from fun e1 e2 => sameC_yes ⟨hw, hr, e1, e2⟩)
  have b1 : ((ins.length : Int) != (ins'.length : Int)) = false := by rw [hl1]; simp
  have b2 : ((out.length : Int) != (out'.length : Int)) = false := by rw [hl2]; simp
  have KW := Lib.hid (bk_alloc (bk_alloc (BK.refl w) (.cells #[.int .i64 W, .int .i64 R, .slice p ins.length pc, .slice q out.length qc] 34)) (.cells #[.int .i64 W', .int .i64 R', .slice p' ins'.length pc', .slice q' out'.length qc'] 34))
  have HC := Lib.hid (fun wc (hb : BK ((w.alloc (.cells #[.int .i64 W, .int .i64 R, .slice p ins.length pc, .slice q out.length qc] 34)).alloc (.cells #[.int .i64 W', .int .i64 R', .slice p' ins'.length pc', .slice q' out'.length qc'] 34)) wc) => ((b4_new w (.int .i64 W) (.int .i64 R) (.slice p ins.length pc) (.slice q out.length qc) 34).keep (bk_alloc (BK.refl _) (.cells #[.int .i64 W', .int .i64 R', .slice p' ins'.length pc', .slice q' out'.length qc'] 34))).keep hb)
  have HD := Lib.hid (fun wc (hb : BK ((w.alloc (.cells #[.int .i64 W, .int .i64 R, .slice p ins.length pc, .slice q out.length qc] 34)).alloc (.cells #[.int .i64 W', .int .i64 R', .slice p' ins'.length pc', .slice q' out'.length qc'] 34)) wc) => (b4_new (w.alloc (.cells #[.int .i64 W, .int .i64 R, .slice p ins.length pc, .slice q out.length qc] 34)) (.int .i64 W') (.int .i64 R') (.slice p' ins'.length pc') (.slice q' out'.length qc') 34).keep hb)
  have RI1 := Lib.hid (fun wc (hb : BK ((w.alloc (.cells #[.int .i64 W, .int .i64 R, .slice p ins.length pc, .slice q out.length qc] 34)).alloc (.cells #[.int .i64 W', .int .i64 R', .slice p' ins'.length pc', .slice q' out'.length qc'] 34)) wc) => hi.keep (bk_tr KW.out hb))
  have RI2 := Lib.hid (fun wc (hb : BK ((w.alloc (.cells #[.int .i64 W, .int .i64 R, .slice p ins.length pc, .slice q out.length qc] 34)).alloc (.cells #[.int .i64 W', .int .i64 R', .slice p' ins'.length pc', .slice q' out'.length qc'] 34)) wc) => hi'.keep (bk_tr KW.out hb))
  have RO1 := Lib.hid (fun wc (hb : BK ((w.alloc (.cells #[.int .i64 W, .int .i64 R, .slice p ins.length pc, .slice q out.length qc] 34)).alloc (.cells #[.int .i64 W', .int .i64 R', .slice p' ins'.length pc', .slice q' out'.length qc'] 34)) wc) => ho.keep (bk_tr KW.out hb))
  have RO2 := Lib.hid (fun wc (hb : BK ((w.alloc (.cells #[.int .i64 W, .int .i64 R, .slice p ins.length pc, .slice q out.length qc] 34)).alloc (.cells #[.int .i64 W', .int .i64 R', .slice p' ins'.length pc', .slice q' out'.length qc'] 34)) wc) => ho'.keep (bk_tr KW.out hb))
  have hsz := sz1 w (.cells #[.int .i64 W, .int .i64 R, .slice p ins.length pc, .slice q out.length qc] 34)
  rw [hsz] at HD
  clear hsz
  clear hi ho hi' ho'
  generalize sameC W R W' R' ins ins' out out' = res at HRES HRO HYS ⊢
  have b3 : (W != W') = false := by simpa using hw
  have b4 : (R != R') = false := by simpa using hr
  have HL1 := Lib.hid hl1
  have HL2 := Lib.hid hl2
  clear hw hr hl1 hl2
  unfold SP
  go_enter Tryz.func36, Tryz.ntmps36
  go_upto_region 1 with (fail)
  generalize (w.alloc (.cells #[.int .i64 W, .int .i64 R, .slice p ins.length pc, .slice q out.length qc] 34)).alloc (.cells #[.int .i64 W', .int .i64 R', .slice p' ins'.length pc', .slice q' out'.length qc'] 34) = w0 at KW HC HD RI1 RI2 RO1 RO2 ⊢
  obtain ⟨t0, t1, t2, t3⟩ := HC.out _ (BK.refl w0)
  obtain ⟨u0, u1, u2, u3⟩ := HD.out _ (BK.refl w0)
  go_wp2_with fail
  go_loopw [5] (fun i wr => ∃ k : Nat, k ≤ ins.length ∧ i = .int .i64 k ∧ EqToI ins ins' k ∧ BK w0 wr) (fun i _ => ins.length - (intOf i).toNat)
  case atStart => exact ⟨0, Nat.zero_le _, rfl, by unfold EqToI; simp, BK.refl w0⟩
  case round =>
    obtain ⟨k, hk, rfl, hs, hkw⟩ := hrel
    have HS := Lib.hid hs
    have HK := Lib.hid hkw
    obtain ⟨t0, t1, t2, t3⟩ := HC.out _ hkw
    by_cases hlt : k < ins.length
    · have hlt2 : k < ins'.length := by have := HL1.out; have := HL2.out; omega
      have ei : IntKind.i64.wrap ((k : Int) + 1) = (k : Int) + 1 := IntWalk.i64_in _ (by omega)
      have hk1 : (k : Int) < (ins.length : Int) := by omega
      have hk2 : (k : Int) < (ins'.length : Int) := by omega
      have hd0 : decide (k < ins.length) = true := by simpa using hlt
      obtain ⟨b, o, rfl, hc⟩ := (RI1.out _ hkw).get k hlt
      obtain ⟨b', o', rfl, hc'⟩ := (RI2.out _ hkw).get k hlt2
      have HA := Lib.hid (fun wc (hb : BK wr wc) => hc.keep hb)
      have HB := Lib.hid (fun wc (hb : BK wr wc) => hc'.keep hb)
      have HY := Lib.hid (fun e => eqtoI_snoc hlt hlt2 HS.out e)
      have HNo := Lib.hid (fun e => eqI_no (l := ins) (m := ins') hlt hlt2 e)
      clear hs hkw hc hc'
      generalize ins[k] = x at HA HB HY HNo
      generalize ins'[k] = y at HA HB HY HNo
      cases hn : neB x y with
      | false =>
        have H1 := Lib.hid (HY.out ((neB_iff x y).1 hn))
        have NE := Lib.hid hn
        clear hn
        go_upto_region 6 with (fail)
        refine wp_region_class (C := fun w' => BK wr w') (by kernel_rfl) (by kernel_rfl) (bk_drew (BK.refl _)) ?_
        repeat (first
            | go_big_quiet_step (fail)
            | (refine wpQuiet_step (fun K hK => ?_)
               go_simp
               first
                 | (refine hK _ ?_; clear hK K)
                 | (refine ⟨_, fun _ _ => rfl, hK _ ?_⟩; clear hK K)
                 | (apply Exists.intro; refine ⟨fun w5 hw5 => ?_, hK _ ?_⟩; (obtain ⟨t0, t1, t2, t3⟩ := HC.out _ (bk_tr HK.out hw5); go_simp; rfl); clear hK K)
                 | (apply Exists.intro; refine ⟨fun w5 hw5 => ?_, hK _ ?_⟩; (obtain ⟨t0, t1, t2, t3⟩ := HD.out _ (bk_tr HK.out hw5); go_simp; rfl); clear hK K)
                 | (apply Exists.intro; refine ⟨fun w5 hw5 => ?_, hK _ ?_⟩; (obtain ⟨q0, q1, q2, q3, q4, q5⟩ := HA.out _ hw5; go_simp; rfl); clear hK K)
                 | (apply Exists.intro; refine ⟨fun w5 hw5 => ?_, hK _ ?_⟩; (obtain ⟨q0, q1, q2, q3, q4, q5⟩ := HB.out _ hw5; go_simp; rfl); clear hK K)
                 | (apply Exists.intro; refine ⟨fun w5 hw5 => ?_, hK _ ?_⟩; (rw [ne_ifs, NE.out]; exact ⟨rfl, rfl⟩); clear hK K)))
        refine wpQuiet_nil ?_
        intro w5 hw5
        have K5 := Lib.hid (bk_tr HK.out hw5)
        clear hw5
        go_wp2_with fail
        go_roundw
        case rel => exact ⟨k + 1, by omega, by go_num, H1.out, K5.out⟩
        case measure => simp [intOf]; omega
      | true =>
        have HNO := Lib.hid (HRES.out (HNo.out (fun e => by rw [(neB_iff x y).2 e] at hn; cases hn)))
        have NE := Lib.hid hn
        clear hn
        go_upto_region 6 with (fail)
        refine wp_region_class (C := fun w' => BK wr w') (by kernel_rfl) (by kernel_rfl) (bk_drew (BK.refl _)) ?_
        repeat (first
            | go_big_quiet_step (fail)
            | (refine wpQuiet_step (fun K hK => ?_)
               go_simp
               first
                 | (refine hK _ ?_; clear hK K)
                 | (refine ⟨_, fun _ _ => rfl, hK _ ?_⟩; clear hK K)
                 | (apply Exists.intro; refine ⟨fun w5 hw5 => ?_, hK _ ?_⟩; (obtain ⟨t0, t1, t2, t3⟩ := HC.out _ (bk_tr HK.out hw5); go_simp; rfl); clear hK K)
                 | (apply Exists.intro; refine ⟨fun w5 hw5 => ?_, hK _ ?_⟩; (obtain ⟨t0, t1, t2, t3⟩ := HD.out _ (bk_tr HK.out hw5); go_simp; rfl); clear hK K)
                 | (apply Exists.intro; refine ⟨fun w5 hw5 => ?_, hK _ ?_⟩; (obtain ⟨q0, q1, q2, q3, q4, q5⟩ := HA.out _ hw5; go_simp; rfl); clear hK K)
                 | (apply Exists.intro; refine ⟨fun w5 hw5 => ?_, hK _ ?_⟩; (obtain ⟨q0, q1, q2, q3, q4, q5⟩ := HB.out _ hw5; go_simp; rfl); clear hK K)
                 | (apply Exists.intro; refine ⟨fun w5 hw5 => ?_, hK _ ?_⟩; (rw [ne_ifs, NE.out]; exact ⟨rfl, rfl⟩); clear hK K)))
        refine wpQuiet_nil ?_
        intro w5 hw5
        have K5 := Lib.hid (bk_tr HK.out hw5)
        clear hw5
        go_wp2_with fail
        go_ret
        exact ⟨ret_bool HNO.out.symm, bk_tr KW.out K5.out⟩
    · obtain rfl : k = ins.length := by omega
      have hd0 : decide (ins.length < ins.length) = false := by simp
      clear hkw
      have HINS := Lib.hid (show ins = ins' from by have h := HS.out; unfold EqToI at h; rw [List.take_length, HL1.out, List.take_length] at h; exact h)
      have HRES2 := Lib.hid (fun e => HRO.out e)
      have HYES := Lib.hid (fun e => HYS.out HINS.out e)
      have K9 := Lib.hid HK.out
      clear hs HS HRES
      have HRES := HRES2
      clear HRES2
      go_wp2_with fail
      go_loopw [6] (fun i wr => ∃ k : Nat, k ≤ out.length ∧ i = .int .i64 k ∧ EqTo out out' k ∧ BK w0 wr) (fun i _ => out.length - (intOf i).toNat)
      case atStart => exact ⟨0, Nat.zero_le _, rfl, by unfold EqTo; simp, K9.out⟩
      case round =>
        obtain ⟨k, hk, rfl, hs, hkw⟩ := hrel
        have HS := Lib.hid hs
        have HK := Lib.hid hkw
        obtain ⟨t0, t1, t2, t3⟩ := HC.out _ hkw
        by_cases hlt : k < out.length
        · have hlt2 : k < out'.length := by have := HL1.out; have := HL2.out; omega
          have ei : IntKind.i64.wrap ((k : Int) + 1) = (k : Int) + 1 := IntWalk.i64_in _ (by omega)
          have hk1 : (k : Int) < (out.length : Int) := by omega
          have hk2 : (k : Int) < (out'.length : Int) := by omega
          have hd0 : decide (k < out.length) = true := by simpa using hlt
          obtain ⟨b, o, rfl, hc⟩ := (RO1.out _ hkw).get k hlt
          obtain ⟨b', o', rfl, hc'⟩ := (RO2.out _ hkw).get k hlt2
          have HA := Lib.hid (fun wc (hb : BK wr wc) => (hb.bl.cell (World.block_lt_of_cell? wr _ hc)).trans hc)
          have HB := Lib.hid (fun wc (hb : BK wr wc) => (hb.bl.cell (World.block_lt_of_cell? wr _ hc')).trans hc')
          have HY := Lib.hid (fun e => eqto_snoc hlt hlt2 HS.out e)
          have HNo := Lib.hid (fun e => eql_no (l := out) (m := out') hlt hlt2 e)
          clear hs hkw hc hc'
          generalize out[k] = x at HA HB HY HNo
          generalize out'[k] = y at HA HB HY HNo
          by_cases hn : x = y
          · have H1 := Lib.hid (HY.out hn)
            have hb0 : (x != y) = false := by simpa using hn
            clear hn
            go_upto_region 11 with (fail)
            refine wp_region_class (C := fun w' => BK wr w') (by kernel_rfl) (by kernel_rfl) (bk_drew (BK.refl _)) ?_
            repeat (first
                | go_big_quiet_step (fail)
                | (refine wpQuiet_step (fun K hK => ?_)
                   go_simp
                   first
                     | (refine hK _ ?_; clear hK K)
                     | (refine ⟨_, fun _ _ => rfl, hK _ ?_⟩; clear hK K)
                     | (apply Exists.intro; refine ⟨fun w5 hw5 => ?_, hK _ ?_⟩; (obtain ⟨t0, t1, t2, t3⟩ := HC.out _ (bk_tr HK.out hw5); go_simp; rfl); clear hK K)
                     | (apply Exists.intro; refine ⟨fun w5 hw5 => ?_, hK _ ?_⟩; (obtain ⟨t0, t1, t2, t3⟩ := HD.out _ (bk_tr HK.out hw5); go_simp; rfl); clear hK K)
                     | (apply Exists.intro; refine ⟨fun w5 hw5 => ?_, hK _ ?_⟩; (have q0 := HA.out _ hw5; go_simp; rfl); clear hK K)
                     | (apply Exists.intro; refine ⟨fun w5 hw5 => ?_, hK _ ?_⟩; (have q0 := HB.out _ hw5; go_simp; rfl); clear hK K)))
            refine wpQuiet_nil ?_
            intro w5 hw5
            have K5 := Lib.hid (bk_tr HK.out hw5)
            clear hw5
            go_wp2_with fail
            go_roundw
            case rel => exact ⟨k + 1, by omega, by go_num, H1.out, K5.out⟩
            case measure => simp [intOf]; omega
          · have HNO := Lib.hid (HRES.out (HNo.out hn))
            have hb0 : (x != y) = true := by simpa using hn
            clear hn
            go_upto_region 11 with (fail)
            refine wp_region_class (C := fun w' => BK wr w') (by kernel_rfl) (by kernel_rfl) (bk_drew (BK.refl _)) ?_
            repeat (first
                | go_big_quiet_step (fail)
                | (refine wpQuiet_step (fun K hK => ?_)
                   go_simp
                   first
                     | (refine hK _ ?_; clear hK K)
                     | (refine ⟨_, fun _ _ => rfl, hK _ ?_⟩; clear hK K)
                     | (apply Exists.intro; refine ⟨fun w5 hw5 => ?_, hK _ ?_⟩; (obtain ⟨t0, t1, t2, t3⟩ := HC.out _ (bk_tr HK.out hw5); go_simp; rfl); clear hK K)
                     | (apply Exists.intro; refine ⟨fun w5 hw5 => ?_, hK _ ?_⟩; (obtain ⟨t0, t1, t2, t3⟩ := HD.out _ (bk_tr HK.out hw5); go_simp; rfl); clear hK K)
                     | (apply Exists.intro; refine ⟨fun w5 hw5 => ?_, hK _ ?_⟩; (have q0 := HA.out _ hw5; go_simp; rfl); clear hK K)
                     | (apply Exists.intro; refine ⟨fun w5 hw5 => ?_, hK _ ?_⟩; (have q0 := HB.out _ hw5; go_simp; rfl); clear hK K)))
            refine wpQuiet_nil ?_
            intro w5 hw5
            have K5 := Lib.hid (bk_tr HK.out hw5)
            clear hw5
            go_wp2_with fail
            go_ret
            exact ⟨ret_bool HNO.out.symm, bk_tr KW.out K5.out⟩
        · obtain rfl : k = out.length := by omega
          have hd0 : decide (out.length < out.length) = false := by simp
          clear hkw
          go_wp2_with fail
          go_ret
          refine ⟨ret_bool ?_, bk_tr KW.out HK.out⟩
          have h := HS.out
          unfold EqTo at h
          rw [List.take_length, HL2.out, List.take_length] at h
          exact (HYES.out h).symm
/-! part VT -/
set_option maxRecDepth 100000 in
set_option maxHeartbeats 4000000 in
theorem same36 (W R W' R' : Int) (p q p' q' : Option Addr) (pc qc pc' qc' : Nat) (ins ins' : List I6) (out out' : List Int) (w : World) (hi : RI w p pc ins) (ho : RO w q qc out) (hi' : RI w p' pc' ins') (ho' : RO w q' qc' out') (li : ins.length ≤ 100000) (lo : out.length ≤ 100000) (li' : ins'.length ≤ 100000) (lo' : out'.length ≤ 100000) : Calls Tryz.prog 36 #[.agg #[.int .i64 W, .int .i64 R, .slice p ins.length pc, .slice q out.length qc], .agg #[.int .i64 W', .int .i64 R', .slice p' ins'.length pc', .slice q' out'.length qc']] w (SP w (sameC W R W' R' ins ins' out out')) := by
  by_cases hw : W = W'
  · by_cases hr : R = R'
    · by_cases hl1 : ins.length = ins'.length
      · by_cases hl2 : out.length = out'.length
        · exact same36_a W R W' R' p q p' q' pc qc pc' qc' ins ins' out out' w hi ho hi' ho' li lo li' lo' hl1 hl2 hw hr
        · have HRES := Lib.hid (show sameC W R W' R' ins ins' out out' = false from sameC_no (fun h => hl2 (by rw [h.2.2.2])))
          have b3 : (W != W') = false := by simpa using hw
          have b4 : (R != R') = false := by simpa using hr
          have b1 : ((ins.length : Int) != (ins'.length : Int)) = false := by rw [hl1]; simp
          have b2 : ((out.length : Int) != (out'.length : Int)) = true := by simp; omega
          clear hw hr hl1 hl2
          have KW := Lib.hid (bk_alloc (bk_alloc (BK.refl w) (.cells #[.int .i64 W, .int .i64 R, .slice p ins.length pc, .slice q out.length qc] 34)) (.cells #[.int .i64 W', .int .i64 R', .slice p' ins'.length pc', .slice q' out'.length qc'] 34))
          have HC := Lib.hid (fun wc (hb : BK ((w.alloc (.cells #[.int .i64 W, .int .i64 R, .slice p ins.length pc, .slice q out.length qc] 34)).alloc (.cells #[.int .i64 W', .int .i64 R', .slice p' ins'.length pc', .slice q' out'.length qc'] 34)) wc) => ((b4_new w (.int .i64 W) (.int .i64 R) (.slice p ins.length pc) (.slice q out.length qc) 34).keep (bk_alloc (BK.refl _) (.cells #[.int .i64 W', .int .i64 R', .slice p' ins'.length pc', .slice q' out'.length qc'] 34))).keep hb)
          have HD := Lib.hid (fun wc (hb : BK ((w.alloc (.cells #[.int .i64 W, .int .i64 R, .slice p ins.length pc, .slice q out.length qc] 34)).alloc (.cells #[.int .i64 W', .int .i64 R', .slice p' ins'.length pc', .slice q' out'.length qc'] 34)) wc) => (b4_new (w.alloc (.cells #[.int .i64 W, .int .i64 R, .slice p ins.length pc, .slice q out.length qc] 34)) (.int .i64 W') (.int .i64 R') (.slice p' ins'.length pc') (.slice q' out'.length qc') 34).keep hb)
          have RI1 := Lib.hid (fun wc (hb : BK ((w.alloc (.cells #[.int .i64 W, .int .i64 R, .slice p ins.length pc, .slice q out.length qc] 34)).alloc (.cells #[.int .i64 W', .int .i64 R', .slice p' ins'.length pc', .slice q' out'.length qc'] 34)) wc) => hi.keep (bk_tr KW.out hb))
          have RI2 := Lib.hid (fun wc (hb : BK ((w.alloc (.cells #[.int .i64 W, .int .i64 R, .slice p ins.length pc, .slice q out.length qc] 34)).alloc (.cells #[.int .i64 W', .int .i64 R', .slice p' ins'.length pc', .slice q' out'.length qc'] 34)) wc) => hi'.keep (bk_tr KW.out hb))
          have RO1 := Lib.hid (fun wc (hb : BK ((w.alloc (.cells #[.int .i64 W, .int .i64 R, .slice p ins.length pc, .slice q out.length qc] 34)).alloc (.cells #[.int .i64 W', .int .i64 R', .slice p' ins'.length pc', .slice q' out'.length qc'] 34)) wc) => ho.keep (bk_tr KW.out hb))
          have RO2 := Lib.hid (fun wc (hb : BK ((w.alloc (.cells #[.int .i64 W, .int .i64 R, .slice p ins.length pc, .slice q out.length qc] 34)).alloc (.cells #[.int .i64 W', .int .i64 R', .slice p' ins'.length pc', .slice q' out'.length qc'] 34)) wc) => ho'.keep (bk_tr KW.out hb))
          have hsz := sz1 w (.cells #[.int .i64 W, .int .i64 R, .slice p ins.length pc, .slice q out.length qc] 34)
          rw [hsz] at HD
          clear hsz
          clear hi ho hi' ho'
          generalize sameC W R W' R' ins ins' out out' = res at HRES ⊢
          unfold SP
          go_enter Tryz.func36, Tryz.ntmps36
          go_upto_region 1 with (fail)
          generalize (w.alloc (.cells #[.int .i64 W, .int .i64 R, .slice p ins.length pc, .slice q out.length qc] 34)).alloc (.cells #[.int .i64 W', .int .i64 R', .slice p' ins'.length pc', .slice q' out'.length qc'] 34) = w0 at KW HC HD RI1 RI2 RO1 RO2 ⊢
          obtain ⟨t0, t1, t2, t3⟩ := HC.out _ (BK.refl w0)
          obtain ⟨u0, u1, u2, u3⟩ := HD.out _ (BK.refl w0)
          go_wp2_with fail
          go_ret
          exact ⟨ret_bool HRES.out.symm, KW.out⟩
      · have HRES := Lib.hid (show sameC W R W' R' ins ins' out out' = false from sameC_no (fun h => hl1 (by rw [h.2.2.1])))
        have b3 : (W != W') = false := by simpa using hw
        have b4 : (R != R') = false := by simpa using hr
        have b1 : ((ins.length : Int) != (ins'.length : Int)) = true := by simp; omega
        clear hw hr hl1
        have KW := Lib.hid (bk_alloc (bk_alloc (BK.refl w) (.cells #[.int .i64 W, .int .i64 R, .slice p ins.length pc, .slice q out.length qc] 34)) (.cells #[.int .i64 W', .int .i64 R', .slice p' ins'.length pc', .slice q' out'.length qc'] 34))
        have HC := Lib.hid (fun wc (hb : BK ((w.alloc (.cells #[.int .i64 W, .int .i64 R, .slice p ins.length pc, .slice q out.length qc] 34)).alloc (.cells #[.int .i64 W', .int .i64 R', .slice p' ins'.length pc', .slice q' out'.length qc'] 34)) wc) => ((b4_new w (.int .i64 W) (.int .i64 R) (.slice p ins.length pc) (.slice q out.length qc) 34).keep (bk_alloc (BK.refl _) (.cells #[.int .i64 W', .int .i64 R', .slice p' ins'.length pc', .slice q' out'.length qc'] 34))).keep hb)
        have HD := Lib.hid (fun wc (hb : BK ((w.alloc (.cells #[.int .i64 W, .int .i64 R, .slice p ins.length pc, .slice q out.length qc] 34)).alloc (.cells #[.int .i64 W', .int .i64 R', .slice p' ins'.length pc', .slice q' out'.length qc'] 34)) wc) => (b4_new (w.alloc (.cells #[.int .i64 W, .int .i64 R, .slice p ins.length pc, .slice q out.length qc] 34)) (.int .i64 W') (.int .i64 R') (.slice p' ins'.length pc') (.slice q' out'.length qc') 34).keep hb)
        have RI1 := Lib.hid (fun wc (hb : BK ((w.alloc (.cells #[.int .i64 W, .int .i64 R, .slice p ins.length pc, .slice q out.length qc] 34)).alloc (.cells #[.int .i64 W', .int .i64 R', .slice p' ins'.length pc', .slice q' out'.length qc'] 34)) wc) => hi.keep (bk_tr KW.out hb))
        have RI2 := Lib.hid (fun wc (hb : BK ((w.alloc (.cells #[.int .i64 W, .int .i64 R, .slice p ins.length pc, .slice q out.length qc] 34)).alloc (.cells #[.int .i64 W', .int .i64 R', .slice p' ins'.length pc', .slice q' out'.length qc'] 34)) wc) => hi'.keep (bk_tr KW.out hb))
        have RO1 := Lib.hid (fun wc (hb : BK ((w.alloc (.cells #[.int .i64 W, .int .i64 R, .slice p ins.length pc, .slice q out.length qc] 34)).alloc (.cells #[.int .i64 W', .int .i64 R', .slice p' ins'.length pc', .slice q' out'.length qc'] 34)) wc) => ho.keep (bk_tr KW.out hb))
        have RO2 := Lib.hid (fun wc (hb : BK ((w.alloc (.cells #[.int .i64 W, .int .i64 R, .slice p ins.length pc, .slice q out.length qc] 34)).alloc (.cells #[.int .i64 W', .int .i64 R', .slice p' ins'.length pc', .slice q' out'.length qc'] 34)) wc) => ho'.keep (bk_tr KW.out hb))
        have hsz := sz1 w (.cells #[.int .i64 W, .int .i64 R, .slice p ins.length pc, .slice q out.length qc] 34)
        rw [hsz] at HD
        clear hsz
        clear hi ho hi' ho'
        generalize sameC W R W' R' ins ins' out out' = res at HRES ⊢
        unfold SP
        go_enter Tryz.func36, Tryz.ntmps36
        go_upto_region 1 with (fail)
        generalize (w.alloc (.cells #[.int .i64 W, .int .i64 R, .slice p ins.length pc, .slice q out.length qc] 34)).alloc (.cells #[.int .i64 W', .int .i64 R', .slice p' ins'.length pc', .slice q' out'.length qc'] 34) = w0 at KW HC HD RI1 RI2 RO1 RO2 ⊢
        obtain ⟨t0, t1, t2, t3⟩ := HC.out _ (BK.refl w0)
        obtain ⟨u0, u1, u2, u3⟩ := HD.out _ (BK.refl w0)
        go_wp2_with fail
        go_ret
        exact ⟨ret_bool HRES.out.symm, KW.out⟩
    · have HRES := Lib.hid (show sameC W R W' R' ins ins' out out' = false from sameC_no (fun h => hr h.2.1))
      have b3 : (W != W') = false := by simpa using hw
      have b4 : (R != R') = true := by simpa using hr
      clear hw hr
      have KW := Lib.hid (bk_alloc (bk_alloc (BK.refl w) (.cells #[.int .i64 W, .int .i64 R, .slice p ins.length pc, .slice q out.length qc] 34)) (.cells #[.int .i64 W', .int .i64 R', .slice p' ins'.length pc', .slice q' out'.length qc'] 34))
      have HC := Lib.hid (fun wc (hb : BK ((w.alloc (.cells #[.int .i64 W, .int .i64 R, .slice p ins.length pc, .slice q out.length qc] 34)).alloc (.cells #[.int .i64 W', .int .i64 R', .slice p' ins'.length pc', .slice q' out'.length qc'] 34)) wc) => ((b4_new w (.int .i64 W) (.int .i64 R) (.slice p ins.length pc) (.slice q out.length qc) 34).keep (bk_alloc (BK.refl _) (.cells #[.int .i64 W', .int .i64 R', .slice p' ins'.length pc', .slice q' out'.length qc'] 34))).keep hb)
      have HD := Lib.hid (fun wc (hb : BK ((w.alloc (.cells #[.int .i64 W, .int .i64 R, .slice p ins.length pc, .slice q out.length qc] 34)).alloc (.cells #[.int .i64 W', .int .i64 R', .slice p' ins'.length pc', .slice q' out'.length qc'] 34)) wc) => (b4_new (w.alloc (.cells #[.int .i64 W, .int .i64 R, .slice p ins.length pc, .slice q out.length qc] 34)) (.int .i64 W') (.int .i64 R') (.slice p' ins'.length pc') (.slice q' out'.length qc') 34).keep hb)
      have RI1 := Lib.hid (fun wc (hb : BK ((w.alloc (.cells #[.int .i64 W, .int .i64 R, .slice p ins.length pc, .slice q out.length qc] 34)).alloc (.cells #[.int .i64 W', .int .i64 R', .slice p' ins'.length pc', .slice q' out'.length qc'] 34)) wc) => hi.keep (bk_tr KW.out hb))
      have RI2 := Lib.hid (fun wc (hb : BK ((w.alloc (.cells #[.int .i64 W, .int .i64 R, .slice p ins.length pc, .slice q out.length qc] 34)).alloc (.cells #[.int .i64 W', .int .i64 R', .slice p' ins'.length pc', .slice q' out'.length qc'] 34)) wc) => hi'.keep (bk_tr KW.out hb))
      have RO1 := Lib.hid (fun wc (hb : BK ((w.alloc (.cells #[.int .i64 W, .int .i64 R, .slice p ins.length pc, .slice q out.length qc] 34)).alloc (.cells #[.int .i64 W', .int .i64 R', .slice p' ins'.length pc', .slice q' out'.length qc'] 34)) wc) => ho.keep (bk_tr KW.out hb))
      have RO2 := Lib.hid (fun wc (hb : BK ((w.alloc (.cells #[.int .i64 W, .int .i64 R, .slice p ins.length pc, .slice q out.length qc] 34)).alloc (.cells #[.int .i64 W', .int .i64 R', .slice p' ins'.length pc', .slice q' out'.length qc'] 34)) wc) => ho'.keep (bk_tr KW.out hb))
      have hsz := sz1 w (.cells #[.int .i64 W, .int .i64 R, .slice p ins.length pc, .slice q out.length qc] 34)
      rw [hsz] at HD
      clear hsz
      clear hi ho hi' ho'
      generalize sameC W R W' R' ins ins' out out' = res at HRES ⊢
      unfold SP
      go_enter Tryz.func36, Tryz.ntmps36
      go_upto_region 1 with (fail)
      generalize (w.alloc (.cells #[.int .i64 W, .int .i64 R, .slice p ins.length pc, .slice q out.length qc] 34)).alloc (.cells #[.int .i64 W', .int .i64 R', .slice p' ins'.length pc', .slice q' out'.length qc'] 34) = w0 at KW HC HD RI1 RI2 RO1 RO2 ⊢
      obtain ⟨t0, t1, t2, t3⟩ := HC.out _ (BK.refl w0)
      obtain ⟨u0, u1, u2, u3⟩ := HD.out _ (BK.refl w0)
      go_wp2_with fail
      go_ret
      exact ⟨ret_bool HRES.out.symm, KW.out⟩
  · have HRES := Lib.hid (show sameC W R W' R' ins ins' out out' = false from sameC_no (fun h => hw h.1))
    have b3 : (W != W') = true := by simpa using hw
    clear hw
    have KW := Lib.hid (bk_alloc (bk_alloc (BK.refl w) (.cells #[.int .i64 W, .int .i64 R, .slice p ins.length pc, .slice q out.length qc] 34)) (.cells #[.int .i64 W', .int .i64 R', .slice p' ins'.length pc', .slice q' out'.length qc'] 34))
    have HC := Lib.hid (fun wc (hb : BK ((w.alloc (.cells #[.int .i64 W, .int .i64 R, .slice p ins.length pc, .slice q out.length qc] 34)).alloc (.cells #[.int .i64 W', .int .i64 R', .slice p' ins'.length pc', .slice q' out'.length qc'] 34)) wc) => ((b4_new w (.int .i64 W) (.int .i64 R) (.slice p ins.length pc) (.slice q out.length qc) 34).keep (bk_alloc (BK.refl _) (.cells #[.int .i64 W', .int .i64 R', .slice p' ins'.length pc', .slice q' out'.length qc'] 34))).keep hb)
    have HD := Lib.hid (fun wc (hb : BK ((w.alloc (.cells #[.int .i64 W, .int .i64 R, .slice p ins.length pc, .slice q out.length qc] 34)).alloc (.cells #[.int .i64 W', .int .i64 R', .slice p' ins'.length pc', .slice q' out'.length qc'] 34)) wc) => (b4_new (w.alloc (.cells #[.int .i64 W, .int .i64 R, .slice p ins.length pc, .slice q out.length qc] 34)) (.int .i64 W') (.int .i64 R') (.slice p' ins'.length pc') (.slice q' out'.length qc') 34).keep hb)
    have RI1 := Lib.hid (fun wc (hb : BK ((w.alloc (.cells #[.int .i64 W, .int .i64 R, .slice p ins.length pc, .slice q out.length qc] 34)).alloc (.cells #[.int .i64 W', .int .i64 R', .slice p' ins'.length pc', .slice q' out'.length qc'] 34)) wc) => hi.keep (bk_tr KW.out hb))
    have RI2 := Lib.hid (fun wc (hb : BK ((w.alloc (.cells #[.int .i64 W, .int .i64 R, .slice p ins.length pc, .slice q out.length qc] 34)).alloc (.cells #[.int .i64 W', .int .i64 R', .slice p' ins'.length pc', .slice q' out'.length qc'] 34)) wc) => hi'.keep (bk_tr KW.out hb))
    have RO1 := Lib.hid (fun wc (hb : BK ((w.alloc (.cells #[.int .i64 W, .int .i64 R, .slice p ins.length pc, .slice q out.length qc] 34)).alloc (.cells #[.int .i64 W', .int .i64 R', .slice p' ins'.length pc', .slice q' out'.length qc'] 34)) wc) => ho.keep (bk_tr KW.out hb))
    have RO2 := Lib.hid (fun wc (hb : BK ((w.alloc (.cells #[.int .i64 W, .int .i64 R, .slice p ins.length pc, .slice q out.length qc] 34)).alloc (.cells #[.int .i64 W', .int .i64 R', .slice p' ins'.length pc', .slice q' out'.length qc'] 34)) wc) => ho'.keep (bk_tr KW.out hb))
    have hsz := sz1 w (.cells #[.int .i64 W, .int .i64 R, .slice p ins.length pc, .slice q out.length qc] 34)
    rw [hsz] at HD
    clear hsz
    clear hi ho hi' ho'
    generalize sameC W R W' R' ins ins' out out' = res at HRES ⊢
    unfold SP
    go_enter Tryz.func36, Tryz.ntmps36
    go_upto_region 1 with (fail)
    generalize (w.alloc (.cells #[.int .i64 W, .int .i64 R, .slice p ins.length pc, .slice q out.length qc] 34)).alloc (.cells #[.int .i64 W', .int .i64 R', .slice p' ins'.length pc', .slice q' out'.length qc'] 34) = w0 at KW HC HD RI1 RI2 RO1 RO2 ⊢
    obtain ⟨t0, t1, t2, t3⟩ := HC.out _ (BK.refl w0)
    obtain ⟨u0, u1, u2, u3⟩ := HD.out _ (BK.refl w0)
    go_wp2_with fail
    go_ret
    exact ⟨ret_bool HRES.out.symm, KW.out⟩
theorem sameC_eq {W R W' R' : Int} {ins ins' : List I6} {out out' : List Int} : sameC W R W' R' ins ins' out out' = (decide (W = W') && decide (R = R') && eqI ins ins' && eqL out out') := by
  by_cases hw : W = W' <;> by_cases hr : R = R' <;> by_cases hi : ins = ins' <;> by_cases ho : out = out' <;> simp [sameC, eqI, eqL, hw, hr, hi, ho]
set_option maxRecDepth 100000 in
set_option maxHeartbeats 4000000 in
theorem same35 (W R W' R' : Int) (p q p' q' : Option Addr) (pc qc pc' qc' : Nat) (ins ins' : List I6) (out out' : List Int) (w : World) (hi : RI w p pc ins) (ho : RO w q qc out) (hi' : RI w p' pc' ins') (ho' : RO w q' qc' out') (li : ins.length ≤ 100000) (lo : out.length ≤ 100000) (li' : ins'.length ≤ 100000) (lo' : out'.length ≤ 100000) : Calls Tryz.prog 35 #[.agg #[.int .i64 W, .int .i64 R, .slice p ins.length pc, .slice q out.length qc], .agg #[.int .i64 W', .int .i64 R', .slice p' ins'.length pc', .slice q' out'.length qc']] w (SP w (sameC W R W' R' ins ins' out out')) := by
  have E1 := Lib.hid (fun wc (h1 : RI wc p pc ins) (h2 : RI wc p' pc' ins') => eq54 ins ins' p p' pc pc' wc h1 h2 li li')
  have E2 := Lib.hid (fun wc (h1 : RO wc q qc out) (h2 : RO wc q' qc' out') => eq55 out out' q q' qc qc' wc h1 h2 lo lo')
  rw [sameC_eq]
  have KW := Lib.hid (bk_alloc (bk_alloc (BK.refl w) (.cells #[.int .i64 W, .int .i64 R, .slice p ins.length pc, .slice q out.length qc] 34)) (.cells #[.int .i64 W', .int .i64 R', .slice p' ins'.length pc', .slice q' out'.length qc'] 34))
  have HC := Lib.hid (fun wc (hb : BK ((w.alloc (.cells #[.int .i64 W, .int .i64 R, .slice p ins.length pc, .slice q out.length qc] 34)).alloc (.cells #[.int .i64 W', .int .i64 R', .slice p' ins'.length pc', .slice q' out'.length qc'] 34)) wc) => ((b4_new w (.int .i64 W) (.int .i64 R) (.slice p ins.length pc) (.slice q out.length qc) 34).keep (bk_alloc (BK.refl _) (.cells #[.int .i64 W', .int .i64 R', .slice p' ins'.length pc', .slice q' out'.length qc'] 34))).keep hb)
  have HD := Lib.hid (fun wc (hb : BK ((w.alloc (.cells #[.int .i64 W, .int .i64 R, .slice p ins.length pc, .slice q out.length qc] 34)).alloc (.cells #[.int .i64 W', .int .i64 R', .slice p' ins'.length pc', .slice q' out'.length qc'] 34)) wc) => (b4_new (w.alloc (.cells #[.int .i64 W, .int .i64 R, .slice p ins.length pc, .slice q out.length qc] 34)) (.int .i64 W') (.int .i64 R') (.slice p' ins'.length pc') (.slice q' out'.length qc') 34).keep hb)
  have RI1 := Lib.hid (fun wc (hb : BK ((w.alloc (.cells #[.int .i64 W, .int .i64 R, .slice p ins.length pc, .slice q out.length qc] 34)).alloc (.cells #[.int .i64 W', .int .i64 R', .slice p' ins'.length pc', .slice q' out'.length qc'] 34)) wc) => hi.keep (bk_tr KW.out hb))
  have RI2 := Lib.hid (fun wc (hb : BK ((w.alloc (.cells #[.int .i64 W, .int .i64 R, .slice p ins.length pc, .slice q out.length qc] 34)).alloc (.cells #[.int .i64 W', .int .i64 R', .slice p' ins'.length pc', .slice q' out'.length qc'] 34)) wc) => hi'.keep (bk_tr KW.out hb))
  have RO1 := Lib.hid (fun wc (hb : BK ((w.alloc (.cells #[.int .i64 W, .int .i64 R, .slice p ins.length pc, .slice q out.length qc] 34)).alloc (.cells #[.int .i64 W', .int .i64 R', .slice p' ins'.length pc', .slice q' out'.length qc'] 34)) wc) => ho.keep (bk_tr KW.out hb))
  have RO2 := Lib.hid (fun wc (hb : BK ((w.alloc (.cells #[.int .i64 W, .int .i64 R, .slice p ins.length pc, .slice q out.length qc] 34)).alloc (.cells #[.int .i64 W', .int .i64 R', .slice p' ins'.length pc', .slice q' out'.length qc'] 34)) wc) => ho'.keep (bk_tr KW.out hb))
  have hsz := sz1 w (.cells #[.int .i64 W, .int .i64 R, .slice p ins.length pc, .slice q out.length qc] 34)
  rw [hsz] at HD
  clear hsz
  clear hi ho hi' ho'
  unfold SP
  generalize eqI ins ins' = x1 at E1 ⊢
  generalize eqL out out' = x2 at E2 ⊢
  generalize hv : (decide (W = W') && decide (R = R') && x1 && x2) = v
  have HV := Lib.hid hv
  clear hv
  go_enter Tryz.func35, Tryz.ntmps35
  go_upto_region 1 with (fail)
  generalize (w.alloc (.cells #[.int .i64 W, .int .i64 R, .slice p ins.length pc, .slice q out.length qc] 34)).alloc (.cells #[.int .i64 W', .int .i64 R', .slice p' ins'.length pc', .slice q' out'.length qc'] 34) = w0 at KW HC HD RI1 RI2 RO1 RO2 ⊢
  obtain ⟨t0, t1, t2, t3⟩ := HC.out _ (BK.refl w0)
  obtain ⟨u0, u1, u2, u3⟩ := HD.out _ (BK.refl w0)
  by_cases hw : W = W'
  · have b3 : (W == W') = true := by simpa using hw
    have c3 : decide (W = W') = true := by simpa using hw
    by_cases hr : R = R'
    · have b4 : (R == R') = true := by simpa using hr
      have c4 : decide (R = R') = true := by simpa using hr
      have HV2 := Lib.hid (show v = (decide (W = W') && decide (R = R') && x1 && x2) from HV.out.symm)
      rw [c3, c4] at HV2
      clear hw hr c3 c4 HV
      have D1 := Lib.hid (E1.out w0 (RI1.out _ (BK.refl w0)) (RI2.out _ (BK.refl w0)))
      cases x1 with
      | false =>
        go_wp2_with fail
        refine D1.out.mono ?_
        rintro e w1 ⟨rfl, h1⟩
        have K1 := Lib.hid h1
        clear h1 D1 t0 t1 t2 t3 u0 u1 u2 u3
        go_wp2_with fail
        go_ret
        exact ⟨ret_bool (by rw [HV2.out]; simp), bk_tr KW.out K1.out⟩
      | true =>
        go_wp2_with fail
        refine D1.out.mono ?_
        rintro e w1 ⟨rfl, h1⟩
        have K1 := Lib.hid h1
        have D2 := Lib.hid (E2.out w1 (RO1.out _ K1.out) (RO2.out _ K1.out))
        clear h1 D1 t0 t1 t2 t3 u0 u1 u2 u3
        obtain ⟨t0, t1, t2, t3⟩ := HC.out _ K1.out
        obtain ⟨u0, u1, u2, u3⟩ := HD.out _ K1.out
        go_wp2_with fail
        refine D2.out.mono ?_
        rintro e w2 ⟨rfl, h2⟩
        have K2 := Lib.hid (bk_tr K1.out h2)
        clear h2 D2 t0 t1 t2 t3 u0 u1 u2 u3
        go_wp2_with fail
        go_ret
        exact ⟨ret_bool (by rw [HV2.out]; simp), bk_tr KW.out K2.out⟩
    · have b4 : (R == R') = false := by simpa using hr
      have c4 : decide (R = R') = false := by simpa using hr
      have HV2 := Lib.hid (show v = (decide (W = W') && decide (R = R') && x1 && x2) from HV.out.symm)
      rw [c3, c4] at HV2
      clear hw hr c3 c4 HV
      go_wp2_with fail
      go_ret
      exact ⟨ret_bool (by rw [HV2.out]; simp), KW.out⟩
  · have b3 : (W == W') = false := by simpa using hw
    have c3 : decide (W = W') = false := by simpa using hw
    have HV2 := Lib.hid (show v = (decide (W = W') && decide (R = R') && x1 && x2) from HV.out.symm)
    rw [c3] at HV2
    clear hw c3 HV
    go_wp2_with fail
    go_ret
    exact ⟨ret_bool (by rw [HV2.out]; simp), KW.out⟩
def fewB (ins : List I6) (out : List Int) : Bool := decide (ins.length ≤ 400) && decide (out.length ≤ 100)
set_option maxHeartbeats 1000000 in
theorem few22 (W R : Int) (p q : Option Addr) (pc qc : Nat) (ins : List I6) (out : List Int) (w : World) : Calls Tryz.prog 22 #[.agg #[.int .i64 W, .int .i64 R, .slice p ins.length pc, .slice q out.length qc]] w fun e w' => e = .returned (.bool (fewB ins out)) ∧ BK w w' := by
  have KW := Lib.hid (bk_alloc (BK.refl w) (.cells #[.int .i64 W, .int .i64 R, .slice p ins.length pc, .slice q out.length qc] 34))
  have HF := Lib.hid (show fewB ins out = (decide ((ins.length : Int) ≤ 400) && decide ((out.length : Int) ≤ 100)) from by unfold fewB; rw [Bool.eq_iff_iff]; simp; omega)
  rw [HF.out]
  by_cases h1 : (ins.length : Int) ≤ 400 <;> by_cases h2 : (out.length : Int) ≤ 100
  all_goals
    go_enter Tryz.func22, Tryz.ntmps22
    go_wp2_with fail
    go_ret
    exact ⟨ret_bool (by simp [h1, h2]), KW.out⟩
/-! part VD -/
set_option maxRecDepth 100000 in
set_option maxHeartbeats 4000000 in
theorem copy32 (W R : Int) (p q : Option Addr) (pc qc : Nat) (ins : List I6) (out : List Int) (w : World) (hi : RI w p pc ins) (ho : RO w q qc out) (li : ins.length ≤ 1000) (lo : out.length ≤ 1000) :
    Calls Tryz.prog 32 #[.agg #[.int .i64 W, .int .i64 R, .slice p ins.length pc, .slice q out.length qc]] w fun e w' => ∃ p1 c1 q1 d1, e = .returned (.agg #[.int .i64 W, .int .i64 R, .slice p1 ins.length c1, .slice q1 out.length d1]) ∧ w'.ownsRow w.heap.size 42 6 (.slice p1 ins.length c1) ins.length (flat6 ins) ∧ w'.ownsRow w.heap.size 3 1 (.slice q1 out.length d1) out.length (ints out) ∧ BK w w' := by
  have N0 := Lib.hid (show C4 (w.alloc (.cells #[.int .i64 W, .int .i64 R, .slice p ins.length pc, .slice q out.length qc] 34)) w.heap.size W R (.slice p ins.length pc) (.slice q out.length qc) from heap_alloc_new w _)
  have K0 := Lib.hid (bk_alloc (BK.refl w) (.cells #[.int .i64 W, .int .i64 R, .slice p ins.length pc, .slice q out.length qc] 34))
  have HI := Lib.hid hi
  have HO := Lib.hid ho
  clear hi ho
  go_enter Tryz.func32, Tryz.ntmps32
  go_upto_region 1 with (fail)
  have hsz := sz1 w (.cells #[.int .i64 W, .int .i64 R, .slice p ins.length pc, .slice q out.length qc] 34)
  have R0 := Lib.hid (show C4 ((w.alloc (.cells #[.int .i64 W, .int .i64 R, .slice p ins.length pc, .slice q out.length qc] 34)).alloc (.cells #[.int .i64 0, .int .i64 0, .slice none 0 0, .slice none 0 0] 34)) (w.heap.size + 1) 0 0 (.slice none 0 0) (.slice none 0 0) from by
    have h := heap_alloc_new (w.alloc (.cells #[.int .i64 W, .int .i64 R, .slice p ins.length pc, .slice q out.length qc] 34)) (.cells #[.int .i64 0, .int .i64 0, .slice none 0 0, .slice none 0 0] 34)
    rw [hsz] at h
    exact h)
  have N2 := Lib.hid (N0.out.keep (bk_alloc (BK.refl _) (.cells #[.int .i64 0, .int .i64 0, .slice none 0 0, .slice none 0 0] 34)))
  have K2 := Lib.hid (bk_alloc K0.out (.cells #[.int .i64 0, .int .i64 0, .slice none 0 0, .slice none 0 0] 34))
  clear hsz N0 K0
  generalize (w.alloc (.cells #[.int .i64 W, .int .i64 R, .slice p ins.length pc, .slice q out.length qc] 34)).alloc (.cells #[.int .i64 0, .int .i64 0, .slice none 0 0, .slice none 0 0] 34) = w2 at R0 N2 K2 ⊢
  have LT := Lib.hid (show w.heap.size + 1 < w2.heap.size from (Array.getElem?_eq_some_iff.1 R0.out).1)
  have D := Lib.hid (clone44 ins p pc w2 (HI.out.keep K2.out) li)
  obtain ⟨c0, c1, c2, c3⟩ := N2.out.b4
  have f2 := N2.out.fr 2
  go_wp2_with fail
  refine D.out.mono ?_
  rintro e w3 ⟨v, rfl, o3, b3⟩
  obtain ⟨p1, d1, rfl⟩ := own_shape o3
  have O3 := Lib.hid o3
  have N3 := Lib.hid (N2.out.keep b3)
  have R3 := Lib.hid (R0.out.keep b3)
  have K3 := Lib.hid (bk_tr K2.out b3)
  have LT3 := Lib.hid (bk_size b3)
  clear o3 b3 D c0 c1 c2 c3 f2
  obtain ⟨c0, c1, c2, c3⟩ := N3.out.b4
  have f2 := N3.out.fr 2
  have N4 := Lib.hid (N3.out.set2 (.slice p1 ins.length d1))
  have R4 := Lib.hid (R3.out.st (st_set w3 w.heap.size 2 (.slice p1 ins.length d1)) (fun e => by have e : w.heap.size + 1 = w.heap.size := e; omega))
  have K4 := Lib.hid (bk_set K3.out ⟨w.heap.size, 2, none⟩ (.slice p1 ins.length d1) (Nat.le_refl _))
  have O4 := Lib.hid (own_set O3.out ⟨w.heap.size, 2, none⟩ (.slice p1 ins.length d1) (by have := LT.out; show w.heap.size < _; omega))
  have S4 := Lib.hid (show (w3.setCell ⟨w.heap.size, 2, none⟩ (.slice p1 ins.length d1)).heap.size = w3.heap.size from by simp [World.setCell])
  go_upto_region 2 with (fail)
  generalize w3.setCell ⟨w.heap.size, 2, none⟩ (.slice p1 ins.length d1) = w4 at N4 R4 K4 O4 S4 ⊢
  clear c0 c1 c2 c3 f2 N3 R3 K3 O3
  have D := Lib.hid (clone45 out q qc w4 (HO.out.keep K4.out) lo)
  obtain ⟨c0, c1, c2, c3⟩ := N4.out.b4
  go_wp2_with fail
  refine D.out.mono ?_
  rintro e w5 ⟨v, rfl, o5, b5⟩
  obtain ⟨q1, d2, rfl⟩ := own_shape o5
  have O5 := Lib.hid o5
  have P5 := Lib.hid (own_below O4.out b5)
  have N5 := Lib.hid (N4.out.keep b5)
  have R5 := Lib.hid (R4.out.keep b5)
  have K5 := Lib.hid (bk_tr K4.out b5)
  have LT5 := Lib.hid (show w2.heap.size ≤ w4.heap.size from by have := S4.out; have := LT3.out; omega)
  clear o5 b5 D c0 c1 c2 c3
  obtain ⟨c0, c1, c2, c3⟩ := N5.out.b4
  have f3 := N5.out.fr 3
  have N6 := Lib.hid (N5.out.set3 (.slice q1 out.length d2))
  have R6 := Lib.hid (R5.out.st (st_set w5 w.heap.size 3 (.slice q1 out.length d2)) (fun e => by have e : w.heap.size + 1 = w.heap.size := e; omega))
  have K6 := Lib.hid (bk_set K5.out ⟨w.heap.size, 3, none⟩ (.slice q1 out.length d2) (Nat.le_refl _))
  have O6 := Lib.hid (own_set O5.out ⟨w.heap.size, 3, none⟩ (.slice q1 out.length d2) (by have := LT.out; have := LT5.out; show w.heap.size < _; omega))
  have P6 := Lib.hid (own_set P5.out ⟨w.heap.size, 3, none⟩ (.slice q1 out.length d2) (by have := LT.out; show w.heap.size < _; omega))
  go_upto_region 3 with (fail)
  generalize w5.setCell ⟨w.heap.size, 3, none⟩ (.slice q1 out.length d2) = w6 at N6 R6 K6 O6 P6 ⊢
  clear c0 c1 c2 c3 f3 N5 R5 K5 O5 P5
  obtain ⟨c0, c1, c2, c3⟩ := N6.out.b4
  obtain ⟨r0, r1, r2, r3⟩ := R6.out.b4
  have g0 := R6.out.fr 0
  have g1 := R6.out.fr 1
  have g2 := R6.out.fr 2
  have g3 := R6.out.fr 3
  have E := Lib.hid (cod_all R6.out K6.out (Nat.le_succ _) W R (.slice p1 ins.length d1) (.slice q1 out.length d2))
  unfold cod at E
  go_wp2_with fail
  generalize hZ : World.setCell _ ⟨w.heap.size + 1, 3, none⟩ _ = Z at E ⊢
  clear hZ c0 c1 c2 c3 r0 r1 r2 r3 g0 g1 g2 g3
  obtain ⟨c0, c1, c2, c3⟩ := E.out.1.b4
  refine bodyPost_ret (v := .agg #[.int .i64 W, .int .i64 R, .slice p1 ins.length d1, .slice q1 out.length d2]) (by simp [results, Tryz.results32, go_sem, c0, c1, c2, c3]) rfl ?_
  have hl := LT.out
  have hl5 := LT5.out
  exact ⟨p1, d1, q1, d2, rfl, own_mono (own_at P6.out fun k hk => E.out.2.2.block k (P6.out.lt k hk).2 (fun e => by have e : k = w.heap.size + 1 := e; have := (P6.out.lt k hk).1; omega)) (by omega), own_mono (own_at O6.out fun k hk => E.out.2.2.block k (O6.out.lt k hk).2 (fun e => by have e : k = w.heap.size + 1 := e; have := (O6.out.lt k hk).1; omega)) (by omega), E.out.2.1⟩
/-! part WE -/
theorem sB_app (a b : List UInt8) : sB a ++ sB b = sB (a ++ b) := by apply bl_inj; rw [bl_app]; rfl
theorem sB_sz (a : List UInt8) : (sB a).size = a.length := rfl
theorem regT_le {n : Int} (h : In64 n) : (regT n).length ≤ 22 := by
  have := Lib.itoa_length_le n h.1 h.2
  show (114 :: Lib.itoa n).length ≤ 22
  simp; omega
def rgsP (l : List Int) : List UInt8 := tl32 (regsT l)
theorem rgsP_snoc (l : List Int) (k : Nat) (h : k < l.length) : rgsP (l.take (k + 1)) = rgsP (l.take k) ++ ([32, 114] ++ Lib.itoa l[k]) := by
  unfold rgsP regsT
  rw [List.take_add_one, List.getElem?_eq_getElem h, List.map_append, tl32_app]
  show _ ++ tl32 [regT l[k]] = _
  show _ ++ (32 :: regT l[k] ++ []) = _
  rw [List.append_nil]
  rfl
theorem rgsP_len : ∀ l : List Int, (∀ x ∈ l, In64 x) → (rgsP l).length ≤ l.length * 23
  | [], _ => by simp [rgsP, regsT, tl32]
  | x :: r, h => by
    have ih := rgsP_len r (fun y hy => h y (by simp [hy]))
    have hx := regT_le (h x (by simp))
    have e : (rgsP (x :: r)).length = (regT x).length + 1 + (rgsP r).length := by
      show (32 :: regT x ++ tl32 (regsT r)).length = _
      rw [List.length_append, List.length_cons]
      rfl
    rw [e, List.length_cons, Nat.add_mul]
    generalize (rgsP r).length = a at *
    generalize (regT x).length = b at *
    generalize r.length = c at *
    omega
set_option maxRecDepth 100000 in
set_option maxHeartbeats 4000000 in
theorem regs53 (l : List Int) (hl : l.length ≤ 100000) (h64 : ∀ x ∈ l, In64 x) (w : World) (p : Option Addr) (c : Nat) (hr : RO w p c l) : Calls Tryz.prog 53 #[.slice p l.length c] w fun e w' => e = .returned (.string (sB (rgsP l))) ∧ BK w w' := by
  have HR := Lib.hid hr
  have H64 := Lib.hid h64
  have HLEN := Lib.hid (fun k => rgsP_len (l.take k) (fun x hx => h64 x (List.mem_of_mem_take hx)))
  clear hr h64
  go_enter Tryz.func53, Tryz.ntmps53
  go_wp2_with fail
  go_loopw [3, 4] (fun v i wr => ∃ k, k ≤ l.length ∧ i = .int .i64 (k : Int) ∧ v = .string (sB (rgsP (l.take k))) ∧ BK w wr) (fun _ i _ => l.length - (intOf i).toNat)
  case atStart => exact ⟨0, Nat.zero_le _, rfl, rfl, BK.refl _⟩
  case round =>
    obtain ⟨k, hk, rfl, rfl, hb⟩ := hrel
    have HB := Lib.hid hb
    clear hb
    by_cases e : k = l.length
    · subst e
      have hd : decide (l.length < l.length) = false := by simp
      rw [List.take_length]
      go_wp2_with fail
      go_ret
      exact ⟨rfl, HB.out⟩
    · have hlt : k < l.length := by omega
      have hd : decide (k < l.length) = true := by simpa using hlt
      obtain ⟨b, o, rfl, hc⟩ := (HR.out.keep HB.out).get k hlt
      have ei : IntKind.i64.wrap ((k : Int) + 1) = (k : Int) + 1 := IntWalk.i64_in _ (by omega)
      have hki : (k : Int) < (l.length : Int) := by omega
      have HLT := Lib.hid hlt
      have HE := Lib.hid (rgsP_snoc l k hlt)
      have HS := Lib.hid (show (rgsP (l.take k)).length ≤ 2300000 from by have h1 := HLEN.out k; have h2 : (l.take k).length ≤ 100000 := (by rw [List.length_take]; omega); omega)
      have HI := Lib.hid (Lib.itoa_length_le l[k] (H64.out _ (List.getElem_mem hlt)).1 (H64.out _ (List.getElem_mem hlt)).2)
      have C := Lib.hid (rint14 l[k] (H64.out _ (List.getElem_mem hlt)) wr)
      generalize l[k] = x at hc HE C HI
      generalize rgsP (l.take k) = t at HE HS ⊢
      clear e
      have s1 : ¬ 9223372036854775807 < t.length + 2 := by have := HS.out; omega
      have s2 : ¬ 9223372036854775807 < (sB t).size + 2 := by rw [sB_sz]; exact s1
      have s3 : ¬ 9223372036854775807 < t.length + 2 + (Lib.itoa x).length := by have := HS.out; have := HI.out; omega
      have s4 : ¬ 9223372036854775807 < (sB t).size + 2 + (Lib.itoa x).length := by rw [sB_sz]; exact s3
      have EC := Lib.hid (show (sB t ++ ⟨#[32, 114]⟩) ++ ⟨(Lib.itoa x).toArray⟩ = sB (t ++ ([32, 114] ++ Lib.itoa x)) from by
        rw [← sB_app, ← sB_app, ← ByteArray.append_assoc]; rfl)
      go_wp2_with fail
      refine C.out.mono ?_
      rintro e w1 ⟨rfl, hb1⟩
      have K1 := Lib.hid (bk_tr HB.out hb1)
      clear hb1 hc
      go_wp2_with fail
      go_roundw
      case rel => exact ⟨k + 1, by have := HLT.out; omega, by go_num, by rw [HE.out, ← EC.out], K1.out⟩
      case measure => have := HLT.out; simp [intOf]; omega
/-! part WF -/
def md (i : I6) : List UInt8 := nameL i.op ++ (if dfB i.op = true then rgsP [i.dst] else [])
def md2 (i : I6) : List UInt8 := md i ++ (if i.op = 1 then 32 :: wrn 10 i.imm.toNat else [])
theorem jn_mid (i : I6) : jn (insW i) = md2 i ++ rgsP (usesL i) := by
  have hA : tl32 (if dfB i.op = true then [regT i.dst] else []) = if dfB i.op = true then rgsP [i.dst] else [] := by split <;> rfl
  have hB : tl32 (if i.op = 1 then [wrn 10 i.imm.toNat] else []) = if i.op = 1 then 32 :: wrn 10 i.imm.toNat else [] := by
    split
    · show 32 :: wrn 10 i.imm.toNat ++ [] = _
      simp
    · rfl
  unfold insW md2 md
  show nameL i.op ++ tl32 ((if dfB i.op = true then [regT i.dst] else []) ++ (if i.op = 1 then [wrn 10 i.imm.toNat] else []) ++ regsT (usesL i)) = _
  rw [tl32_app, tl32_app, hA, hB]
  show nameL i.op ++ (_ ++ _ ++ rgsP (usesL i)) = _
  simp only [List.append_assoc]
theorem nameL_len4 (op : Int) : (nameL op).length ≤ 40 := by
  unfold nameL
  split
  · have : ∀ n : Nat, (nmT.getD n []).length ≤ 40 := fun n => by
      by_cases h : n < nmT.length
      · rw [List.getD_eq_getElem?_getD, List.getElem?_eq_getElem h, Option.getD_some]
        have : ∀ x ∈ nmT, x.length ≤ 40 := by decide
        exact this _ (List.getElem_mem h)
      · rw [List.getD_eq_getElem?_getD, List.getElem?_eq_none (by omega)]; simp
    exact this _
  · simp
set_option maxRecDepth 100000 in
set_option maxHeartbeats 4000000 in
theorem line52 (i : I6) (h : I64 i) (w : World) : Calls Tryz.prog 52 #[.agg #[.int .i64 i.op, .int .i64 i.dst, .int .i64 i.a, .int .i64 i.b, .int .i64 i.c, .int .u64 i.imm]] w fun e w' => e = .returned (.string (sB (jn (insW i)))) ∧ BK w w' := by
  have HK := Lib.hid (bk_alloc (BK.refl w) (.cells #[.int .i64 i.op, .int .i64 i.dst, .int .i64 i.a, .int .i64 i.b, .int .i64 i.c, .int .u64 i.imm] 42))
  have HN := Lib.hid (heap_alloc_new w (.cells #[.int .i64 i.op, .int .i64 i.dst, .int .i64 i.a, .int .i64 i.b, .int .i64 i.c, .int .u64 i.imm] 42))
  have HB := Lib.hid (show w.heap.size < (w.alloc (.cells #[.int .i64 i.op, .int .i64 i.dst, .int .i64 i.a, .int .i64 i.b, .int .i64 i.c, .int .u64 i.imm] 42)).heap.size from box_lt w _ _)
  have HD := Lib.hid (fun W => def28 i W)
  have HU := Lib.hid (fun W => uses31 i W)
  have LNM := Lib.hid (nameL_len4 i.op)
  have HW := Lib.hid (wrn_len 10 i.imm.toNat (.inl rfl) (by have := h.m1; have := h.m0; omega))
  have HL := Lib.hid (show (rgsP (usesL i)).length ≤ 69 from by have h1 := rgsP_len (usesL i) (uses64 h); have h2 := uses_len i; omega)
  have HDL := Lib.hid (show (rgsP [i.dst]).length ≤ 23 from by have h1 := rgsP_len [i.dst] (by simp; exact h.d); simpa using h1)
  have HR := Lib.hid (fun W p c hr => regs53 (usesL i) (by have := uses_len i; omega) (uses64 h) W p c hr)
  have HRD := Lib.hid (show ∀ W, Calls Tryz.prog 53 #[.slice (some ⟨W.heap.size, 0, none⟩) 1 1] (W.alloc (.cells #[.int .i64 i.dst] 3)) fun e w' => e = .returned (.string (sB (rgsP [i.dst]))) ∧ BK (W.alloc (.cells #[.int .i64 i.dst] 3)) w' from fun W => regs53 [i.dst] (by simp) (by simp; exact h.d) (W.alloc (.cells #[.int .i64 i.dst] 3)) _ 1 (ro_one W i.dst))
  have HDEC := Lib.hid (show ∀ W, Calls Tryz.prog 73 #[.int .u64 i.imm] W fun e w' => e = .returned (.string (sB (wrn 10 i.imm.toNat))) ∧ BK W w' from fun W => by
    have := rdec10 i.imm.toNat (by have := h.m1; have := h.m0; omega) W
    rw [show ((i.imm.toNat : Nat) : Int) = i.imm from Int.toNat_of_nonneg h.m0] at this
    exact this)
  have HNM := Lib.hid (show ∀ W, Calls Tryz.prog 15 #[.int .i64 i.op] W fun e w' => e = .returned (.string (sB (nameL i.op))) ∧ BK W w' from fun W => name15 i.op W)
  clear h
  go_enter Tryz.func52, Tryz.ntmps52
  go_upto_region 1 with (fail)
  generalize w.alloc (.cells #[.int .i64 i.op, .int .i64 i.dst, .int .i64 i.a, .int .i64 i.b, .int .i64 i.c, .int .u64 i.imm] 42) = wB at HK HN HB ⊢
  have NN := Lib.hid (fun W (hb : BK wB W) => (bk_block hb HB.out).trans HN.out)
  clear HN
  have c0 := cell_of_row _ w.heap.size 0 _ 42 (0, 0) (NN.out wB (BK.refl _))
  have C := Lib.hid (HNM.out wB)
  generalize hnm : nameL i.op = nm at C LNM
  clear HNM
  go_upto_region 2 with (go_at_call 15; refine C.out.mono ?_; rintro e w1 ⟨rfl, b1⟩)
  have K1 := Lib.hid b1
  clear b1 c0 C
  have C := Lib.hid (HD.out w1)
  have N := NN.out w1 K1.out
  have c0 := cell_of_row _ w.heap.size 0 _ 42 (0, 0) N
  have c1 := cell_of_row _ w.heap.size 1 _ 42 (0, 0) N
  have c2 := cell_of_row _ w.heap.size 2 _ 42 (0, 0) N
  have c3 := cell_of_row _ w.heap.size 3 _ 42 (0, 0) N
  have c4 := cell_of_row _ w.heap.size 4 _ 42 (0, 0) N
  have c5 := cell_of_row _ w.heap.size 5 _ 42 (0, 0) N
  clear N
  go_upto_region 3 with (go_at_call 28; refine C.out.mono ?_; rintro e w2 ⟨rfl, hb2⟩)
  have K2 := Lib.hid (bk_tr K1.out hb2)
  clear hb2 c0 c1 c2 c3 c4 c5 K1 C
  cases hd : dfB i.op with
  | true =>
    have HMID := Lib.hid (show md i = nm ++ rgsP [i.dst] from by unfold md; rw [if_pos hd, hnm])
    have hdv : defV i = i.dst := by unfold defV; rw [if_pos hd]
    have D := Lib.hid (HRD.out w2)
    have KA := Lib.hid (bk_alloc (BK.refl w2) (.cells #[.int .i64 i.dst] 3))
    have g1 : ¬ 9223372036854775807 < (nm).length + (rgsP [i.dst]).length := by have := LNM.out; have := HDL.out; omega
    have g2 : ¬ 9223372036854775807 < (sB (nm)).size + (sB (rgsP [i.dst])).size := g1
    go_wp2_with fail
    refine D.out.mono ?_
    rintro e w3 ⟨rfl, b3⟩
    have K3 := Lib.hid (bk_tr K2.out (bk_tr KA.out b3))
    clear b3 D KA
    have EQ := Lib.hid (sB_app nm (rgsP [i.dst]))
    have LT1 := Lib.hid (show (nm ++ rgsP [i.dst]).length ≤ 100 from by rw [List.length_append]; have := LNM.out; have := HDL.out; omega)
    go_upto_region 5 with (fail)
    rw [EQ.out]
    clear hdv EQ g1 g2
    generalize nm ++ rgsP [i.dst] = T1 at HMID LT1 ⊢
    by_cases he : i.op = 1
    · have hm2 : md2 i = T1 ++ 32 :: wrn 10 i.imm.toNat := by unfold md2; rw [if_pos he, HMID.out]
      have DC := Lib.hid (HDEC.out w3)
      have HWL := HW.out
      have gg : (T1).length + 1 ≤ 200 := by have := LT1.out; omega
      have g1 : ¬ 9223372036854775807 < (T1).length + 1 := by omega
      have g2 : ¬ 9223372036854775807 < (sB (T1)).size + 1 := g1
      have g3 : ¬ 9223372036854775807 < (T1).length + 1 + (wrn 10 i.imm.toNat).length := by omega
      have g4 : ¬ 9223372036854775807 < (sB (T1)).size + 1 + (sB (wrn 10 i.imm.toNat)).size := g3
      have LT2 := Lib.hid (show (T1 ++ 32 :: wrn 10 i.imm.toNat).length ≤ 300 from by rw [List.length_append, List.length_cons]; omega)
      have EQ := Lib.hid (show (sB (T1) ++ ⟨#[32]⟩) ++ sB (wrn 10 i.imm.toNat) = sB (T1 ++ 32 :: wrn 10 i.imm.toNat) from by rw [show (⟨#[32]⟩ : ByteArray) = sB [32] from rfl, sB_app, sB_app, List.append_assoc]; rfl)
      clear gg HWL
      have N := NN.out w3 K3.out
      have c0 := cell_of_row _ w.heap.size 0 _ 42 (0, 0) N
      have c5 := cell_of_row _ w.heap.size 5 _ 42 (0, 0) N
      clear N
      go_wp2_with fail
      refine DC.out.mono ?_
      rintro e w5 ⟨rfl, b5⟩
      have K5 := Lib.hid (bk_tr K3.out b5)
      clear b5 DC c0 c5
      go_upto_region 7 with (fail)
      rw [EQ.out]
      clear he EQ g1 g2 g3 g4
      generalize T1 ++ 32 :: wrn 10 i.imm.toNat = T2 at hm2 LT2 ⊢
      have U := Lib.hid (HU.out w5)
      have N := NN.out w5 K5.out
      have c0 := cell_of_row _ w.heap.size 0 _ 42 (0, 0) N
      have c1 := cell_of_row _ w.heap.size 1 _ 42 (0, 0) N
      have c2 := cell_of_row _ w.heap.size 2 _ 42 (0, 0) N
      have c3 := cell_of_row _ w.heap.size 3 _ 42 (0, 0) N
      have c4 := cell_of_row _ w.heap.size 4 _ 42 (0, 0) N
      have c5 := cell_of_row _ w.heap.size 5 _ 42 (0, 0) N
      clear N
      go_wp2_with fail
      refine U.out.mono ?_
      rintro e w8 ⟨p8, q8, rfl, ro8, b8⟩
      have K8 := Lib.hid (bk_tr K5.out b8)
      have R8 := Lib.hid (HR.out w8 p8 q8 ro8)
      clear ro8 b8 U c0 c1 c2 c3 c4 c5
      have g1 : ¬ 9223372036854775807 < (T2).length + (rgsP (usesL i)).length := by have := LT2.out; have := HL.out; omega
      have g2 : ¬ 9223372036854775807 < (sB (T2)).size + (sB (rgsP (usesL i))).size := g1
      go_wp2_with fail
      refine R8.out.mono ?_
      rintro e w9 ⟨rfl, b9⟩
      have K9 := Lib.hid (bk_tr K8.out b9)
      clear b9 R8
      have EQ := Lib.hid (show sB (T2) ++ sB (rgsP (usesL i)) = sB (jn (insW i)) from by rw [sB_app, jn_mid, hm2])
      go_wp2_with fail
      go_ret
      exact ⟨ret_str EQ.out, bk_tr HK.out K9.out⟩
    · have hm2 : md2 i = T1 := by unfold md2; rw [if_neg he, HMID.out]; simp
      have N := NN.out w3 K3.out
      have c0 := cell_of_row _ w.heap.size 0 _ 42 (0, 0) N
      clear N
      go_upto_region 7 with (fail)
      clear c0
      have U := Lib.hid (HU.out w3)
      have N := NN.out w3 K3.out
      have c0 := cell_of_row _ w.heap.size 0 _ 42 (0, 0) N
      have c1 := cell_of_row _ w.heap.size 1 _ 42 (0, 0) N
      have c2 := cell_of_row _ w.heap.size 2 _ 42 (0, 0) N
      have c3 := cell_of_row _ w.heap.size 3 _ 42 (0, 0) N
      have c4 := cell_of_row _ w.heap.size 4 _ 42 (0, 0) N
      have c5 := cell_of_row _ w.heap.size 5 _ 42 (0, 0) N
      clear N
      go_wp2_with fail
      refine U.out.mono ?_
      rintro e w8 ⟨p8, q8, rfl, ro8, b8⟩
      have K8 := Lib.hid (bk_tr K3.out b8)
      have R8 := Lib.hid (HR.out w8 p8 q8 ro8)
      clear ro8 b8 U c0 c1 c2 c3 c4 c5
      have g1 : ¬ 9223372036854775807 < (T1).length + (rgsP (usesL i)).length := by have := LT1.out; have := HL.out; omega
      have g2 : ¬ 9223372036854775807 < (sB (T1)).size + (sB (rgsP (usesL i))).size := g1
      go_wp2_with fail
      refine R8.out.mono ?_
      rintro e w9 ⟨rfl, b9⟩
      have K9 := Lib.hid (bk_tr K8.out b9)
      clear b9 R8
      have EQ := Lib.hid (show sB (T1) ++ sB (rgsP (usesL i)) = sB (jn (insW i)) from by rw [sB_app, jn_mid, hm2])
      go_wp2_with fail
      go_ret
      exact ⟨ret_str EQ.out, bk_tr HK.out K9.out⟩
  | false =>
    have HMID := Lib.hid (show md i = nm from by unfold md; rw [if_neg (by rw [hd]; decide), hnm]; simp)
    have he : ¬ i.op = 1 := fun e => by rw [e] at hd; revert hd; decide
    go_upto_region 5 with (fail)
    have hm2 : md2 i = nm := by unfold md2; rw [if_neg he, HMID.out]; simp
    have N := NN.out w2 K2.out
    have c0 := cell_of_row _ w.heap.size 0 _ 42 (0, 0) N
    clear N
    go_upto_region 7 with (fail)
    clear c0
    have U := Lib.hid (HU.out w2)
    have N := NN.out w2 K2.out
    have c0 := cell_of_row _ w.heap.size 0 _ 42 (0, 0) N
    have c1 := cell_of_row _ w.heap.size 1 _ 42 (0, 0) N
    have c2 := cell_of_row _ w.heap.size 2 _ 42 (0, 0) N
    have c3 := cell_of_row _ w.heap.size 3 _ 42 (0, 0) N
    have c4 := cell_of_row _ w.heap.size 4 _ 42 (0, 0) N
    have c5 := cell_of_row _ w.heap.size 5 _ 42 (0, 0) N
    clear N
    go_wp2_with fail
    refine U.out.mono ?_
    rintro e w8 ⟨p8, q8, rfl, ro8, b8⟩
    have K8 := Lib.hid (bk_tr K2.out b8)
    have R8 := Lib.hid (HR.out w8 p8 q8 ro8)
    clear ro8 b8 U c0 c1 c2 c3 c4 c5
    have g1 : ¬ 9223372036854775807 < (nm).length + (rgsP (usesL i)).length := by have := LNM.out; have := HL.out; omega
    have g2 : ¬ 9223372036854775807 < (sB (nm)).size + (sB (rgsP (usesL i))).size := g1
    go_wp2_with fail
    refine R8.out.mono ?_
    rintro e w9 ⟨rfl, b9⟩
    have K9 := Lib.hid (bk_tr K8.out b9)
    clear b9 R8
    have EQ := Lib.hid (show sB (nm) ++ sB (rgsP (usesL i)) = sB (jn (insW i)) from by rw [sB_app, jn_mid, hm2])
    go_wp2_with fail
    go_ret
    exact ⟨ret_str EQ.out, bk_tr HK.out K9.out⟩
/-! part WG -/
theorem head_eq (W R : Int) : (((⟨#[119, 105, 100, 116, 104, 32]⟩ : ByteArray) ++ ⟨(Lib.itoa W).toArray⟩) ++ ⟨#[32, 114, 101, 103, 115, 32]⟩ ++ ⟨(Lib.itoa R).toArray⟩) ++ ⟨#[10]⟩ = sB (lineP (headW W R)) := by
  apply bl_inj
  rw [bl_app, bl_app, bl_app, bl_app]
  show _ = lineP (headW W R)
  unfold lineP headW widthL regsL
  show _ = ([119, 105, 100, 116, 104] ++ (32 :: Lib.itoa W ++ (32 :: [114, 101, 103, 115] ++ (32 :: Lib.itoa R ++ [])))) ++ [10]
  show ((([119, 105, 100, 116, 104, 32] ++ Lib.itoa W) ++ [32, 114, 101, 103, 115, 32]) ++ Lib.itoa R) ++ [10] = _
  simp
set_option maxRecDepth 100000 in
set_option maxHeartbeats 4000000 in
theorem print34 (W R : Int) (p q : Option Addr) (pc qc : Nat) (ins : List I6) (out : List Int) (w : World) (hi : RI w p pc ins) (ho : RO w q qc out) (hW : In64 W) (hR : In64 R) (h64 : ∀ i ∈ ins, I64 i) (o64 : ∀ x ∈ out, In64 x) (li : ins.length ≤ 2000) (lo : out.length ≤ 1000) :
    Calls Tryz.prog 34 #[.agg #[.int .i64 W, .int .i64 R, .slice p ins.length pc, .slice q out.length qc]] w fun e w' => e = .returned (.string (sB (printP W R ins out))) ∧ BK w w' := by
  have HI := Lib.hid hi
  have HO := Lib.hid ho
  have H64 := Lib.hid h64
  have O64 := Lib.hid o64
  have HW := Lib.hid hW
  have HR := Lib.hid hR
  have HL1 := Lib.hid (headW_jn hW hR)
  have LW := Lib.hid (Lib.itoa_length_le W hW.1 hW.2)
  have LR := Lib.hid (Lib.itoa_length_le R hR.1 hR.2)
  have HL2 := Lib.hid (fun k => insP_len (ins.take k) (fun i hi => h64 i (List.mem_of_mem_take hi)))
  have HL3 := Lib.hid (rgsP_len out o64)
  have K0 := Lib.hid (bk_alloc (BK.refl w) (.cells #[.int .i64 W, .int .i64 R, .slice p ins.length pc, .slice q out.length qc] 34))
  have N0 := Lib.hid (show C4 (w.alloc (.cells #[.int .i64 W, .int .i64 R, .slice p ins.length pc, .slice q out.length qc] 34)) w.heap.size W R (.slice p ins.length pc) (.slice q out.length qc) from heap_alloc_new w _)
  have EH := Lib.hid (head_eq W R)
  clear hi ho h64 o64 hW hR
  go_enter Tryz.func34, Tryz.ntmps34
  go_upto_region 1 with (fail)
  generalize w.alloc (.cells #[.int .i64 W, .int .i64 R, .slice p ins.length pc, .slice q out.length qc] 34) = w1 at K0 N0 ⊢
  generalize w.heap.size = c at N0 ⊢
  refine wp_region_held_drew (S := fun W' => C4 W' c W R (.slice p ins.length pc) (.slice q out.length qc)) (by kernel_rfl) (N0.out.keep (bk_drew (BK.refl w1))) (fun hHeld => ?_)
  have C2 := Lib.hid (N0.out.keep (bk_drew (BK.refl w1)))
  have K2 := Lib.hid (bk_drew K0.out)
  generalize w1.drew = w2 at hHeld C2 K2 ⊢
  clear N0 K0
  refine wpAnyH_take (i := 0) (v := .pointer (some ⟨c, 0, none⟩)) rfl (by kernel_rfl) (by kernel_rfl) (by kernel_rfl) (fun _ _ _ h => h) (Or.inl ⟨by kernel_rfl, fun w hSw => by (go_simp)⟩) hHeld ?_
  try simp only [Act.put, List.setIfInBounds_toArray, List.set_cons_zero, List.set_cons_succ]
  refine wpAnyH_take (i := 5) (v := .pointer (some ⟨c, 1, none⟩)) rfl (by kernel_rfl) (by kernel_rfl) (by kernel_rfl) (fun _ _ _ h => h) (Or.inl ⟨by kernel_rfl, fun w hSw => by (go_simp)⟩) hHeld ?_
  try simp only [Act.put, List.setIfInBounds_toArray, List.set_cons_zero, List.set_cons_succ]
  refine wpAnyH_take (i := 1) (v := .int .i64 W) rfl (by kernel_rfl) (by kernel_rfl) (by kernel_rfl) (fun _ _ _ h => h) (Or.inl ⟨by kernel_rfl, fun w hSw => by (obtain ⟨z0, z1, z2, z3⟩ := C4.b4 hSw; go_simp)⟩) hHeld ?_
  try simp only [Act.put, List.setIfInBounds_toArray, List.set_cons_zero, List.set_cons_succ]
  refine wpAnyH_take (i := 6) (v := .int .i64 R) rfl (by kernel_rfl) (by kernel_rfl) (by kernel_rfl) (fun _ _ _ h => h) (Or.inl ⟨by kernel_rfl, fun w hSw => by (obtain ⟨z0, z1, z2, z3⟩ := C4.b4 hSw; go_simp)⟩) hHeld ?_
  try simp only [Act.put, List.setIfInBounds_toArray, List.set_cons_zero, List.set_cons_succ]
  refine wpAnyH_ready (rs := [2]) (by kernel_rfl) (by simp) ?_
  refine AllReadyH.cons (o := _) rfl (fun K9 hK9 => ?_) AllReadyH.nil
  go_simp
  go_at_call 51
  refine (rint14 W HW.out w2).mono ?_
  rintro e w3 ⟨rfl, b3⟩
  have C3 := Lib.hid (C2.out.keep b3)
  have K3 := Lib.hid (bk_tr K2.out b3)
  clear b3
  refine hK9.out _ _ C3.out (fun hHeld => ?_)
  clear hK9 K9
  try simp only [Act.put, List.setIfInBounds_toArray, List.set_cons_zero, List.set_cons_succ]
  have g1 : ¬ 9223372036854775807 < 6 + (Lib.itoa W).length := by have := LW.out; omega
  have g2 : ¬ 9223372036854775807 < 6 + (Lib.itoa W).length + 6 := by have := LW.out; omega
  have g3 : ¬ 9223372036854775807 < 6 + (Lib.itoa W).length + 6 + (Lib.itoa R).length := by have := LW.out; have := LR.out; omega
  have g4 : ¬ 9223372036854775807 < 6 + (Lib.itoa W).length + 6 + (Lib.itoa R).length + 1 := by have := LW.out; have := LR.out; omega
  refine wpAnyH_take (i := 3) (v := .string (⟨#[119, 105, 100, 116, 104, 32]⟩ ++ ⟨(Lib.itoa W).toArray⟩)) rfl (by kernel_rfl) (by kernel_rfl) (by kernel_rfl) (fun _ _ _ h => h) (Or.inl ⟨by kernel_rfl, fun w hSw => by (go_simp)⟩) hHeld ?_
  try simp only [Act.put, List.setIfInBounds_toArray, List.set_cons_zero, List.set_cons_succ]
  refine wpAnyH_take (i := 4) (v := .string (⟨#[119, 105, 100, 116, 104, 32]⟩ ++ ⟨(Lib.itoa W).toArray⟩ ++ ⟨#[32, 114, 101, 103, 115, 32]⟩)) rfl (by kernel_rfl) (by kernel_rfl) (by kernel_rfl) (fun _ _ _ h => h) (Or.inl ⟨by kernel_rfl, fun w hSw => by (go_simp)⟩) hHeld ?_
  try simp only [Act.put, List.setIfInBounds_toArray, List.set_cons_zero, List.set_cons_succ]
  refine wpAnyH_ready (rs := [7]) (by kernel_rfl) (by simp) ?_
  refine AllReadyH.cons (o := _) rfl (fun K9 hK9 => ?_) AllReadyH.nil
  go_simp
  go_at_call 51
  refine (rint14 R HR.out w3).mono ?_
  rintro e w4 ⟨rfl, b4⟩
  have C4' := Lib.hid (C3.out.keep b4)
  have K4 := Lib.hid (bk_tr K3.out b4)
  clear b4
  refine hK9.out _ _ C4'.out (fun hHeld => ?_)
  clear hK9 K9
  try simp only [Act.put, List.setIfInBounds_toArray, List.set_cons_zero, List.set_cons_succ]
  refine wpAnyH_ready (rs := [8]) (by kernel_rfl) (by simp) ?_
  refine AllReadyH.cons (o := _) rfl (fun K9 hK9 => ?_) AllReadyH.nil
  go_simp
  refine hK9.out _ _ C4'.out (fun hHeld => ?_)
  clear hK9 K9
  try simp only [Act.put, List.setIfInBounds_toArray, List.set_cons_zero, List.set_cons_succ]
  refine wpAnyH_ready (rs := [9]) (by kernel_rfl) (by simp) ?_
  refine AllReadyH.cons (o := _) rfl (fun K9 hK9 => ?_) AllReadyH.nil
  go_simp
  refine hK9.out _ _ C4'.out (fun hHeld => ?_)
  clear hK9 K9
  try simp only [Act.put, List.setIfInBounds_toArray, List.set_cons_zero, List.set_cons_succ]
  refine wpAnyH_ready (rs := [10]) (by kernel_rfl) (by simp) ?_
  refine AllReadyH.cons (o := _) rfl (fun K9 hK9 => ?_) AllReadyH.nil
  go_simp
  refine hK9.out _ _ C4'.out (fun hHeld => ?_)
  clear hK9 K9
  try simp only [Act.put, List.setIfInBounds_toArray, List.set_cons_zero, List.set_cons_succ]
  refine wpAnyH_done (by kernel_rfl) ?_ _
  try simp only [Exit.then]
  clear hHeld
  rw [EH.out]
  clear g1 g2 g3 g4 EH
  generalize hWB : lineP (headW W R) = hd
  have HHD := Lib.hid (show hd.length ≤ 261 from by rw [← hWB]; have := HL1.out; unfold lineP; simp; omega)
  have HPP := Lib.hid (show printP W R ins out = (hd ++ insP ins) ++ lineP (outW out) from by rw [← hWB]; rfl)
  clear hWB HL1 HW HR LW LR
  obtain ⟨z0, z1, z2, z3⟩ := C4.b4 C4'.out
  go_upto_region 3 with (fail)
  clear z0 z1 z2 z3
  have IP0 := Lib.hid (show hd ++ insP (ins.take 0) = hd from by show hd ++ [] = hd; simp)
  go_loopw [3, 4] (fun v x wr => ∃ k, k ≤ ins.length ∧ x = .int .i64 (k : Int) ∧ v = .string (sB (hd ++ insP (ins.take k))) ∧ BK w4 wr) (fun _ x _ => ins.length - (intOf x).toNat)
  case atStart => exact ⟨0, Nat.zero_le _, rfl, by rw [IP0.out], BK.refl _⟩
  case round =>
    obtain ⟨k, hk, rfl, rfl, hb⟩ := hrel
    have KB := Lib.hid hb
    have B7 := Lib.hid (bk_tr K4.out hb)
    have C7 := Lib.hid (C4'.out.keep hb)
    clear hb
    by_cases e : k = ins.length
    · subst e
      have hd' : decide (ins.length < ins.length) = false := by simp
      rw [List.take_length]
      have HIP := Lib.hid (show (hd ++ insP ins).length ≤ 782261 from by have := HHD.out; have := HL2.out ins.length; rw [List.take_length] at this; rw [List.length_append]; omega)
      have HRL := Lib.hid (show (rgsP out).length ≤ 23000 from by have := HL3.out; omega)
      have RG := Lib.hid (fun W hr => regs53 out (by omega) O64.out W q qc hr)
      clear HHD HL2 HI H64 IP0
      generalize hd ++ insP ins = T at HPP HIP ⊢
      have g1 : ¬ 9223372036854775807 < T.length + 3 := by have := HIP.out; omega
      have g2 : ¬ 9223372036854775807 < (sB T).size + 3 := g1
      have g3 : ¬ 9223372036854775807 < T.length + 3 + (rgsP out).length := by have := HIP.out; have := HRL.out; omega
      have g4 : ¬ 9223372036854775807 < (sB T).size + 3 + (sB (rgsP out)).size := g3
      have g5 : ¬ 9223372036854775807 < T.length + 3 + (rgsP out).length + 1 := by have := HIP.out; have := HRL.out; omega
      have g6 : ¬ 9223372036854775807 < (sB T).size + 3 + (sB (rgsP out)).size + 1 := g5
      have EQ := Lib.hid (show ((sB T ++ ⟨#[111, 117, 116]⟩) ++ sB (rgsP out)) ++ ⟨#[10]⟩ = sB (printP W R ins out) from by
        rw [HPP.out]
        rw [show (⟨#[111, 117, 116]⟩ : ByteArray) = sB [111, 117, 116] from rfl, show (⟨#[10]⟩ : ByteArray) = sB [10] from rfl, sB_app, sB_app, sB_app]
        rw [show lineP (outW out) = ([111, 117, 116] ++ rgsP out) ++ [10] from rfl]
        simp only [List.append_assoc])
      obtain ⟨z0, z1, z2, z3⟩ := C4.b4 C7.out
      go_upto_region 6 with (fail)
      have D := Lib.hid (RG.out wr (HO.out.keep B7.out))
      go_wp2_with fail
      refine D.out.mono ?_
      rintro e w8 ⟨rfl, b8⟩
      have K8 := Lib.hid (bk_tr B7.out b8)
      clear b8 D z0 z1 z2 z3
      go_wp2_with fail
      go_ret
      exact ⟨ret_str EQ.out, K8.out⟩
    · have hlt : k < ins.length := by omega
      have hd' : decide (k < ins.length) = true := by simpa using hlt
      obtain ⟨g, o, rfl, hc⟩ := (HI.out.keep B7.out).get k hlt
      obtain ⟨a0, a1, a2, a3, a4, a5⟩ := hc
      have ei : IntKind.i64.wrap ((k : Int) + 1) = (k : Int) + 1 := IntWalk.i64_in _ (by omega)
      have hki : (k : Int) < (ins.length : Int) := by omega
      have HLT := Lib.hid hlt
      have HE := Lib.hid (insP_snoc ins k hlt)
      have FL := Lib.hid (line52 ins[k] (H64.out _ (List.getElem_mem hlt)))
      have HJ := Lib.hid (insW_jn (H64.out _ (List.getElem_mem hlt)))
      have HPL := Lib.hid (show (hd ++ insP (ins.take k)).length ≤ 782261 from by have h1 := HHD.out; have h3 := HL2.out k; have h2 : (ins.take k).length ≤ 2000 := (by rw [List.length_take]; omega); rw [List.length_append]; omega)
      clear e
      generalize ins[k] = i at a0 a1 a2 a3 a4 a5 HE FL HJ
      have HT := Lib.hid (show hd ++ insP (ins.take (k + 1)) = (hd ++ insP (ins.take k) ++ jn (insW i)) ++ [10] from by rw [HE.out]; unfold lineP; simp only [List.append_assoc])
      generalize hd ++ insP (ins.take k) = T at HPL HT ⊢
      have g1 : ¬ 9223372036854775807 < T.length + (jn (insW i)).length := by have := HPL.out; have := HJ.out; omega
      have g2 : ¬ 9223372036854775807 < (sB T).size + (sB (jn (insW i))).size := g1
      have g3 : ¬ 9223372036854775807 < T.length + (jn (insW i)).length + 1 := by have := HPL.out; have := HJ.out; omega
      have g4 : ¬ 9223372036854775807 < (sB T).size + (sB (jn (insW i))).size + 1 := g3
      have EQ := Lib.hid (show (sB T ++ sB (jn (insW i))) ++ ⟨#[10]⟩ = sB (hd ++ insP (ins.take (k + 1))) from by
        rw [HT.out, show (⟨#[10]⟩ : ByteArray) = sB [10] from rfl, sB_app, sB_app])
      obtain ⟨z0, z1, z2, z3⟩ := C4.b4 C7.out
      have D := Lib.hid (FL.out wr)
      go_wp2_with fail
      refine D.out.mono ?_
      rintro e w8 ⟨rfl, b8⟩
      have K8 := Lib.hid (bk_tr KB.out b8)
      clear b8 D z0 z1 z2 z3 a0 a1 a2 a3 a4 a5
      go_wp2_with fail
      go_roundw
      case rel => exact ⟨k + 1, by have := HLT.out; omega, by go_num, by rw [EQ.out], K8.out⟩
      case measure => have := HLT.out; simp [intOf]; omega
/-! part XP -/
/-- three boxes stand -/
def S3 (a b c : Nat) (x y z : Int × Int × Value × Value) (w : World) : Prop := C4 w a x.1 x.2.1 x.2.2.1 x.2.2.2 ∧ C4 w b y.1 y.2.1 y.2.2.1 y.2.2.2 ∧ C4 w c z.1 z.2.1 z.2.2.1 z.2.2.2
theorem S3k {a b c : Nat} {x y z : Int × Int × Value × Value} {w w' : World} (h : S3 a b c x y z w) (hb : BK w w') : S3 a b c x y z w' := ⟨h.1.keep hb, h.2.1.keep hb, h.2.2.keep hb⟩
def Row6 (w : World) (a b : Nat) (p : Option Addr) (N : Nat) : Prop := ∀ k, k < N → ∃ (g o : Nat) (cur : Array Value), p = some ⟨g, o, none⟩ ∧ a ≤ g ∧ g < b ∧ w.heap[g]? = some (.cells cur 42 (0, 0)) ∧ o + N * 6 ≤ cur.size
def Row1 (w : World) (a b : Nat) (p : Option Addr) (N : Nat) : Prop := ∀ k, k < N → ∃ (g o : Nat) (cur : Array Value), p = some ⟨g, o, none⟩ ∧ a ≤ g ∧ g < b ∧ w.heap[g]? = some (.cells cur 3 (0, 0)) ∧ o + N ≤ cur.size
theorem r6_of {w : World} {B a b c N : Nat} {p : Option Addr} {xs : List Value} (h : w.ownsRow B 42 6 (.slice p N c) N xs) (hk : ∀ k, (Value.slice p N c).ownBlock = some k → a ≤ k ∧ k < b) : Row6 w a b p N := by
  intro k hlt
  rcases h.2 with ⟨hv, h0⟩ | ⟨g, cap, cur, hv, hb, hg, h1, h2, h3, h4⟩
  · omega
  · simp only [Value.slice.injEq] at hv
    obtain ⟨rfl, _, rfl⟩ := hv
    have := hk g rfl
    exact ⟨g, 0, cur, rfl, this.1, this.2, hg, by rw [h3]; have : N * 6 ≤ c * 6 := Nat.mul_le_mul_right 6 h1; omega⟩
theorem r1_of {w : World} {B a b c N : Nat} {p : Option Addr} {xs : List Value} (h : w.ownsRow B 3 1 (.slice p N c) N xs) (hk : ∀ k, (Value.slice p N c).ownBlock = some k → a ≤ k ∧ k < b) : Row1 w a b p N := by
  intro k hlt
  rcases h.2 with ⟨hv, h0⟩ | ⟨g, cap, cur, hv, hb, hg, h1, h2, h3, h4⟩
  · omega
  · simp only [Value.slice.injEq] at hv
    obtain ⟨rfl, _, rfl⟩ := hv
    have := hk g rfl
    exact ⟨g, 0, cur, rfl, this.1, this.2, hg, by rw [h3]; omega⟩
/-- an instruction is overwritten -/
def put6 (w : World) (g o : Nat) : World := (((((w.setCell ⟨g, o, none⟩ (.int .i64 (-1))).setCell ⟨g, o + 1, none⟩ (.int .i64 0)).setCell ⟨g, o + 2, none⟩ (.int .i64 0)).setCell ⟨g, o + 3, none⟩ (.int .i64 0)).setCell ⟨g, o + 4, none⟩ (.int .i64 0)).setCell ⟨g, o + 5, none⟩ (.int .u64 0)
theorem put1 {w : World} {g : Nat} {cur : Array Value} (o : Nat) (v : Value) (h : ∃ cur' : Array Value, w.heap[g]? = some (.cells cur' 42 (0, 0)) ∧ cur'.size = cur.size) : ∃ cur' : Array Value, (w.setCell ⟨g, o, none⟩ v).heap[g]? = some (.cells cur' 42 (0, 0)) ∧ cur'.size = cur.size := by
  obtain ⟨c, h1, h2⟩ := h
  exact ⟨_, heap_setCell_same w g o _ 42 _ h1, by rw [Array.size_setIfInBounds]; exact h2⟩
theorem put6_row {w : World} {g o : Nat} {cur : Array Value} (h : w.heap[g]? = some (.cells cur 42 (0, 0))) : ∃ cur' : Array Value, (put6 w g o).heap[g]? = some (.cells cur' 42 (0, 0)) ∧ cur'.size = cur.size ∧ St (isB g) w (put6 w g o) := by
  obtain ⟨c, h1, h2⟩ := put1 (o + 5) (.int .u64 0) (put1 (o + 4) (.int .i64 0) (put1 (o + 3) (.int .i64 0) (put1 (o + 2) (.int .i64 0) (put1 (o + 1) (.int .i64 0) (put1 o (.int .i64 (-1)) ⟨cur, h, rfl⟩)))))
  exact ⟨c, h1, h2, (((((st_set w g o _).trans (st_set _ g (o + 1) _)).trans (st_set _ g (o + 2) _)).trans (st_set _ g (o + 3) _)).trans (st_set _ g (o + 4) _)).trans (st_set _ g (o + 5) _)⟩
theorem s4_yes (W R : Int) (ins : List I6) (out : List Int) : sameC W R W R ins ins out out = true := sameC_yes ⟨rfl, rfl, rfl, rfl⟩
set_option maxRecDepth 100000 in
set_option maxHeartbeats 4000000 in
theorem prints_law (W R W' R' : Int) (p q p' q' : Option Addr) (pc qc pc' qc' : Nat) (ins ins' : List I6) (out out' : List Int) (hW : In64 W) (hR : In64 R) (h64 : ∀ i ∈ ins, I64 i) (o64 : ∀ x ∈ out, In64 x) (w : World) (hi : RI w p pc ins) (ho : RO w q qc out) (hi' : RI w p' pc' ins') (ho' : RO w q' qc' out') (ht : Tb w) :
    Calls Tryz.prog 6 #[.agg #[.int .i64 W, .int .i64 R, .slice p ins.length pc, .slice q out.length qc], .agg #[.int .i64 W', .int .i64 R', .slice p' ins'.length pc', .slice q' out'.length qc']] w fun e w' => e = .returned (.bool true) ∧ BK w w' := by
  have HT := Lib.hid ht
  have LV := Lib.hid (fun wc (hb : BK w wc) => live10 wc (ht.keep hb))
  have HI := Lib.hid hi
  have HO := Lib.hid ho
  have HI' := Lib.hid hi'
  have HO' := Lib.hid ho'
  have N0 := Lib.hid (show C4 (w.alloc (.cells #[.int .i64 W, .int .i64 R, .slice p ins.length pc, .slice q out.length qc] 34)) w.heap.size W R (.slice p ins.length pc) (.slice q out.length qc) from heap_alloc_new w _)
  have hsz := sz1 w (.cells #[.int .i64 W, .int .i64 R, .slice p ins.length pc, .slice q out.length qc] 34)
  have M0 := Lib.hid (show C4 ((w.alloc (.cells #[.int .i64 W, .int .i64 R, .slice p ins.length pc, .slice q out.length qc] 34)).alloc (.cells #[.int .i64 W', .int .i64 R', .slice p' ins'.length pc', .slice q' out'.length qc'] 34)) (w.heap.size + 1) W' R' (.slice p' ins'.length pc') (.slice q' out'.length qc') from by
    have h := heap_alloc_new (w.alloc (.cells #[.int .i64 W, .int .i64 R, .slice p ins.length pc, .slice q out.length qc] 34)) (.cells #[.int .i64 W', .int .i64 R', .slice p' ins'.length pc', .slice q' out'.length qc'] 34)
    rw [hsz] at h
    exact h)
  have N1 := Lib.hid (N0.out.keep (bk_alloc (BK.refl _) (.cells #[.int .i64 W', .int .i64 R', .slice p' ins'.length pc', .slice q' out'.length qc'] 34)))
  have K1 := Lib.hid (bk_alloc (bk_alloc (BK.refl w) (.cells #[.int .i64 W, .int .i64 R, .slice p ins.length pc, .slice q out.length qc] 34)) (.cells #[.int .i64 W', .int .i64 R', .slice p' ins'.length pc', .slice q' out'.length qc'] 34))
  have FW := Lib.hid (fun W9 => few22 W R p q pc qc ins out W9)
  have FW' := Lib.hid (fun W9 => few22 W' R' p' q' pc' qc' ins' out' W9)
  clear hi ho hi' ho' ht N0 hsz
  go_enter Tryz.func6, Tryz.ntmps6
  go_upto_region 1 with (fail)
  generalize (w.alloc (.cells #[.int .i64 W, .int .i64 R, .slice p ins.length pc, .slice q out.length qc] 34)).alloc (.cells #[.int .i64 W', .int .i64 R', .slice p' ins'.length pc', .slice q' out'.length qc'] 34) = w1 at M0 N1 K1 ⊢
  have D1 := Lib.hid (FW.out w1)
  obtain ⟨t0, t1, t2, t3⟩ := N1.out.b4
  cases hf : fewB ins out with
  | false =>
    rw [hf] at D1
    go_wp2_with fail
    refine D1.out.mono ?_
    rintro e w2 ⟨rfl, h2⟩
    have K2 := Lib.hid (bk_tr K1.out h2)
    have L := Lib.hid (LV.out w2 K2.out)
    clear h2 t0 t1 t2 t3
    go_wp2_with fail
    refine L.out.mono ?_
    rintro e w3 ⟨rfl, h3⟩
    have K3 := Lib.hid (bk_tr K2.out h3)
    clear h3
    go_wp2_with fail
    go_ret
    exact ⟨rfl, K3.out⟩
  | true =>
    rw [hf] at D1
    go_wp2_with fail
    refine D1.out.mono ?_
    rintro e w2 ⟨rfl, h2⟩
    have K2 := Lib.hid (bk_tr K1.out h2)
    have N2 := Lib.hid (N1.out.keep h2)
    have M2 := Lib.hid (M0.out.keep h2)
    have D2 := Lib.hid (FW'.out w2)
    clear h2 t0 t1 t2 t3
    obtain ⟨t0, t1, t2, t3⟩ := M2.out.b4
    cases hf' : fewB ins' out' with
    | false =>
      rw [hf'] at D2
      go_wp2_with fail
      refine D2.out.mono ?_
      rintro e w3 ⟨rfl, h3⟩
      have K3 := Lib.hid (bk_tr K2.out h3)
      have L := Lib.hid (LV.out w3 K3.out)
      clear h3 t0 t1 t2 t3
      go_wp2_with fail
      refine L.out.mono ?_
      rintro e w4 ⟨rfl, h4⟩
      have K4 := Lib.hid (bk_tr K3.out h4)
      clear h4
      go_wp2_with fail
      go_ret
      exact ⟨rfl, K4.out⟩
    | true =>
      rw [hf'] at D2
      have hb1 : ins.length ≤ 400 ∧ out.length ≤ 100 := by unfold fewB at hf; simpa using hf
      have hb2 : ins'.length ≤ 400 ∧ out'.length ≤ 100 := by unfold fewB at hf'; simpa using hf'
      clear hf hf'
      go_upto_region 3 with (go_at_call 22; refine D2.out.mono ?_; rintro e w3 ⟨rfl, h3⟩)
      have K3 := Lib.hid (bk_tr K2.out h3)
      have N3 := Lib.hid (N2.out.keep h3)
      have M3 := Lib.hid (M2.out.keep h3)
      clear h3 t0 t1 t2 t3 D1 D2 FW FW' K1 K2 N1 N2 M0 M2
      obtain ⟨t0, t1, t2, t3⟩ := N3.out.b4
      have D3 := Lib.hid (copy32 W R p q pc qc ins out w3 (HI.out.keep K3.out) (HO.out.keep K3.out) (by omega) (by omega))
      go_upto_region 4 with (go_at_call 32; refine D3.out.mono ?_; rintro e w4 ⟨p1, c1, q1, d1, rfl, o4, o4', b4⟩)
      have N4 := Lib.hid (show C4 (w4.alloc (.cells #[.int .i64 W, .int .i64 R, .slice p1 ins.length c1, .slice q1 out.length d1] 34)) w4.heap.size W R (.slice p1 ins.length c1) (.slice q1 out.length d1) from heap_alloc_new w4 _)
      have kA := bk_alloc (BK.refl w4) (.cells #[.int .i64 W, .int .i64 R, .slice p1 ins.length c1, .slice q1 out.length d1] 34)
      have O4 := Lib.hid o4
      have O4' := Lib.hid o4'
      have O5 := Lib.hid (own_below o4 kA)
      have O5' := Lib.hid (own_below o4' kA)
      have S5 := Lib.hid (show S3 w.heap.size (w.heap.size + 1) w4.heap.size (W, R, .slice p ins.length pc, .slice q out.length qc) (W', R', .slice p' ins'.length pc', .slice q' out'.length qc') (W, R, .slice p1 ins.length c1, .slice q1 out.length d1) (w4.alloc (.cells #[.int .i64 W, .int .i64 R, .slice p1 ins.length c1, .slice q1 out.length d1] 34)) from ⟨(N3.out.keep b4).keep kA, (M3.out.keep b4).keep kA, N4.out⟩)
      have K5 := Lib.hid (bk_tr K3.out (bk_tr b4 kA))
      have LT3 := Lib.hid (show w.heap.size + 1 < w3.heap.size from (Array.getElem?_eq_some_iff.1 M3.out).1)
      have LT5 := Lib.hid (show w4.heap.size < (w4.alloc (.cells #[.int .i64 W, .int .i64 R, .slice p1 ins.length c1, .slice q1 out.length d1] 34)).heap.size from box_lt w4 _ _)
      clear o4 o4' b4 kA t0 t1 t2 t3 D3 N3 M3 N4 K3
      generalize w4.alloc (.cells #[.int .i64 W, .int .i64 R, .slice p1 ins.length c1, .slice q1 out.length d1] 34) = w5 at O5 O5' S5 K5 LT5 ⊢
      generalize hn : w4.heap.size = n at S5 LT5 ⊢
      have G1 := Lib.hid (show ∀ k, (Value.slice p1 ins.length c1).ownBlock = some k → w3.heap.size ≤ k ∧ k < n from fun k hk => by have := O4.out.lt k hk; omega)
      have G2 := Lib.hid (show ∀ k, (Value.slice q1 out.length d1).ownBlock = some k → w3.heap.size ≤ k ∧ k < n from fun k hk => by have := O4'.out.lt k hk; omega)
      refine wp_region_held_drew (S := S3 w.heap.size (w.heap.size + 1) n (W, R, .slice p ins.length pc, .slice q out.length qc) (W', R', .slice p' ins'.length pc', .slice q' out'.length qc') (W, R, .slice p1 ins.length c1, .slice q1 out.length d1)) (by kernel_rfl) (S3k S5.out (bk_drew (BK.refl w5))) (fun hHeld => ?_)
      have Pw6 := Lib.hid (own_below O5.out (bk_drew (BK.refl w5)))
      have Qw6 := Lib.hid (own_below O5'.out (bk_drew (BK.refl w5)))
      have Kw6 := Lib.hid (bk_drew K5.out)
      have LTw6 := Lib.hid (show n < w5.drew.heap.size from LT5.out)
      generalize w5.drew = w6 at hHeld Pw6 Qw6 Kw6 LTw6 ⊢
      clear O5 O5' K5 S5 LT5
      refine wpAnyH_take (i := 0) (v := .agg #[.int .i64 W, .int .i64 R, .slice p ins.length pc, .slice q out.length qc]) rfl (by kernel_rfl) (by kernel_rfl) (by kernel_rfl) (fun _ _ _ h => h) (Or.inl ⟨by kernel_rfl, fun w hSw => by (obtain ⟨z0, z1, z2, z3⟩ := C4.b4 hSw.1; go_simp)⟩) hHeld ?_
      try simp only [Act.put, List.setIfInBounds_toArray, List.set_cons_zero, List.set_cons_succ]
      refine wpAnyH_take (i := 2) (v := .agg #[.int .i64 W, .int .i64 R, .slice p ins.length pc, .slice q out.length qc]) rfl (by kernel_rfl) (by kernel_rfl) (by kernel_rfl) (fun _ _ _ h => h) (Or.inl ⟨by kernel_rfl, fun w hSw => by (obtain ⟨z0, z1, z2, z3⟩ := C4.b4 hSw.1; go_simp)⟩) hHeld ?_
      try simp only [Act.put, List.setIfInBounds_toArray, List.set_cons_zero, List.set_cons_succ]
      refine wpAnyH_ready (rs := [1]) (by kernel_rfl) (by simp) ?_
      refine AllReadyH.cons (o := _) rfl (fun K9 hK9 => ?_) AllReadyH.nil
      go_simp
      go_at_call 33
      refine (print33 W R p q pc qc ins out w6 (HT.out.keep Kw6.out) (HI.out.keep Kw6.out) (HO.out.keep Kw6.out) hW hR h64 o64 (by omega) (by omega)).mono ?_
      rintro e w7 ⟨rfl, b9⟩
      have Kw7 := Lib.hid (bk_tr Kw6.out b9)
      have hS9 := S3k hHeld b9
      have Pw7 := Lib.hid (own_below Pw6.out b9)
      have Qw7 := Lib.hid (own_below Qw6.out b9)
      have LTw7 := Lib.hid (show n < w7.heap.size from Nat.lt_of_lt_of_le LTw6.out (bk_size b9))
      clear b9
      refine hK9.out _ _ hS9 (fun hHeld => ?_)
      clear hK9 K9
      try simp only [Act.put, List.setIfInBounds_toArray, List.set_cons_zero, List.set_cons_succ]
      clear hS9
      refine wpAnyH_ready (rs := [3]) (by kernel_rfl) (by simp) ?_
      refine AllReadyH.cons (o := _) rfl (fun K9 hK9 => ?_) AllReadyH.nil
      go_simp
      go_at_call 34
      refine (print34 W R p q pc qc ins out w7 (HI.out.keep Kw7.out) (HO.out.keep Kw7.out) hW hR h64 o64 (by omega) (by omega)).mono ?_
      rintro e w8 ⟨rfl, b9⟩
      have Kw8 := Lib.hid (bk_tr Kw7.out b9)
      have hS9 := S3k hHeld b9
      have Pw8 := Lib.hid (own_below Pw7.out b9)
      have Qw8 := Lib.hid (own_below Qw7.out b9)
      have LTw8 := Lib.hid (show n < w8.heap.size from Nat.lt_of_lt_of_le LTw7.out (bk_size b9))
      clear b9
      refine hK9.out _ _ hS9 (fun hHeld => ?_)
      clear hK9 K9
      try simp only [Act.put, List.setIfInBounds_toArray, List.set_cons_zero, List.set_cons_succ]
      clear hS9
      generalize sB (printP W R ins out) = PT
      refine wpAnyH_ready (rs := [4]) (by kernel_rfl) (by simp) ?_
      refine AllReadyH.cons (o := _) rfl (fun K9 hK9 => ?_) AllReadyH.nil
      go_simp
      refine hK9.out _ _ hHeld (fun hHeld => ?_)
      clear hK9 K9
      try simp only [Act.put, List.setIfInBounds_toArray, List.set_cons_zero, List.set_cons_succ]
      refine wpAnyH_take (i := 5) (v := .bool false) rfl (by kernel_rfl) (by kernel_rfl) (by kernel_rfl) (fun _ _ _ h => h) (Or.inl ⟨by kernel_rfl, fun w hSw => by (go_simp)⟩) hHeld ?_
      try simp only [Act.put, List.setIfInBounds_toArray, List.set_cons_zero, List.set_cons_succ]
      refine wpAnyH_take (i := 6) (v := .agg #[.int .i64 W, .int .i64 R, .slice p ins.length pc, .slice q out.length qc]) rfl (by kernel_rfl) (by kernel_rfl) (by kernel_rfl) (fun _ _ _ h => h) (Or.inl ⟨by kernel_rfl, fun w hSw => by (obtain ⟨z0, z1, z2, z3⟩ := C4.b4 hSw.1; go_simp)⟩) hHeld ?_
      try simp only [Act.put, List.setIfInBounds_toArray, List.set_cons_zero, List.set_cons_succ]
      refine wpAnyH_take (i := 7) (v := .agg #[.int .i64 W', .int .i64 R', .slice p' ins'.length pc', .slice q' out'.length qc']) rfl (by kernel_rfl) (by kernel_rfl) (by kernel_rfl) (fun _ _ _ h => h) (Or.inl ⟨by kernel_rfl, fun w hSw => by (obtain ⟨z0, z1, z2, z3⟩ := C4.b4 hSw.2.1; go_simp)⟩) hHeld ?_
      try simp only [Act.put, List.setIfInBounds_toArray, List.set_cons_zero, List.set_cons_succ]
      refine wpAnyH_take (i := 9) (v := .agg #[.int .i64 W, .int .i64 R, .slice p ins.length pc, .slice q out.length qc]) rfl (by kernel_rfl) (by kernel_rfl) (by kernel_rfl) (fun _ _ _ h => h) (Or.inl ⟨by kernel_rfl, fun w hSw => by (obtain ⟨z0, z1, z2, z3⟩ := C4.b4 hSw.1; go_simp)⟩) hHeld ?_
      try simp only [Act.put, List.setIfInBounds_toArray, List.set_cons_zero, List.set_cons_succ]
      refine wpAnyH_take (i := 10) (v := .agg #[.int .i64 W', .int .i64 R', .slice p' ins'.length pc', .slice q' out'.length qc']) rfl (by kernel_rfl) (by kernel_rfl) (by kernel_rfl) (fun _ _ _ h => h) (Or.inl ⟨by kernel_rfl, fun w hSw => by (obtain ⟨z0, z1, z2, z3⟩ := C4.b4 hSw.2.1; go_simp)⟩) hHeld ?_
      try simp only [Act.put, List.setIfInBounds_toArray, List.set_cons_zero, List.set_cons_succ]
      refine wpAnyH_ready (rs := [8]) (by kernel_rfl) (by simp) ?_
      refine AllReadyH.cons (o := _) rfl (fun K9 hK9 => ?_) AllReadyH.nil
      go_simp
      go_at_call 35
      refine (same35 W R W' R' p q p' q' pc qc pc' qc' ins ins' out out' w8 (HI.out.keep Kw8.out) (HO.out.keep Kw8.out) (HI'.out.keep Kw8.out) (HO'.out.keep Kw8.out) (by omega) (by omega) (by omega) (by omega)).mono ?_
      rintro e w9 ⟨rfl, b9⟩
      have Kw9 := Lib.hid (bk_tr Kw8.out b9)
      have hS9 := S3k hHeld b9
      have Pw9 := Lib.hid (own_below Pw8.out b9)
      have Qw9 := Lib.hid (own_below Qw8.out b9)
      have LTw9 := Lib.hid (show n < w9.heap.size from Nat.lt_of_lt_of_le LTw8.out (bk_size b9))
      clear b9
      refine hK9.out _ _ hS9 (fun hHeld => ?_)
      clear hK9 K9
      try simp only [Act.put, List.setIfInBounds_toArray, List.set_cons_zero, List.set_cons_succ]
      clear hS9
      refine wpAnyH_ready (rs := [11]) (by kernel_rfl) (by simp) ?_
      refine AllReadyH.cons (o := _) rfl (fun K9 hK9 => ?_) AllReadyH.nil
      go_simp
      go_at_call 36
      refine (same36 W R W' R' p q p' q' pc qc pc' qc' ins ins' out out' w9 (HI.out.keep Kw9.out) (HO.out.keep Kw9.out) (HI'.out.keep Kw9.out) (HO'.out.keep Kw9.out) (by omega) (by omega) (by omega) (by omega)).mono ?_
      rintro e w10 ⟨rfl, b9⟩
      have Kw10 := Lib.hid (bk_tr Kw9.out b9)
      have hS9 := S3k hHeld b9
      have Pw10 := Lib.hid (own_below Pw9.out b9)
      have Qw10 := Lib.hid (own_below Qw9.out b9)
      have LTw10 := Lib.hid (show n < w10.heap.size from Nat.lt_of_lt_of_le LTw9.out (bk_size b9))
      clear b9
      refine hK9.out _ _ hS9 (fun hHeld => ?_)
      clear hK9 K9
      try simp only [Act.put, List.setIfInBounds_toArray, List.set_cons_zero, List.set_cons_succ]
      clear hS9
      generalize sameC W R W' R' ins ins' out out' = sv
      refine wpAnyH_ready (rs := [12]) (by kernel_rfl) (by simp) ?_
      refine AllReadyH.cons (o := _) rfl (fun K9 hK9 => ?_) AllReadyH.nil
      go_simp
      refine hK9.out _ _ hHeld (fun hHeld => ?_)
      clear hK9 K9
      try simp only [Act.put, List.setIfInBounds_toArray, List.set_cons_zero, List.set_cons_succ]
      refine wpAnyH_take (i := 13) (v := .bool false) rfl (by kernel_rfl) (by kernel_rfl) (by kernel_rfl) (fun _ _ _ h => h) (Or.inl ⟨by kernel_rfl, fun w hSw => by (go_simp)⟩) hHeld ?_
      try simp only [Act.put, List.setIfInBounds_toArray, List.set_cons_zero, List.set_cons_succ]
      refine wpAnyH_take (i := 14) (v := .bool false) rfl (by kernel_rfl) (by kernel_rfl) (by kernel_rfl) (fun _ _ _ h => h) (Or.inl ⟨by kernel_rfl, fun w hSw => by (go_simp)⟩) hHeld ?_
      try simp only [Act.put, List.setIfInBounds_toArray, List.set_cons_zero, List.set_cons_succ]
      refine wpAnyH_take (i := 15) (v := .agg #[.int .i64 W, .int .i64 R, .slice p1 ins.length c1, .slice q1 out.length d1]) rfl (by kernel_rfl) (by kernel_rfl) (by kernel_rfl) (fun _ _ _ h => h) (Or.inl ⟨by kernel_rfl, fun w hSw => by (obtain ⟨z0, z1, z2, z3⟩ := C4.b4 hSw.2.2; go_simp)⟩) hHeld ?_
      try simp only [Act.put, List.setIfInBounds_toArray, List.set_cons_zero, List.set_cons_succ]
      refine wpAnyH_take (i := 16) (v := .agg #[.int .i64 W, .int .i64 R, .slice p ins.length pc, .slice q out.length qc]) rfl (by kernel_rfl) (by kernel_rfl) (by kernel_rfl) (fun _ _ _ h => h) (Or.inl ⟨by kernel_rfl, fun w hSw => by (obtain ⟨z0, z1, z2, z3⟩ := C4.b4 hSw.1; go_simp)⟩) hHeld ?_
      try simp only [Act.put, List.setIfInBounds_toArray, List.set_cons_zero, List.set_cons_succ]
      refine wpAnyH_ready (rs := [17]) (by kernel_rfl) (by simp) ?_
      refine AllReadyH.cons (o := _) rfl (fun K9 hK9 => ?_) AllReadyH.nil
      go_simp
      go_at_call 36
      refine (show Calls Tryz.prog 36 #[.agg #[.int .i64 W, .int .i64 R, .slice p1 ins.length c1, .slice q1 out.length d1], .agg #[.int .i64 W, .int .i64 R, .slice p ins.length pc, .slice q out.length qc]] w10 (SP w10 true) from (s4_yes W R ins out) ▸ same36 W R W R p1 q1 p q c1 d1 pc qc ins ins out out w10 (RI.own Pw10.out) (RO.own Qw10.out) (HI.out.keep Kw10.out) (HO.out.keep Kw10.out) (by omega) (by omega) (by omega) (by omega)).mono ?_
      rintro e w11 ⟨rfl, b9⟩
      have Kw11 := Lib.hid (bk_tr Kw10.out b9)
      have hS9 := S3k hHeld b9
      have Pw11 := Lib.hid (own_below Pw10.out b9)
      have Qw11 := Lib.hid (own_below Qw10.out b9)
      have LTw11 := Lib.hid (show n < w11.heap.size from Nat.lt_of_lt_of_le LTw10.out (bk_size b9))
      clear b9
      refine hK9.out _ _ hS9 (fun hHeld => ?_)
      clear hK9 K9
      try simp only [Act.put, List.setIfInBounds_toArray, List.set_cons_zero, List.set_cons_succ]
      clear hS9
      refine wpAnyH_ready (rs := [18]) (by kernel_rfl) (by simp) ?_
      refine AllReadyH.cons (o := _) rfl (fun K9 hK9 => ?_) AllReadyH.nil
      go_simp
      refine hK9.out _ _ hHeld (fun hHeld => ?_)
      clear hK9 K9
      try simp only [Act.put, List.setIfInBounds_toArray, List.set_cons_zero, List.set_cons_succ]
      refine wpAnyH_ready (rs := [19]) (by kernel_rfl) (by simp) ?_
      refine AllReadyH.cons (o := _) rfl (fun K9 hK9 => ?_) AllReadyH.nil
      go_simp
      refine hK9.out _ _ hHeld (fun hHeld => ?_)
      clear hK9 K9
      try simp only [Act.put, List.setIfInBounds_toArray, List.set_cons_zero, List.set_cons_succ]
      refine wpAnyH_done (by kernel_rfl) ?_ _
      try simp only [Exit.then]
      have S11 := Lib.hid hHeld
      clear hHeld Pw6 Pw7 Pw8 Pw9 Pw10 Qw6 Qw7 Qw8 Qw9 Qw10 LTw6 LTw7 LTw8 LTw9 LTw10 Kw6 Kw7 Kw8 Kw9 Kw10 O4 O4'
      obtain ⟨t0, t1, t2, t3⟩ := C4.b4 S11.out.1
      have D3 := Lib.hid (copy32 W R p q pc qc ins out w11 (HI.out.keep Kw11.out) (HO.out.keep Kw11.out) (by omega) (by omega))
      go_upto_region 7 with (go_at_call 32; refine D3.out.mono ?_; rintro e w12 ⟨p2, c2, q2, d2, rfl, o4, o4', b4⟩)
      have N4 := Lib.hid (show C4 (w12.alloc (.cells #[.int .i64 W, .int .i64 R, .slice p2 ins.length c2, .slice q2 out.length d2] 34)) w12.heap.size W R (.slice p2 ins.length c2) (.slice q2 out.length d2) from heap_alloc_new w12 _)
      have kA := bk_alloc (BK.refl w12) (.cells #[.int .i64 W, .int .i64 R, .slice p2 ins.length c2, .slice q2 out.length d2] 34)
      have P2 := Lib.hid (own_below o4 kA)
      have Q2 := Lib.hid (own_below o4' kA)
      have P1 := Lib.hid (own_below Pw11.out (bk_tr b4 kA))
      have Q1 := Lib.hid (own_below Qw11.out (bk_tr b4 kA))
      have S13 := Lib.hid (S3k S11.out (bk_tr b4 kA))
      have K13 := Lib.hid (bk_tr Kw11.out (bk_tr b4 kA))
      have LT12 := Lib.hid (bk_size b4)
      have LT13 := Lib.hid (show w12.heap.size < (w12.alloc (.cells #[.int .i64 W, .int .i64 R, .slice p2 ins.length c2, .slice q2 out.length d2] 34)).heap.size from box_lt w12 _ _)
      clear o4 o4' b4 kA t0 t1 t2 t3 D3 S11
      generalize w12.alloc (.cells #[.int .i64 W, .int .i64 R, .slice p2 ins.length c2, .slice q2 out.length d2] 34) = w13 at P2 Q2 P1 Q1 S13 K13 LT13 N4 ⊢
      generalize hm : w12.heap.size = m at N4 LT12 LT13 ⊢
      have R6 := Lib.hid (r6_of P1.out (fun k hk => G1.out k hk))
      have R1 := Lib.hid (r1_of Q1.out (fun k hk => G2.out k hk))
      have NE := Lib.hid S13.out.2.2
      have NA := Lib.hid S13.out.1
      clear P1 Q1 S13 G1 G2
      go_wp2_with fail
      go_loopw [7] (fun x wr => ∃ k : Nat, k ≤ ins.length ∧ x = .int .i64 (k : Int) ∧ St (fun j => w3.heap.size ≤ j ∧ j < n) w13 wr ∧ Row6 wr w3.heap.size n p1 ins.length ∧ Row1 wr w3.heap.size n q1 out.length) (fun x _ => ins.length - (intOf x).toNat)
      case atStart => exact ⟨0, Nat.zero_le _, rfl, St.refl _ _, R6.out, R1.out⟩
      case round =>
        obtain ⟨k, hk, rfl, hst, hr6, hr1⟩ := hrel
        have ST := Lib.hid hst
        have HR6 := Lib.hid hr6
        have HR1 := Lib.hid hr1
        clear hst hr6 hr1
        have CE := Lib.hid (C4.st NE.out ST.out (fun e => by have := e.2; omega))
        obtain ⟨t0, t1, t2, t3⟩ := CE.out.b4
        by_cases e : k = ins.length
        · subst e
          have hd0 : decide (ins.length < ins.length) = false := by simp
          clear R6 R1 HR6
          have ST1 := Lib.hid ST.out
          have HR1' := Lib.hid HR1.out
          go_wp2_with fail
          clear ST HR1 CE t0 t1 t2 t3
          go_loopw [8] (fun x wr => ∃ k : Nat, k ≤ out.length ∧ x = .int .i64 (k : Int) ∧ St (fun j => w3.heap.size ≤ j ∧ j < n) w13 wr ∧ Row1 wr w3.heap.size n q1 out.length) (fun x _ => out.length - (intOf x).toNat)
          case atStart => exact ⟨0, Nat.zero_le _, rfl, ST1.out, HR1'.out⟩
          case round =>
            obtain ⟨k, hk, rfl, hst, hr1⟩ := hrel
            have ST := Lib.hid hst
            have HR1 := Lib.hid hr1
            clear hst hr1
            have CE := Lib.hid (C4.st NE.out ST.out (fun e => by have := e.2; omega))
            obtain ⟨t0, t1, t2, t3⟩ := CE.out.b4
            by_cases e : k = out.length
            · subst e
              have hd0 : decide (out.length < out.length) = false := by simp
              have C15 := Lib.hid (C4.st NA.out ST.out (fun e => by have := e.1; have := LT3.out; omega))
              have M15 := Lib.hid (C4.st N4.out ST.out (fun e => by have := e.2; have := LTw11.out; have := LT12.out; omega))
              have K15 := Lib.hid (bk_st K13.out ST.out (fun j e => by have := e.1; have := LT3.out; omega))
              have RP := Lib.hid (RI.own (own_at P2.out fun j hj => ST.out.block j (P2.out.lt j hj).2 (fun e => by have := e.2; have := (P2.out.lt j hj).1; have := LTw11.out; omega)))
              have RQ := Lib.hid (RO.own (own_at Q2.out fun j hj => ST.out.block j (Q2.out.lt j hj).2 (fun e => by have := e.2; have := (Q2.out.lt j hj).1; have := LTw11.out; omega)))
              have D := Lib.hid (show Calls Tryz.prog 36 #[.agg #[.int .i64 W, .int .i64 R, .slice p2 ins.length c2, .slice q2 out.length d2], .agg #[.int .i64 W, .int .i64 R, .slice p ins.length pc, .slice q out.length qc]] wr (SP wr true) from (s4_yes W R ins out) ▸ same36 W R W R p2 q2 p q c2 d2 pc qc ins ins out out wr RP.out RQ.out (HI.out.keep K15.out) (HO.out.keep K15.out) (by omega) (by omega) (by omega) (by omega))
              go_upto_region 15 with (fail)
              clear t0 t1 t2 t3 CE
              obtain ⟨t0, t1, t2, t3⟩ := C15.out.b4
              obtain ⟨u0, u1, u2, u3⟩ := M15.out.b4
              go_wp2_with fail
              refine D.out.mono ?_
              rintro e w16 ⟨rfl, h16⟩
              have K16 := Lib.hid (bk_tr K15.out h16)
              have L := Lib.hid (LV.out w16 K16.out)
              clear h16 t0 t1 t2 t3 u0 u1 u2 u3
              go_wp2_with fail
              refine L.out.mono ?_
              rintro e w17 ⟨rfl, h17⟩
              have K17 := Lib.hid (bk_tr K16.out h17)
              clear h17
              go_wp2_with fail
              go_ret
              exact ⟨rfl, K17.out⟩
            · have hlt : k < out.length := by omega
              have hd0 : decide (k < out.length) = true := by simpa using hlt
              have ei : IntKind.i64.wrap ((k : Int) + 1) = (k : Int) + 1 := IntWalk.i64_in _ (by omega)
              have hki : (k : Int) < (out.length : Int) := by omega
              have HLT := Lib.hid hlt
              obtain ⟨g, o, cur, rfl, hg1, hg2, hgc, hgs⟩ := HR1.out k hlt
              obtain ⟨x0, hx0⟩ : ∃ x0, cur[o + k]? = some x0 := ⟨_, Array.getElem?_eq_getElem (by omega)⟩
              have a0 := (cell_of_row wr g (o + k) cur 3 (0, 0) hgc).trans hx0
              have f0 := frozen_of_row wr g (o + k) cur 3 hgc
              have S9 := Lib.hid (ST.out.trans ((st_set wr g (o + k) (.int .i64 (-1))).mono (fun j e => by have e : j = g := e; subst e; exact ⟨hg1, hg2⟩)))
              have R9 := Lib.hid (show Row1 (wr.setCell ⟨g, o + k, none⟩ (.int .i64 (-1))) w3.heap.size n (some ⟨g, o, none⟩) out.length from fun j hj => ⟨g, o, _, rfl, hg1, hg2, heap_setCell_same wr g (o + k) _ 3 _ hgc, by rw [Array.size_setIfInBounds]; exact hgs⟩)
              clear e hx0 hgc hgs hg1 hg2 ST HR1 CE
              go_wp2_with fail
              go_roundw
              case rel => exact ⟨k + 1, by have := HLT.out; omega, by go_num, S9.out, R9.out⟩
              case measure => have := HLT.out; simp [intOf]; omega
        · have hlt : k < ins.length := by omega
          have hd0 : decide (k < ins.length) = true := by simpa using hlt
          have ei : IntKind.i64.wrap ((k : Int) + 1) = (k : Int) + 1 := IntWalk.i64_in _ (by omega)
          have hki : (k : Int) < (ins.length : Int) := by omega
          have HLT := Lib.hid hlt
          obtain ⟨g, o, cur, rfl, hg1, hg2, hgc, hgs⟩ := HR6.out k hlt
          have hx : ∀ j, j < 6 → ∃ x, wr.cell? ⟨g, o + k * 6 + j, none⟩ = some x := fun j hj => ⟨_, (cell_of_row wr g (o + k * 6 + j) cur 42 (0, 0) hgc).trans (Array.getElem?_eq_getElem (by omega))⟩
          obtain ⟨x0, a0⟩ := hx 0 (by omega)
          obtain ⟨x1, a1⟩ := hx 1 (by omega)
          obtain ⟨x2, a2⟩ := hx 2 (by omega)
          obtain ⟨x3, a3⟩ := hx 3 (by omega)
          obtain ⟨x4, a4⟩ := hx 4 (by omega)
          obtain ⟨x5, a5⟩ := hx 5 (by omega)
          have a0 : wr.cell? ⟨g, o + k * 6, none⟩ = some x0 := a0
          have f0 := frozen_of_row wr g (o + k * 6) cur 42 hgc
          have f1 := frozen_of_row wr g (o + k * 6 + 1) cur 42 hgc
          have f2 := frozen_of_row wr g (o + k * 6 + 2) cur 42 hgc
          have f3 := frozen_of_row wr g (o + k * 6 + 3) cur 42 hgc
          have f4 := frozen_of_row wr g (o + k * 6 + 4) cur 42 hgc
          have f5 := frozen_of_row wr g (o + k * 6 + 5) cur 42 hgc
          have E := Lib.hid (put6_row (w := wr) (g := g) (o := o + k * 6) hgc)
          have hne := HR1.out
          have R9 := Lib.hid (show Row6 (put6 wr g (o + k * 6)) w3.heap.size n (some ⟨g, o, none⟩) ins.length from fun j hj => by
            obtain ⟨cur', h1, h2, h3⟩ := E.out
            exact ⟨g, o, cur', rfl, hg1, hg2, h1, by rw [h2]; exact hgs⟩)
          have S9 := Lib.hid (ST.out.trans (E.out.choose_spec.2.2.mono (G := fun j => w3.heap.size ≤ j ∧ j < n) (fun j e => by have e : j = g := e; subst e; exact ⟨hg1, hg2⟩)))
          have Q9 := Lib.hid (show Row1 (put6 wr g (o + k * 6)) w3.heap.size n q1 out.length from fun j hj => by
            obtain ⟨g', o', cur', h1, h2, h3, h4, h5⟩ := HR1.out j hj
            exact ⟨g', o', cur', h1, h2, h3, (E.out.choose_spec.2.2.block g' (Array.getElem?_eq_some_iff.1 h4).1 (fun e => by have e : g' = g := e; subst e; rw [hgc] at h4; simp at h4)).trans h4, h5⟩)
          clear e hx hgc hgs hg1 hg2 ST HR6 HR1 CE E hne
          unfold put6 at R9 S9 Q9
          go_wp2_with fail
          generalize hZ : World.setCell _ ⟨g, o + k * 6 + 5, none⟩ _ = Z at R9 S9 Q9 ⊢
          clear hZ a0 a1 a2 a3 a4 a5 f0 f1 f2 f3 f4 f5
          go_wp2_with fail
          go_roundw
          case rel => exact ⟨k + 1, by have := HLT.out; omega, by go_num, S9.out, R9.out, Q9.out⟩
          case measure => have := HLT.out; simp [intOf]; omega

end Go.Proofs.YtneidfbgdgegjaaGreatDoor
