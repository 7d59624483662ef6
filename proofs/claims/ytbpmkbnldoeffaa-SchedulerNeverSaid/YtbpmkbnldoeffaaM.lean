/- A rule that never finds more than its limit. -/
import Derived.Test.YtbpmkbnldoeffaaL
namespace Go.Proofs.Ytbpmkbnldoeffaa
open Go.RowKit
set_option linter.unusedVariables false
set_option linter.unusedSimpArgs false
theorem nL_nL (l : Int) : nL (nL l) = nL l := cl_cl _ _ _ (by omega)
theorem rd_0 (i : Int) : rdB 0 i = true := by unfold rdB; apply decide_eq_true; have := nI_b i; rw [show nU 0 = 0 by decide]; omega
theorem th_0 (l : Int) : th (nL l) 0 = nL l := by unfold th; rw [nL_nL, show nT 0 = 0 by decide]; exact gr_zero _ (nL_b l).2.1
theorem tk_0 (l f : Int) (h : f ≤ nL l) : tkB (nL l) 0 f = true := by
  unfold tkB; apply decide_eq_true; rw [th_0]
  have := nL_b l
  unfold nI cl; omega
theorem stk_all (l b : Int) (zs : List Int) (h : ∀ k, zs.getD k 0 ≤ nL l) (k : Nat) : stk (nL l, nL b, 0, 0) zs k = (nL l, nL b, 0, 0) := by
  induction k with
  | zero => rfl
  | succ k ih =>
    rw [stk, ih, stp, if_pos (rd_0 _)]
    simp only [rT, rU, tk_0 l _ (h k), if_pos, nL_nL]
    rfl
theorem oks_all (l b : Int) (zs : List Int) (h : ∀ k, zs.getD k 0 ≤ nL l) (k : Nat) : oks (nL l, nL b, 0, 0) zs k = List.replicate k true := by
  unfold oks
  induction k with
  | zero => rfl
  | succ k ih =>
    rw [List.range_succ, List.map_append, ih, List.replicate_succ']
    congr 1
    show [okB (stk _ zs k) _ _] = [true]
    rw [stk_all l b zs h, okB, rd_0, Bool.true_and, tk_0 l _ (h k)]
def few (zs : List Int) (m : Int) (k : Nat) : List Int := (List.range k).map fun j => min (zs.getD j 0) m
theorem few_len (zs : List Int) (m : Int) (k : Nat) : (few zs m k).length = k := by simp [few]
theorem few_le (zs : List Int) (m : Int) (hm : 0 ≤ m) (k j : Nat) : (few zs m k).getD j 0 ≤ m := by
  unfold few
  by_cases h : j < k
  · simp [List.getD_eq_getElem?_getD, h]; omega
  · simp [List.getD_eq_getElem?_getD, h]; exact hm
def ints (l : List Int) : List Value := l.map (Value.int .i64)
theorem few_succ (zs : List Int) (m : Int) (k : Nat) : ints (few zs m (k + 1)) = ints (few zs m k) ++ [.int .i64 (min (zs.getD k 0) m)] := by
  unfold few ints; rw [List.range_succ, List.map_append, List.map_append]; rfl
theorem Rn.own {w : World} {B : Nat} {v : Value} {l : List Int} (o : w.ownsRow B 3 1 v l.length (ints l)) : Rn w v l := by
  rcases o.2 with ⟨h, h0⟩ | ⟨g, cap, cur, hv, hb, hg, hn, _⟩
  · exact .inl ⟨none, 0, h, List.eq_nil_of_length_eq_zero h0⟩
  · subst hv
    by_cases h0 : l.length = 0
    · have : l = [] := List.eq_nil_of_length_eq_zero h0
      subst this
      exact .inl ⟨_, cap, rfl, rfl⟩
    · refine .inr ⟨g, 0, cap, rfl, by omega, (Array.getElem?_eq_some_iff.1 hg).1, fun k hk => ?_⟩
      have := World.ownsRow.cells o (g := g) rfl k (.int .i64 (l.getD k 0)) (by simp [ints, List.getD_eq_getElem?_getD, hk])
      rw [show (⟨g, 0, none⟩ : Addr).add k = ⟨g, 0 + k, none⟩ from Go.WideShapes.add_plain _ _ _] at this
      exact this
theorem own_shape {w : World} {B e sz n : Nat} {v : Value} {xs : List Value} (h : w.ownsRow B e sz v n xs) : ∃ p c, v = .slice p n c := by
  rcases h.2 with ⟨hv, h0⟩ | ⟨g, cap, cur, hv, _⟩
  · exact ⟨none, 0, by rw [hv, h0]⟩
  · exact ⟨_, cap, hv⟩
theorem new_one (l b : Int) (w : World) : Calls Try.prog 9 #[.int .i64 1, .int .i64 l, .int .i64 b] w fun e w' => ∃ bq off cap, e = .returned (.slice (some ⟨bq, off, none⟩) 1 cap) ∧ bq < w'.heap.size ∧
    (w'.cell? ⟨bq, off, none⟩ = some (.int .i64 (nL l)) ∧ w'.cell? ⟨bq, off + 1, none⟩ = some (.int .i64 (nL b)) ∧ w'.cell? ⟨bq, off + 2, none⟩ = some (.int .i64 0) ∧ w'.cell? ⟨bq, off + 3, none⟩ = some (.int .i64 0)) ∧ Below w.heap.size w w' := by
  refine (new_any 1 l b w).mono ?_
  rintro e w' ⟨v, rfl, hv, hb⟩
  rw [show nR 1 = 1 by decide, show nS l b 1 = [(nL l, nL b, 0, 0)] from rfl] at hv
  rcases hv with ⟨a, cap, _, h⟩ | ⟨b, off, cap, rfl, _, h3, h4⟩
  · simp at h
  · obtain ⟨a0, a1, a2, a3⟩ := h4 0 (by simp)
    exact ⟨b, off, cap, rfl, h3, ⟨by simpa using a0, by simpa using a1, by simpa using a2, by simpa using a3⟩, hb⟩
theorem grow9 {w1 wr w9 : World} {o : Obj} {row : Option Nat} (hb : BK w1 wr) (hg : ((wr.alloc o).drew).grownBy w9 row) (hr : ∀ r, row = some r → w1.heap.size ≤ r) : BK w1 w9 := by
  have hb : Below w1.heap.size w1 wr := hb
  exact ((hb.alloc hb.size o).drew).grown hg (by have := hb.size; show _ ≤ (wr.alloc o).heap.size; simp; omega) hr
theorem info3 : (Try.prog.info? 3).map (fun i => (i.zero, i.size, i.bytes)) = some (some (.int .i64 0), 1, 8) := by kernel_rfl
set_option maxRecDepth 100000 in
set_option maxHeartbeats 4000000 in
theorem law6_some (l b : Int) (pb off cap : Nat) (zs : List Int) (w : World) (hl : zs.length ≤ 1000) (hb : pb < w.heap.size)
    (hc : ∀ k, k < zs.length → w.cell? ⟨pb, off + k, none⟩ = some (.int .i64 (zs.getD k 0))) :
    Calls Try.prog 6 #[.int .i64 l, .int .i64 b, .slice (some ⟨pb, off, none⟩) zs.length cap] w fun e w' => e = .returned (.bool true) ∧ Below w.heap.size w w' := by
  obtain ⟨i3, hi3, hz3, hs3, hb3⟩ := info_parts info3
  have hd : decide ((1000 : Int) < (zs.length : Int)) = false := by simp; omega
  have hi : ¬ (1000 : Int) < (zs.length : Int) := by omega
  have HC := Lib.hid hc
  have hmn := (nL_b l)
  clear hc
  go_enter Try.func6, Try.ntmps6
  go_wp2_with fail
  refine (new_one _ _ _).mono ?_
  rintro e w1 ⟨bq, oq, cq, rfl, hbq, hx, hb1⟩
  have H1 := Lib.hid (show BK w w1 from hb1)
  have hb1' : pb < w1.heap.size := Nat.lt_of_lt_of_le hb hb1.size
  have HC1 := Lib.hid (fun k hk => (Below.cell (p := ⟨pb, off + k, none⟩) hb1 hb).trans (HC.out k hk))
  have HX := Lib.hid (fun wc (hk : BK w1 wc) => (show Below w1.heap.size w1 wc from hk).cell (p := ⟨bq, oq, none⟩) hbq |>.trans hx.1)
  have HX4 := Lib.hid hx
  clear hb1 hx HC
  go_wp2_with fail
  go_loopw [8, 9] (fun v x wr => ∃ k : Nat, k ≤ zs.length ∧ x = .int .i64 k ∧ wr.ownsRow w1.heap.size 3 1 v k (ints (few zs (nL l) k)) ∧ BK w1 wr) (fun v x _ => zs.length - (intOf x).toNat)
  case atStart => exact ⟨0, Nat.zero_le _, rfl, World.ownsRow_nil _ _ _ _, BK.refl _⟩
  case round =>
    obtain ⟨k, hk, rfl, hown, hkw⟩ := hrel
    have Ho := Lib.hid hown
    have HK := Lib.hid hkw
    by_cases hlt : k < zs.length
    · have hfs := Lib.hid (few_succ zs (nL l) k)
      have c1 := ((show Below w1.heap.size w1 wr from hkw).cell (p := ⟨pb, off + k, none⟩) hb1').trans (HC1.out k hlt)
      have hck := HC1.out k hlt
      have c2 := HX.out _ hkw
      have hsz := bk_size hkw
      clear hown hkw
      generalize zs.getD k 0 = f at c1 hfs hck
      have HCk := Lib.hid hck
      clear hck
      go_wp2_with fail
      go_region_held3 (fun w' => w'.cell? ⟨pb, off + k, none⟩ = some (.int .i64 f) ∧ w'.cell? ⟨bq, oq, none⟩ = some (.int .i64 (nL l)))
        (first | (go_keep; done) | exact ⟨((show Below w1.heap.size w1 _ from hk9).cell (p := ⟨pb, off + k, none⟩) hb1').trans HCk.out, HX.out _ hk9⟩)
        ((refine step_append_lies _ (by rfl) _ _ _ (by rfl) w1.heap.size 3 i3 _ 1 8 Try.underlying34 hi3 hz3 hs3 hb3 rfl (by omega) _ k _ (by rfl) ((Ho.out.alloc _).drew) ⟨wr.heap.size, 0, none⟩ 1 1 [.int .i64 (min f (nL l))] (by rfl) (by rfl) (World.news_of_block (cs := #[.int .i64 (min f (nL l))]) (t := 3) (fr := (0, 0)) (heap_alloc_new wr _)) (by simp [Value.oneCell']) (by omega) (by unfold maxLen; omega) (by omega) (by simp; omega) (wr.heap.size + 1) (by simp) ?_; intro g9 c9 w9 hown9 hgrow9 hat9 hlt9; have hk9 := grow9 HK.out hgrow9 (fun r hr => (Ho.out.lt r hr).1)))
      have hr9 : w9.ownsRow w1.heap.size 3 1 (.slice (some ⟨g9, 0, none⟩) (k + 1) c9) (k + 1) (ints (few zs (nL l) (k + 1))) := by rw [hfs.out]; exact hown9
      have HR9 := Lib.hid hr9
      have HK9 := Lib.hid hk9
      clear hown9 hgrow9 hat9 hlt9 hk9 hr9 c1 c2
      go_wp2_with fail
      go_roundw
      case rel => exact ⟨k + 1, by omega, by go_num, HR9.out, HK9.out⟩
      case measure => simp [intOf]; omega
    · obtain rfl : k = zs.length := by omega
      obtain ⟨pv, cv, rfl⟩ := own_shape hown
      have hrn : Rn wr (.slice pv zs.length cv) (few zs (nL l) zs.length) := Rn.own (by rw [few_len]; exact hown)
      have hall := oks_all l b (few zs (nL l) zs.length) (few_le zs (nL l) hmn.1 zs.length) zs.length
      have hlen := few_len zs (nL l) zs.length
      have hsim : ∀ v', Rn wr v' (few zs (nL l) zs.length) → Calls Try.prog 19 #[.agg #[.int .i64 (nL l), .int .i64 (nL b), .int .i64 0, .int .i64 0], v'] wr (SimQ wr wr (List.replicate zs.length true)) := fun v' hv => by
        have := simq wr wr v' _ (nL l, nL b, 0, 0) hv (by rw [hlen]; omega) (BK.refl _)
        rwa [hlen, hall] at this
      have HS := Lib.hid (hsim _ hrn)
      have hbw : Below w1.heap.size w1 wr := hkw
      have x0 := (hbw.cell (p := ⟨bq, oq, none⟩) hbq).trans HX4.out.1
      have x1 := (hbw.cell (p := ⟨bq, oq + 1, none⟩) hbq).trans HX4.out.2.1
      have x2 := (hbw.cell (p := ⟨bq, oq + 2, none⟩) hbq).trans HX4.out.2.2.1
      have x3 := (hbw.cell (p := ⟨bq, oq + 3, none⟩) hbq).trans HX4.out.2.2.2
      clear hown hkw hrn hsim hall hlen hbw
      generalize hn : zs.length = n at HS ⊢
      have hn1000 : n ≤ 1000 := by omega
      have Hn := Lib.hid hn
      clear hn
      go_wp2_with fail
      refine HS.out.mono ?_
      rintro e w2 ⟨r, rfl, hr, _, hk2⟩
      obtain ⟨pr, cr, rfl, hcr⟩ := hr
      simp only [List.length_replicate] at hcr ⊢
      have HC2 := Lib.hid hcr
      have HK2 := Lib.hid hk2
      clear hcr hk2 x0 x1 x2 x3
      go_wp2_with fail
      go_loop [11] (fun x => ∃ k : Nat, k ≤ n ∧ x = .int .i64 k) (fun x => n - (intOf x).toNat)
      case atStart => exact ⟨0, Nat.zero_le _, rfl⟩
      case round =>
        obtain ⟨k, hk, rfl⟩ := hrel
        by_cases hlt2 : k < n
        · obtain ⟨br, orr, rfl, hbr, hcell⟩ := HC2.out (by omega)
          have d := hcell k hlt2
          rw [show (List.replicate n true).getD k false = true by simp [List.getD_eq_getElem?_getD, hlt2]] at d
          clear hcell
          go_wp2_with fail
          go_round
          case rel => exact ⟨k + 1, by omega, by go_num⟩
          case measure => simp [intOf]; omega
        · go_wp2_with fail
          refine (lives_any _).mono ?_
          rintro e w9 ⟨rfl, hb9⟩
          have H9 := Lib.hid (bk_chain (bk_tr H1.out (bk_tr HK.out HK2.out)) hb9)
          clear hb9
          go_wp2_with fail
          go_ret
          exact ⟨rfl, H9.out⟩
set_option maxRecDepth 100000 in
set_option maxHeartbeats 4000000 in
theorem law6_zero (l b : Int) (p : Option Addr) (cap : Nat) (w : World) :
    Calls Try.prog 6 #[.int .i64 l, .int .i64 b, .slice p 0 cap] w fun e w' => e = .returned (.bool true) ∧ Below w.heap.size w w' := by
  go_enter Try.func6, Try.ntmps6
  go_wp2_with fail
  refine (new_one _ _ _).mono ?_
  rintro e w1 ⟨bq, oq, cq, rfl, hbq, ⟨x0, x1, x2, x3⟩, hb1⟩
  have H1 := Lib.hid (show BK w w1 from hb1)
  have HS := Lib.hid (simq w1 w1 (.slice none 0 0) [] (nL l, nL b, 0, 0) (.inl ⟨none, 0, rfl, rfl⟩) (by simp) (BK.refl _))
  clear hb1
  go_wp2_with fail
  go_loop [8, 9] (fun v x => v = .slice none 0 0 ∧ x = .int .i64 0) (fun _ _ => 0)
  case atStart => exact ⟨rfl, rfl⟩
  case round =>
    obtain ⟨rfl, rfl⟩ := hrel
    go_wp2_with fail
    refine HS.out.mono ?_
    rintro e w2 ⟨r, rfl, hr, _, hk2⟩
    obtain ⟨pr, cr, rfl, hcr⟩ := hr
    have HK2 := Lib.hid hk2
    clear hcr hk2 x0 x1 x2 x3
    rw [show (oks (nL l, nL b, 0, 0) [] ([] : List Int).length).length = 0 from rfl]
    go_wp2_with fail
    go_loop [11] (fun x => x = .int .i64 0) (fun _ => 0)
    case atStart => rfl
    case round =>
      subst hrel
      go_wp2_with fail
      refine (lives_any _).mono ?_
      rintro e w9 ⟨rfl, hb9⟩
      have H9 := Lib.hid (bk_chain (bk_tr H1.out HK2.out) hb9)
      clear hb9
      go_wp2_with fail
      go_ret
      exact ⟨rfl, H9.out⟩
set_option maxRecDepth 100000 in
set_option maxHeartbeats 4000000 in
theorem law6_long (l b : Int) (p : Option Addr) (n c : Nat) (w : World) (hl : 1000 < n) : Calls Try.prog 6 #[.int .i64 l, .int .i64 b, .slice p n c] w fun e w' => e = .returned (.bool true) ∧ Below w.heap.size w w' := by
  have hd : decide ((1000 : Int) < (n : Int)) = true := by simp; omega
  have hi : (1000 : Int) < (n : Int) := by omega
  go_enter Try.func6, Try.ntmps6
  go_wp2_with fail
  refine (lives_any _).mono ?_
  rintro e w9 ⟨rfl, hb9⟩
  have H9 := Lib.hid (show BK w w9 from hb9)
  clear hb9
  go_wp2_with fail
  go_ret
  exact ⟨rfl, H9.out⟩
theorem law6 (l b : Int) (v : Value) (zs : List Int) (w : World) (h : Rn w v zs) : Calls Try.prog 6 #[.int .i64 l, .int .i64 b, v] w fun e w' => e = .returned (.bool true) ∧ Below w.heap.size w w' := by
  by_cases hl : zs.length ≤ 1000
  · rcases h with ⟨a, cap, rfl, rfl⟩ | ⟨pb, off, cap, rfl, _, h3, h4⟩
    · exact law6_zero l b a cap w
    · exact law6_some l b pb off cap zs w hl h3 h4
  · obtain ⟨p, c, rfl⟩ := h.shape
    exact law6_long l b p zs.length c w (by omega)
end Go.Proofs.Ytbpmkbnldoeffaa
