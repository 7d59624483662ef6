/- Inputs2. -/
import Derived.Test.YtjmmaaphadeokaaYT
import Derived.Test.YtjmmaaphadeokaaYP
namespace Go.Proofs.Ytjmmaaphadeokaa
open Go.RowKit Go.Shelf
set_option linter.unusedVariables false
set_option linter.unusedSimpArgs false
theorem live_low (n : Nat) (t : List I6) (out : List Int) : ∀ y ∈ liveL n t out, 0 ≤ y ∧ y < n := fun y h => by
  unfold liveL at h
  simp only [List.mem_map, List.mem_filter, List.mem_range] at h
  obtain ⟨k, ⟨hk, _⟩, rfl⟩ := h
  omega
theorem up_pair {n : Nat} {P : Nat → Bool} : Ids.SS (((List.range n).filter P).map (fun r : Nat => (r : Int))) := by
  rw [Ids.SS, List.pairwise_map]
  exact (List.Pairwise.filter P List.pairwise_lt_range).imp (fun h => by omega)
/-- increasing registers -/
def Reg8 (l : List Int) : Prop := Ids.SS l ∧ ∀ y ∈ l, 0 ≤ y ∧ y < 8
theorem inp_reg8 (W R : Int) (ins : List I6) (out : List Int) : Reg8 (inpL W R ins out) := by
  unfold inpL
  split
  · exact ⟨up_pair, live_low 8 _ _⟩
  · exact ⟨List.Pairwise.nil, fun y h => by cases h⟩
theorem Reg8.len {l : List Int} (h : Reg8 l) : l.length ≤ 8 := by
  have hs : ∀ (l : List Int) (a : Int), Ids.SS l → (∀ y ∈ l, a ≤ y ∧ y < 8) → (l.length : Int) ≤ max 0 (8 - a) := by
    intro l
    induction l with
    | nil => intro a _ _; simp; omega
    | cons x t ih =>
      intro a h1 h2
      have h3 := ih (x + 1) (List.pairwise_cons.1 h1).2 (fun y hy => ⟨by have := (List.pairwise_cons.1 h1).1 y hy; omega, (h2 y (List.mem_cons_of_mem _ hy)).2⟩)
      have h4 := h2 x (by simp)
      simp only [List.length_cons]
      omega
  have := hs l 0 h.1 h.2
  omega
theorem both_union {x y : List Int} (hx : Reg8 x) (hy : Reg8 y) : Ids.ofL (x ++ y) = bothL x y 8 := by
  refine Ids.ss_ext _ _ (Ids.ss_ofL _) up_pair fun z => ?_
  rw [Ids.mem_ofL]
  unfold bothL
  simp only [List.mem_map, List.mem_filter, List.mem_range, List.mem_append, Bool.or_eq_true, hasB_mem]
  constructor
  · intro h
    have hz : 0 ≤ z ∧ z < 8 := h.elim (hx.2 z) (hy.2 z)
    exact ⟨z.toNat, ⟨by omega, by rw [show ((z.toNat : Nat) : Int) = z by omega]; exact h⟩, by omega⟩
  · rintro ⟨k, ⟨_, h⟩, rfl⟩
    exact h
theorem rd_ro {w : World} {p : Option Addr} {c : Nat} {l : List Int} (h : RO w p c l) : Ids.Rd w (.slice p l.length c) l := by
  by_cases h0 : l.length = 0
  · exact .inl ⟨p, c, by rw [h0], List.eq_nil_of_length_eq_zero h0⟩
  · obtain ⟨b, o, hp, hc⟩ := h.get 0 (by omega)
    refine .inr ⟨b, o, c, by rw [hp], by omega, h.le, World.block_lt_of_cell? w _ hc, fun k hk => ?_⟩
    obtain ⟨b', o', hp', hc'⟩ := h.get k hk
    rw [hp] at hp'
    simp only [Option.some.injEq, Addr.mk.injEq] at hp'
    obtain ⟨rfl, rfl, -⟩ := hp'
    rw [hc']; simp [List.getD_eq_getElem?_getD, hk]
theorem union_both (x y : List Int) (p q : Option Addr) (c d : Nat) (w : World) (hp : RO w p c x) (hq : RO w q d y) (hx : Reg8 x) (hy : Reg8 y) : Calls Try.prog 34 #[.slice p x.length c, .slice q y.length d] w (LP (bothL x y 8) w) := by
  have h := Ids.union_any _ _ x y w (rd_ro hp) (rd_ro hq) (decide_eq_true hx.1) (decide_eq_true hy.1) (by have := hx.len; have := hy.len; omega)
  rw [Ids.union_list, both_union hx hy] at h
  exact h.mono fun e w' ⟨v, h1, h2, h3⟩ => ⟨v, h1, h2, h3⟩
set_option maxRecDepth 100000 in
set_option maxHeartbeats 2000000 in
/-- Inputs2 -/
theorem inputs17 (W R : Int) (p q : Option Addr) (pc qc : Nat) (ins : List I6) (out : List Int) (W2 R2 : Int) (p2 q2 : Option Addr) (pc2 qc2 : Nat) (ins2 : List I6) (out2 : List Int) (w : World) (hi : RI w p pc ins) (ho : RO w q qc out) (hi2 : RI w p2 pc2 ins2) (ho2 : RO w q2 qc2 out2) (li : ins.length ≤ 300) (lo : out.length ≤ 20) (li2 : ins2.length ≤ 300) (lo2 : out2.length ≤ 20) : Calls Try.prog 17 #[.agg #[.int .i64 W, .int .i64 R, .slice p ins.length pc, .slice q out.length qc], .agg #[.int .i64 W2, .int .i64 R2, .slice p2 ins2.length pc2, .slice q2 out2.length qc2]] w (LP (bothL (inpL W R ins out) (inpL W2 R2 ins2 out2) 8) w) := by
  have b4 := (b4_new w (.int .i64 W) (.int .i64 R) (.slice p ins.length pc) (.slice q out.length qc) 25).keep (bk_alloc (BK.refl _) (.cells #[.int .i64 W2, .int .i64 R2, .slice p2 ins2.length pc2, .slice q2 out2.length qc2] 25))
  have d4 := b4_new (w.alloc (.cells #[.int .i64 W, .int .i64 R, .slice p ins.length pc, .slice q out.length qc] 25)) (.int .i64 W2) (.int .i64 R2) (.slice p2 ins2.length pc2) (.slice q2 out2.length qc2) 25
  rw [sz1] at d4
  have k0 := bk_alloc (bk_alloc (BK.refl w) (.cells #[.int .i64 W, .int .i64 R, .slice p ins.length pc, .slice q out.length qc] 25)) (.cells #[.int .i64 W2, .int .i64 R2, .slice p2 ins2.length pc2, .slice q2 out2.length qc2] 25)
  have C16 := Lib.hid (fun (wc : World) (hb : BK w wc) => inputs16 W R p q pc qc ins out wc (hi.keep hb) (ho.keep hb) li lo)
  have D16 := Lib.hid (fun (wc : World) (hb : BK w wc) => inputs16 W2 R2 p2 q2 pc2 qc2 ins2 out2 wc (hi2.keep hb) (ho2.keep hb) li2 lo2)
  have hX := inp_reg8 W R ins out
  have hY := inp_reg8 W2 R2 ins2 out2
  clear hi ho hi2 ho2
  generalize inpL W R ins out = X at C16 hX ⊢
  generalize inpL W2 R2 ins2 out2 = Y at D16 hY ⊢
  go_enter Try.func17, Try.ntmps17
  go_upto_region 1 with (fail)
  generalize (w.alloc (.cells #[.int .i64 W, .int .i64 R, .slice p ins.length pc, .slice q out.length qc] 25)).alloc (.cells #[.int .i64 W2, .int .i64 R2, .slice p2 ins2.length pc2, .slice q2 out2.length qc2] 25) = w2 at b4 d4 k0 ⊢
  have HB := Lib.hid b4
  have HD := Lib.hid d4
  have K0 := Lib.hid k0
  clear b4 d4 k0
  refine wp_region_held_drew (S := fun w' => B4 w' w.heap.size (.int .i64 W) (.int .i64 R) (.slice p ins.length pc) (.slice q out.length qc) ∧ B4 w' (w.heap.size + 1) (.int .i64 W2) (.int .i64 R2) (.slice p2 ins2.length pc2) (.slice q2 out2.length qc2)) (by kernel_rfl) (⟨HB.out.keep (bk_drew (BK.refl _)), HD.out.keep (bk_drew (BK.refl _))⟩) (fun hHeld => ?_)
  have hkI := bk_drew (BK.refl w2)
  generalize w2.drew = wI at hHeld hkI ⊢
  refine wpAnyH_take (i := 0) (v := .agg #[.int .i64 W, .int .i64 R, .slice p ins.length pc, .slice q out.length qc]) rfl (by kernel_rfl) (by kernel_rfl) (by kernel_rfl) (fun _ _ _ h => h) (Or.inl ⟨by kernel_rfl, fun w hSw => by (have q0 := hSw.1.1; have q1 := hSw.1.2.1; have q2 := hSw.1.2.2.1; have q3 := hSw.1.2.2.2; go_simp)⟩) hHeld ?_
  try simp only [Act.put, List.setIfInBounds_toArray, List.set_cons_zero, List.set_cons_succ]
  refine wpAnyH_take (i := 2) (v := .agg #[.int .i64 W2, .int .i64 R2, .slice p2 ins2.length pc2, .slice q2 out2.length qc2]) rfl (by kernel_rfl) (by kernel_rfl) (by kernel_rfl) (fun _ _ _ h => h) (Or.inl ⟨by kernel_rfl, fun w hSw => by (have q0 := hSw.2.1; have q1 := hSw.2.2.1; have q2 := hSw.2.2.2.1; have q3 := hSw.2.2.2.2; go_simp)⟩) hHeld ?_
  try simp only [Act.put, List.setIfInBounds_toArray, List.set_cons_zero, List.set_cons_succ]
  refine wpAnyH_ready (rs := [1]) (by kernel_rfl) (by simp) ?_
  refine AllReadyH.cons (o := _) rfl (fun K9 hK9 => ?_) AllReadyH.nil
  go_simp
  go_at_call 16
  refine (C16.out wI (bk_tr K0.out hkI)).mono ?_
  rintro e w5 ⟨v5, rfl, ho5, hb5⟩
  obtain ⟨p5, c5, rfl⟩ := own_shape ho5
  have k5 := bk_tr hkI hb5
  refine hK9.out _ _ (⟨hHeld.1.keep hb5, hHeld.2.keep hb5⟩) (fun hHeld => ?_)
  clear hK9 K9
  try simp only [Act.put, List.setIfInBounds_toArray, List.set_cons_zero, List.set_cons_succ]
  refine wpAnyH_ready (rs := [3]) (by kernel_rfl) (by simp) ?_
  refine AllReadyH.cons (o := _) rfl (fun K9 hK9 => ?_) AllReadyH.nil
  go_simp
  go_at_call 16
  refine (D16.out w5 (bk_tr K0.out k5)).mono ?_
  rintro e w6 ⟨v6, rfl, ho6, hb6⟩
  obtain ⟨p6, c6, rfl⟩ := own_shape ho6
  have k6 := bk_tr k5 hb6
  have C34 := Lib.hid (union_both X Y p5 p6 c5 c6 w6 (RO.own (own_below ho5 hb6)) (RO.own ho6) hX hY)
  refine hK9.out _ _ (⟨hHeld.1.keep hb6, hHeld.2.keep hb6⟩) (fun hHeld => ?_)
  clear hK9 K9
  try simp only [Act.put, List.setIfInBounds_toArray, List.set_cons_zero, List.set_cons_succ]
  refine wpAnyH_ready (rs := [4]) (by kernel_rfl) (by simp) ?_
  refine AllReadyH.cons (o := _) rfl (fun K9 hK9 => ?_) AllReadyH.nil
  go_simp
  go_at_call 34
  refine C34.out.mono ?_
  rintro e w7 ⟨v7, rfl, ho7, hb7⟩
  have k7 := bk_tr k6 hb7
  refine hK9.out _ _ (⟨hHeld.1.keep hb7, hHeld.2.keep hb7⟩) (fun hHeld => ?_)
  clear hK9 K9
  try simp only [Act.put, List.setIfInBounds_toArray, List.set_cons_zero, List.set_cons_succ]
  refine wpAnyH_ready (rs := [5]) (by kernel_rfl) (by simp) ?_
  refine AllReadyH.cons (o := _) rfl (fun K9 hK9 => ?_) AllReadyH.nil
  go_simp
  refine hK9.out _ _ (hHeld) (fun hHeld => ?_)
  clear hK9 K9
  try simp only [Act.put, List.setIfInBounds_toArray, List.set_cons_zero, List.set_cons_succ]
  refine wpAnyH_done (by kernel_rfl) ?_ _
  have KF := Lib.hid (bk_tr K0.out k7)
  have HO7 := Lib.hid (own_mono ho7 (show w.heap.size ≤ w6.heap.size from bk_size (bk_tr K0.out k6)))
  clear k7 k6 k5 ho7 ho6 ho5 hb5 hb6 hb7 hkI hHeld
  go_wp2_with fail
  go_ret
  exact ⟨_, rfl, HO7.out, KF.out⟩
end Go.Proofs.Ytjmmaaphadeokaa
