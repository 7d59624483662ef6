/- ParseList of the program: the walk. -/
import Derived.Test.YtkdpbmbkpepelaaDoorR
namespace Go.Proofs.YtkdpbmbkpepelaaDoor
open Go.RowKit Go.Shelf
set_option linter.unusedVariables false
set_option linter.unusedSimpArgs false
attribute [local go_sem] Oper.semAt_some
theorem own_lt {w : World} {B e sz k : Nat} {v : Value} {xs : List Value} (hr : w.ownsRow B e sz v k xs) {b : Nat} (h : b < B) : v.ownBlock ≠ some b := by
  intro e
  have := (hr.lt b e).1
  omega
theorem bk_keeps {A B : World} (h : BK A B) (N : Nat) : KeepsFrom N A B := ⟨h.bl.size, fun k o _ hk _ => (h.bl.block k (Array.getElem?_eq_some_iff.1 hk).1).trans hk⟩
theorem set_keeps (A : World) (b N : Nat) (v : Value) : KeepsFrom N A (A.setCell ⟨b, 0, none⟩ v) := (KeepsOthers.setCell A ⟨b, 0, none⟩ v).from N
theorem ix_end {w X X2 : World} {n6 : Nat} {pre : List BA} {x : BA} {c : Int} (hn : w.heap.size + 1 < n6) (hb2 : BK X X2) (hbl : Below w.heap.size w X)
    (hc : X.heap[w.heap.size]? = some (.cells #[.slice none 0 0] 33 (0, 0))) (hz : X.heap[w.heap.size + 1]? = some (.cells #[.int .i64 0] 27 (0, 0)))
    (hbad : (plA [] (bls (pre ++ [x])) = .syntax ∧ c = 6) ∨ (plA [] (bls (pre ++ [x])) = .range ∧ c = 2)) :
    KeepsFrom n6 X ((X2.setCell ⟨w.heap.size, 0, none⟩ (.slice none 0 0)).setCell ⟨w.heap.size + 1, 0, none⟩ (.int .i64 c)) ∧ Code.ret = Code.ret ∧ IX w (pre ++ [x]) ((X2.setCell ⟨w.heap.size, 0, none⟩ (.slice none 0 0)).setCell ⟨w.heap.size + 1, 0, none⟩ (.int .i64 c)) := by
  have c2 : Boxed X2 w.heap.size 33 (.slice none 0 0) := (bk_block hb2 (Array.getElem?_eq_some_iff.1 hc).1).trans hc
  have z2 : Boxed X2 (w.heap.size + 1) 27 (.int .i64 0) := (bk_block hb2 (Array.getElem?_eq_some_iff.1 hz).1).trans hz
  have hk : KeepsFrom n6 X ((X2.setCell ⟨w.heap.size, 0, none⟩ (.slice none 0 0)).setCell ⟨w.heap.size + 1, 0, none⟩ (.int .i64 c)) := ((bk_keeps hb2 n6).trans (set_keeps _ _ _ _)).trans (set_keeps _ _ _ _)
  refine ⟨hk, rfl, ⟨⟨⟨bx_set (c2.set _) (by omega), ?_⟩, ?_⟩, ?_⟩⟩
  · have h := (bx_set (b' := w.heap.size) (x := .slice none 0 0) z2 (by omega)).set (.int .i64 c)
    have e : cd (plA [] (bls (pre ++ [x]))) = c := by
      rcases hbad with ⟨h1, h2⟩ | ⟨h1, h2⟩ <;> (rw [h1, h2]; rfl)
    rw [e]
    exact h
  · exact ((bk_tr (show BK w X from hbl) hb2).bl.setCell (p := ⟨w.heap.size, 0, none⟩) (Nat.le_refl _) _).setCell (p := ⟨w.heap.size + 1, 0, none⟩) (by show w.heap.size ≤ w.heap.size + 1; omega) _
  · rcases hbad with ⟨h1, h2⟩ | ⟨h1, h2⟩
    · exact .inl h1
    · exact .inr h1
set_option maxRecDepth 100000 in
set_option maxHeartbeats 4000000 in
theorem plist20_some (s : ByteArray) (hs : s.size ≤ 1000000) (hne : s.toList.isEmpty = false) (hE : parseL (bl s) = plA [] (sp (bl s))) (w : World) (ht : Tb w) : Calls Tryd.prog 20 #[.string s] w (PL w (parseL (bl s))) := by
  have z1 : ((w.alloc (.cells #[.slice none 0 0] 33)).alloc (.cells #[.int .i64 0] 27)).heap[w.heap.size]? = some (.cells #[.slice none 0 0] 33 (0, 0)) := (heap_alloc_old _ _ (by simp)).trans (heap_alloc_new w _)
  have z2 := heap_alloc_new (w.alloc (.cells #[.slice none 0 0] 33)) (.cells #[.int .i64 0] 27)
  rw [sz1] at z2
  have k0 := bk_alloc (bk_alloc (BK.refl w) (.cells #[.slice none 0 0] 33)) (.cells #[.int .i64 0] 27)
  have hz0 : ((w.alloc (.cells #[.slice none 0 0] 33)).alloc (.cells #[.int .i64 0] 27)).heap.size = w.heap.size + 2 := by simp
  have HT := Lib.hid ht
  have HE := Lib.hid hE
  clear ht hE
  refine (callsIn_wide (n := 6)).1 ?_
  refine callsIn_of_wp_marks Tryd.func20 rfl trivial ?_ rfl
  refine wpIn_wide.2 ?_
  simp only [Tryd.ntmps20, List.size_toArray, List.length_cons, List.length_nil, Nat.reduceAdd, Nat.reduceSub, Array.replicate_succ, Array.replicate_zero, List.push_toArray, List.append_toArray, List.nil_append, List.cons_append]
  go_upto_region 1 with (fail)
  generalize (w.alloc (.cells #[.slice none 0 0] 33)).alloc (.cells #[.int .i64 0] 27) = w1 at z1 z2 k0 hz0 ⊢
  have Z1 := Lib.hid z1
  have Z2 := Lib.hid z2
  have K0 := Lib.hid k0
  have HZ0 := Lib.hid hz0
  clear z1 z2 k0 hz0
  go_upto_region 4 with (fail)
  -- the list's box
  have bK := Boxed.new w1 33 (.slice none 0 0)
  have Z12 := Lib.hid ((heap_alloc_old w1 (.cells #[.slice none 0 0] 33) (Array.getElem?_eq_some_iff.1 Z1.out).1).trans Z1.out)
  have Z22 := Lib.hid ((heap_alloc_old w1 (.cells #[.slice none 0 0] 33) (Array.getElem?_eq_some_iff.1 Z2.out).1).trans Z2.out)
  have K1 := Lib.hid (bk_alloc K0.out (.cells #[.slice none 0 0] 33))
  have HZ1 := Lib.hid (sz1 w1 (.cells #[.slice none 0 0] 33))
  generalize w1.alloc (.cells #[.slice none 0 0] 33) = w2 at bK Z12 Z22 K1 HZ1 ⊢
  have BKK := Lib.hid bK
  obtain ⟨K, hK⟩ : ∃ K, K = w1.heap.size := ⟨_, rfl⟩
  rw [← hK] at BKK HZ1 ⊢
  have HK := Lib.hid (show K = w.heap.size + 2 from hK.trans HZ0.out)
  clear hK bK Z1 Z2
  go_wp2_with (go_at_call 35; refine (spl35 _ _ _).mono ?_; rintro e w5 ⟨rfl, rfl⟩)
  have k2 := ((Boxed.new w2 9 (.string s)).alloc (.cells #[.string ⟨#[32]⟩] 9)).alloc (.cells #[.int .i64 0] 3)
  have k1 := (Boxed.new (w2.alloc (.cells #[.string s] 9)) 9 (.string ⟨#[32]⟩)).alloc (.cells #[.int .i64 0] 3)
  have k3 := Boxed.new ((w2.alloc (.cells #[.string s] 9)).alloc (.cells #[.string ⟨#[32]⟩] 9)) 3 (.int .i64 0)
  rw [sz1] at k1 k3
  rw [sz1] at k3
  have hn6 : (((w2.alloc (.cells #[.string s] 9)).alloc (.cells #[.string ⟨#[32]⟩] 9)).alloc (.cells #[.int .i64 0] 3)).heap.size = w2.heap.size + 1 + 1 + 1 := by rw [sz1, sz1, sz1]
  have K6 := Lib.hid (bk_alloc (bk_alloc (bk_alloc K1.out (.cells #[.string s] 9)) (.cells #[.string ⟨#[32]⟩] 9)) (.cells #[.int .i64 0] 3))
  have Z13 := Lib.hid ((bk_block (bk_alloc (bk_alloc (bk_alloc (BK.refl w2) (.cells #[.string s] 9)) (.cells #[.string ⟨#[32]⟩] 9)) (.cells #[.int .i64 0] 3)) (Array.getElem?_eq_some_iff.1 Z12.out).1).trans Z12.out)
  have Z23 := Lib.hid ((bk_block (bk_alloc (bk_alloc (bk_alloc (BK.refl w2) (.cells #[.string s] 9)) (.cells #[.string ⟨#[32]⟩] 9)) (.cells #[.int .i64 0] 3)) (Array.getElem?_eq_some_iff.1 Z22.out).1).trans Z22.out)
  have BK6 := Lib.hid (show Boxed (((w2.alloc (.cells #[.string s] 9)).alloc (.cells #[.string ⟨#[32]⟩] 9)).alloc (.cells #[.int .i64 0] 3)) K 33 (.slice none 0 0) from ((BKK.out.alloc _).alloc _).alloc _)
  generalize ((w2.alloc (.cells #[.string s] 9)).alloc (.cells #[.string ⟨#[32]⟩] 9)).alloc (.cells #[.int .i64 0] 3) = w6 at k1 k2 k3 hn6 K6 Z13 Z23 BK6 ⊢
  have hb2K : w2.heap.size = K + 1 := HZ1.out
  have hKw : K = w.heap.size + 2 := HK.out
  generalize w2.heap.size = b2 at k1 k2 k3 hn6 hb2K ⊢
  have I0 : IV w w6.heap.size K [] w6 := ⟨⟨⟨⟨_, BK6.out, World.ownsRow_nil _ _ _ _, trivial⟩, Z13.out, Z23.out⟩, K6.out⟩, rfl⟩
  have hw6 : w.heap.size ≤ w6.heap.size := bk_size K6.out
  have q1 : w.heap.size + 1 < b2 := by omega
  have q2 : K < b2 := by omega
  have q3 : w.heap.size + 1 < K := by omega
  have q4 : b2 + 1 + 1 < w6.heap.size := by omega
  clear hn6 hb2K hKw BKK Z12 Z22 K1 HZ1 Z13 Z23 BK6
  refine (wpIn_wide (n := 6)).1 ?_
  refine rf_law rfl (by omega) (gf := 59) (lb := #[.pointer (some ⟨b2 + 1, 0, none⟩), .pointer (some ⟨b2, 0, none⟩), .pointer (some ⟨b2 + 1 + 1, 0, none⟩)]) rfl trivial (enters_of Tryd.func59 (by kernel_rfl) rfl)
    (spl_st (b2 + 1) b2 (b2 + 1 + 1) (by omega) (by omega) s hs w6 k1 k2 k3) Kb.trans (fun W l o hl => Kb.put (n := w6.heap.size) (by omega) (by omega) (by omega) W l o hl) (fun _ => rfl)
    (fun A B ⟨v, hv⟩ k o hk ho => by rw [hv]; exact (heap_setCell_other A ⟨b2, 0, none⟩ k v (fun e => by have e : k = b2 := e; omega)).trans ho)
    (IV w w6.heap.size K) (IX w) (IV.from hw6) (IX.from hw6) (fun pre A B h ⟨v, hv⟩ => by rw [hv]; exact IV.set (by omega) (by omega) (by omega) pre A v h) I0
    (fun x => { tmps := #[.string s, undef, .pointer (some ⟨w.heap.size, 0, none⟩), .pointer (some ⟨w.heap.size + 1, 0, none⟩), .pointer (some ⟨K, 0, none⟩), .string x.1, undef, undef, .string s, .bool false, .string s, .func (.func 59) #[] #[.pointer (some ⟨b2 + 1, 0, none⟩), .pointer (some ⟨b2, 0, none⟩), .pointer (some ⟨b2 + 1 + 1, 0, none⟩)], .string x.1, undef, undef, undef, undef, undef, undef, undef, undef, undef, undef, undef, undef, undef], defers := [] })
    ?assign ?body ?done ?stop
  case assign =>
    intro l x X K' hK'
    dsimp only [encB]
    gi_wp2
    exact hK'
  case body =>
    rintro l pre x X hl hlX hI hlt
    obtain ⟨⟨⟨⟨v, hv, hrow, _⟩, hc, hz⟩, hbl⟩, hp⟩ := hI
    have hn : w.heap.size + 1 < w6.heap.size := by omega
    have H18 := pint18 x.1 x.2 X (HT.out.keep hbl)
    have HBL := Lib.hid hbl
    have HC := Lib.hid hc
    have HZ := Lib.hid hz
    have HP := Lib.hid hp
    have HV := Lib.hid hv
    have HRW := Lib.hid hrow
    have HLT := Lib.hid hlt
    cases hq : parseI (bl x.1) with
    | «syntax» =>
      rw [hq] at H18
      have H18 : Calls Tryd.prog 18 #[.string x.1] X fun e w' => e = .returned (.tuple #[.int .i64 0, .int .i64 6]) ∧ BK X w' := H18
      have HQ := Lib.hid hq
      clear hv hrow hc hz hbl hp hlt hq
      gi_wp2_with (refine ⟨trivial, ?_⟩; gi_at_call 18; refine (CallsIn.inRound l (callsIn_wide.2 H18)).mono ?_; rintro e X2 ⟨rfl, hb2⟩; have c1 := Boxed.cell (show Boxed X2 w.heap.size 33 (.slice none 0 0) from (bk_block hb2 (Array.getElem?_eq_some_iff.1 HC.out).1).trans HC.out); have f1 := Boxed.frozen (show Boxed X2 w.heap.size 33 (.slice none 0 0) from (bk_block hb2 (Array.getElem?_eq_some_iff.1 HC.out).1).trans HC.out); have c2 := Boxed.cell (show Boxed X2 (w.heap.size + 1) 27 (.int .i64 0) from (bk_block hb2 (Array.getElem?_eq_some_iff.1 HZ.out).1).trans HZ.out); have f2 := Boxed.frozen (show Boxed X2 (w.heap.size + 1) 27 (.int .i64 0) from (bk_block hb2 (Array.getElem?_eq_some_iff.1 HZ.out).1).trans HZ.out); have HB2 := Lib.hid hb2; clear hb2)
      exact ix_end hn HB2.out HBL.out HC.out HZ.out (.inl ⟨bad_snoc HP.out HQ.out, rfl⟩)
    | range =>
      rw [hq] at H18
      have H18 : Calls Tryd.prog 18 #[.string x.1] X fun e w' => e = .returned (.tuple #[.int .i64 0, .int .i64 2]) ∧ BK X w' := H18
      have HQ := Lib.hid hq
      clear hv hrow hc hz hbl hp hlt hq
      gi_wp2_with (refine ⟨trivial, ?_⟩; gi_at_call 18; refine (CallsIn.inRound l (callsIn_wide.2 H18)).mono ?_; rintro e X2 ⟨rfl, hb2⟩; have c1 := Boxed.cell (show Boxed X2 w.heap.size 33 (.slice none 0 0) from (bk_block hb2 (Array.getElem?_eq_some_iff.1 HC.out).1).trans HC.out); have f1 := Boxed.frozen (show Boxed X2 w.heap.size 33 (.slice none 0 0) from (bk_block hb2 (Array.getElem?_eq_some_iff.1 HC.out).1).trans HC.out); have c2 := Boxed.cell (show Boxed X2 (w.heap.size + 1) 27 (.int .i64 0) from (bk_block hb2 (Array.getElem?_eq_some_iff.1 HZ.out).1).trans HZ.out); have f2 := Boxed.frozen (show Boxed X2 (w.heap.size + 1) 27 (.int .i64 0) from (bk_block hb2 (Array.getElem?_eq_some_iff.1 HZ.out).1).trans HZ.out); have HB2 := Lib.hid hb2; clear hb2)
      exact ix_end hn HB2.out HBL.out HC.out HZ.out (.inr ⟨bad_snoc2 HP.out HQ.out, rfl⟩)
    | ok n =>
      rw [hq] at H18
      have H18 : Calls Tryd.prog 18 #[.string x.1] X fun e w' => e = .returned (.tuple #[.int .i64 n, .int .i64 0]) ∧ BK X w' := H18
      have HQ := Lib.hid hq
      obtain ⟨i3, hi3, hz3, hs3, hb3⟩ := info_parts info3
      have hnl := nums_le pre
      have hsl := sp_len (bl s)
      rw [bl_len] at hsl
      have hXl : w6.heap.size ≤ X.heap.size := by omega
      have hln : (nums pre).length ≤ 1000001 := by omega
      have HNS := Lib.hid (nums_snoc HP.out HQ.out)
      have HI := Lib.hid (ints_snoc (nums pre) n)
      obtain ⟨m, hm⟩ : ∃ m, m = (nums pre).length := ⟨_, rfl⟩
      rw [← hm] at HRW hln
      have HM := Lib.hid hm
      clear hv hrow hc hz hbl hp hlt hq hm hnl hsl
      gi_wp2_with (first
        | (refine ⟨trivial, ?_⟩; gi_at_call 18; refine (CallsIn.inRound l (callsIn_wide.2 H18)).mono ?_; rintro e X2 ⟨rfl, hb2⟩; have HV2 := Lib.hid (show Boxed X2 K 33 v from (bk_block hb2 HV.out.lt).trans HV.out); have HR2 := Lib.hid (own_below HRW.out hb2); have cK := HV2.out.cell; have HB2 := Lib.hid hb2; have hX2 : w6.heap.size ≤ X2.heap.size := Nat.le_trans hXl (bk_size hb2); clear hb2)
        | (gi_at_builtin; refine wpListIn_append_own _ rfl _ _ 33 rfl w6.heap.size 3 i3 (.int .i64 0) 1 8 Tryd.underlying33 hi3 hz3 hs3 hb3 rfl (by decide) _ m _ rfl (HR2.out.alloc _) ⟨X2.heap.size, 0, none⟩ 1 1 [.int .i64 n] rfl rfl (cell_one_new _ _ _) (by simp [Value.oneCell']) (by unfold maxLen; omega) (by omega) (by simp; omega) ?_; intro v' w9 hown' hgrow _; obtain ⟨g', cap', rfl⟩ := ownsRow_succ hown'; obtain ⟨hv1, hv2, _, hk2, hbb⟩ := Boxed.appended (n₀ := w.heap.size) HV2.out (by decide) (own_mono HR2.out hw6) (Nat.le_trans hw6 hX2) (by omega) (own_mono hown' hw6) hgrow; have hc1 := hv1.cell; have hf1 := hv1.frozen))
      have kk : ∀ b, b < w6.heap.size → b ≠ K → (w9.setCell ⟨K, 0, none⟩ (.slice (some ⟨g', 0, none⟩) (m + 1) cap')).heap[b]? = X.heap[b]? := fun b h1 h2 =>
        (heap_setCell_other w9 ⟨K, 0, none⟩ b _ (fun e => h2 e)).trans ((hgrow.block b (by simp; omega) (fun e => own_lt HR2.out h1 e.symm)).trans ((heap_alloc_old X2 _ (by omega)).trans (bk_block HB2.out (by omega))))
      have hrow9 : (w9.setCell ⟨K, 0, none⟩ (.slice (some ⟨g', 0, none⟩) (m + 1) cap')).ownsRow w6.heap.size 3 1 (.slice (some ⟨g', 0, none⟩) (m + 1) cap') (m + 1) (ints (nums pre) ++ [.int .i64 n]) :=
        own_at hown' (fun k hk => heap_setCell_other w9 ⟨K, 0, none⟩ k _ (fun e => by have e : k = K := e; have := (hown'.lt k hk).1; omega))
      have hbl9 : Below w.heap.size w (w9.setCell ⟨K, 0, none⟩ (.slice (some ⟨g', 0, none⟩) (m + 1) cap')) := (bk_tr (show BK w X from HBL.out) HB2.out).bl.trans hbb
      refine ⟨(bk_keeps HB2.out _).trans (hk2.from _), ⟨kk _ (by omega) (by omega), kk _ (by omega) (by omega), kk _ (by omega) (by omega)⟩, ⟨⟨⟨⟨_, hv2, ?_, trivial⟩, (kk _ (by omega) (by omega)).trans HC.out, (kk _ (by omega) (by omega)).trans HZ.out⟩, hbl9⟩, ?_⟩⟩
      · rw [HNS.out.2, HI.out, List.length_append, ← HM.out]
        exact hrow9
      · rw [HNS.out.1, HNS.out.2]
  case done =>
    rintro D ys X hD hS hI hK
    obtain ⟨⟨⟨⟨v, hv, hrow, _⟩, hc, hz⟩, hbl⟩, hp⟩ := hI
    obtain ⟨p, c, rfl⟩ := own_shape hrow
    have c0 := hv.cell
    have B1 : Boxed X w.heap.size 33 (.slice none 0 0) := hc
    have B2 : Boxed X (w.heap.size + 1) 27 (.int .i64 0) := hz
    have c1 := B1.cell
    have c2 := B2.cell
    have f1 := B1.frozen
    have f2 := B2.frozen
    have hres : parseL (bl s) = .ok (nums ys) := by rw [HE.out, ← hS, hp]
    obtain ⟨F, hF⟩ : ∃ F, F = (X.setCell ⟨w.heap.size, 0, none⟩ (.slice p (nums ys).length c)).setCell ⟨w.heap.size + 1, 0, none⟩ (.int .i64 0) := ⟨_, rfl⟩
    have g1 : Boxed F w.heap.size 33 (.slice p (nums ys).length c) := by rw [hF]; exact bx_set (B1.set _) (by omega)
    have g2 : Boxed F (w.heap.size + 1) 27 (.int .i64 0) := by rw [hF]; exact (bx_set B2 (by omega)).set _
    have gD : F.heap[D]? = some (.deferred (some [])) := by
      rw [hF]
      exact (heap_setCell_other _ ⟨w.heap.size + 1, 0, none⟩ D _ (fun e => by have e : D = w.heap.size + 1 := e; omega)).trans ((heap_setCell_other X ⟨w.heap.size, 0, none⟩ D _ (fun e => by have e : D = w.heap.size := e; omega)).trans hK)
    have gO : F.ownsRow w6.heap.size 3 1 (.slice p (nums ys).length c) (nums ys).length (ints (nums ys)) := by
      rw [hF]
      exact own_at (own_at hrow (fun k hk => heap_setCell_other X ⟨w.heap.size, 0, none⟩ k _ (fun e => by have e : k = w.heap.size := e; have := (hrow.lt k hk).1; omega)))
        (fun k hk => heap_setCell_other _ ⟨w.heap.size + 1, 0, none⟩ k _ (fun e => by have e : k = w.heap.size + 1 := e; have := (hrow.lt k hk).1; omega))
    have gB : BK w F := by
      rw [hF]
      exact (hbl.setCell (p := ⟨w.heap.size, 0, none⟩) (Nat.le_refl _) _).setCell (p := ⟨w.heap.size + 1, 0, none⟩) (by show w.heap.size ≤ w.heap.size + 1; omega) _
    have G1 := Lib.hid g1
    have G2 := Lib.hid g2
    have GD := Lib.hid gD
    have GO := Lib.hid gO
    have GB := Lib.hid gB
    have HF := Lib.hid hF
    have HR := Lib.hid hres
    clear hv hrow hc hz hbl hp hK hS g1 g2 gD gO gB hF hres B1 B2
    go_wp2_with fail
    rw [← HF.out]
    have hnD : D ≠ w.heap.size ∧ D ≠ w.heap.size + 1 := by omega
    refine ⟨by simp, .inl ⟨_, _, rfl, run_takeDeferred GD.out, ?_⟩⟩
    have r1 : (F.putObj D (.deferred none)).cell? ⟨w.heap.size, 0, none⟩ = some (.slice p (nums ys).length c) := (World.cell?_of_block (a := ⟨w.heap.size, 0, none⟩) (World.putObj_heap_other (by dsimp only; omega))).trans G1.out.cell
    have r2 : (F.putObj D (.deferred none)).cell? ⟨w.heap.size + 1, 0, none⟩ = some (.int .i64 0) := (World.cell?_of_block (a := ⟨w.heap.size + 1, 0, none⟩) (World.putObj_heap_other (by dsimp only; omega))).trans G2.out.cell
    have rO : (F.putObj D (.deferred none)).ownsRow w6.heap.size 3 1 (.slice p (nums ys).length c) (nums ys).length (ints (nums ys)) := ownsRow_putObj GO.out _ GD.out rfl
    have rB : BK w (F.putObj D (.deferred none)) := GB.out.bl.grown (grownBy_putObj' F D (.deferred none)) GB.out.bl.size (fun k e => by cases e; omega)
    refine ⟨.tuple #[.slice p (nums ys).length c, .int .i64 0], by simp [results, Tryd.results20, go_sem, r1, r2], p, c, ?_⟩
    rw [HR.out]
    exact ⟨rfl, Ra.own rO, rB⟩
  case stop =>
    rintro D pre X hD ⟨rest, hS⟩ hI hK
    obtain ⟨⟨⟨hc, hz⟩, hbl⟩, hbad⟩ := hI
    have B1 : Boxed X w.heap.size 33 (.slice none 0 0) := hc
    have B2 : Boxed X (w.heap.size + 1) 27 _ := hz
    have hres : lz (parseL (bl s)) = [] ∧ cd (parseL (bl s)) = cd (plA [] (bls pre)) := by
      rw [HE.out, ← hS, plA_app]
      rcases hbad with h | h <;> (rw [h]; exact ⟨rfl, rfl⟩)
    have r1 : (X.putObj D (.deferred none)).cell? ⟨w.heap.size, 0, none⟩ = some (.slice none 0 0) := (World.cell?_of_block (a := ⟨w.heap.size, 0, none⟩) (World.putObj_heap_other (by dsimp only; omega))).trans B1.cell
    have r2 : (X.putObj D (.deferred none)).cell? ⟨w.heap.size + 1, 0, none⟩ = some (.int .i64 (cd (plA [] (bls pre)))) := (World.cell?_of_block (a := ⟨w.heap.size + 1, 0, none⟩) (World.putObj_heap_other (by dsimp only; omega))).trans B2.cell
    have rB : BK w (X.putObj D (.deferred none)) := hbl.grown (grownBy_putObj' X D (.deferred none)) hbl.size (fun k e => by cases e; omega)
    generalize cd (plA [] (bls pre)) = code at hres r2
    have HRES := Lib.hid hres
    have RB := Lib.hid rB
    have R1 := Lib.hid r1
    have R2 := Lib.hid r2
    have HKK := Lib.hid hK
    clear hc hz hbl hbad B1 B2 hres rB r1 r2 hK hS
    gi_wp2
    refine ⟨by simp, .inl ⟨_, _, rfl, run_takeDeferred HKK.out, ?_⟩⟩
    have r1 := R1.out
    have r2 := R2.out
    refine ⟨.tuple #[.slice none 0 0, .int .i64 code], by simp [results, Tryd.results20, go_sem, r1, r2], none, 0, ?_⟩
    rw [HRES.out.1, HRES.out.2]
    exact ⟨rfl, fun h => absurd h (by decide), RB.out⟩
theorem plist20 (s : ByteArray) (hs : s.size ≤ 1000000) (w : World) (ht : Tb w) : Calls Tryd.prog 20 #[.string s] w (PL w (parseL (bl s))) := by
  rcases str_cases s with h | ⟨h1, h2⟩
  · exact plist20_nil s h w
  · refine plist20_some s hs h2 ?_ w ht
    unfold parseL
    rw [if_neg]
    intro e
    have : (bl s).length = 0 := by rw [e]; rfl
    rw [bl_len] at this
    omega
end Go.Proofs.YtkdpbmbkpepelaaDoor
