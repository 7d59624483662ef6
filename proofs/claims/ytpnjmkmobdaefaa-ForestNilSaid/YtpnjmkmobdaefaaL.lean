/- Link that adds a link. -/
import Derived.Test.YtpnjmkmobdaefaaK
import Derived.StillTailTactics
import Derived.Deep.DeepCutAuto
namespace Go.Proofs.Ytpnjmkmobdaefaa
open Go.RowKit Go.Maps
set_option linter.unusedVariables false
set_option linter.unusedSimpArgs false
def LKP (w : World) (B : Nat) (o : FO) (M : List L3) (N : Nat) (l : L3) (e : Ending) (w' : World) : Prop := e = .returned (.bool true) ∧ ∃ o', o'.f = o.f ∧ FS w' B o' (M ++ [l]) (N + 3) ∧ Step w w' o.foot o'.foot
theorem wrap_ok (x : Int) : okI (IntKind.i64.wrap x) := by
  unfold okI
  rw [IntKind.wrap_i64]
  omega
theorem grown_at {w w1 : World} {X : Obj} {r : Option Nat} (hg : (w.alloc X).grownBy w1 r) {k : Nat} (hk : k < w.heap.size) (hn : r ≠ some k) : w1.heap[k]? = w.heap[k]? := by
  rw [hg.block k (by rw [sz1]; omega) (fun e => hn e.symm)]; exact heap_alloc_old w X hk
/-- the forest behind a link, put together -/
theorem link_end {w : World} {B : Nat} {o o1 : FO} {M : List L3} {N : Nat} {l : L3} {c r x : Int} {up1 : Int → Option Nat} (h : FS w B o M N) (hc : ¬ CR M.reverse l.a l.b) (ha : 0 ≤ l.a) (hb : 0 ≤ l.b) (u1 : UPI M up1) (hx : l.a = x ∨ l.b = x) (hn : up1 x = none)
    (hrt : (CR M.reverse l.a c ∧ CR M.reverse l.b r) ∨ (CR M.reverse l.a r ∧ CR M.reverse l.b c)) (hcn : o.ov c = none) (hrn : o.ov r = none) (hne : c ≠ r) (w' : World) (f : FB w' B o1 (M ++ [l]) (N + 3))
    (e1 : o1.up = upd up1 x (some M.length)) (e2 : o1.ov = put1 o.ov c (some r)) (e3 : o1.C = o.C ++ [c]) : FS w' B o1 (M ++ [l]) (N + 3) := by
  refine ⟨f, ?_, by rw [e1]; exact u1.link hx hn hc, ?_⟩
  · rw [List.reverse_append]
    exact ⟨h.wf, hc, ha, hb⟩
  · rw [e3, List.reverse_append, List.reverse_append, e2]
    exact ⟨r, o.ov, h.v, hcn, hrn, hne, hrt, fun _ => rfl⟩

set_option maxRecDepth 100000 in
set_option maxHeartbeats 4000000 in
theorem link_a (w : World) (B : Nat) (o : FO) (M : List L3) (N : Nat) (h : FS w B o M N) (hB : B ≤ w.heap.size) (hN : M.length ≤ N) (hN2 : N < 800000) (hk : M.length ≤ 900) (a b y : Int) (ha : okI a) (hb : okI b) (hy : okI y) (g1 : 0 ≤ a) (g2 : 0 ≤ b) (hs : ¬ CR M.reverse a b)
    (z z' : Int) (z1 : okI z) (z2 : CR M.reverse a z) (z3 : o.ov z = none) (z4 : ∀ wc, FB wc B o M N → Calls Try.prog 29 #[.pointer (some ⟨o.f, 0, none⟩), .int .i64 a] wc fun e w' => e = .returned (.int .i64 z) ∧ wc = w')
    (y1 : okI z') (y2 : CR M.reverse b z') (y3 : o.ov z' = none) (y4 : ∀ wc, FB wc B o M N → Calls Try.prog 29 #[.pointer (some ⟨o.f, 0, none⟩), .int .i64 b] wc fun e w' => e = .returned (.int .i64 z') ∧ wc = w')
    (r1 r2 : Int) (hr1 : (o.bl z).getD 0 = r1) (hr2 : (o.bl z').getD 0 = r2) (hgt : ¬ r2 < r1) :
    Calls Try.prog 16 #[.pointer (some ⟨o.f, 0, none⟩), .int .i64 a, .int .i64 b, .int .i64 y] w (LKP w B o M N ⟨a, b, y⟩) := by
  have US := Lib.hid (usable_yes o.f w h.fb.k0)
  have Z := Lib.hid (z4 w h.fb)
  have Y := Lib.hid (y4 w h.fb)
  have hzz : z ≠ z' := fun e => hs ((h.roots z2 z3 y2 y3).1 e)
  have hne : (z == z') = false := by simpa using hzz
  have h1 : ¬ a < 0 := by omega
  have h2 : ¬ b < 0 := by omega
  have l1 : ∀ n, (Instr.lookup 49 (.map (some o.mb)) (.int .i64 z) false).run Try.prog (w.drewN n) = .ok (.int .i64 r1) (w.drewN n) := fun n => by rw [← hr1]; exact (h.fb.mbl.at (w' := w.drewN n) rfl).look1 z1
  have l2 : ∀ n, (Instr.lookup 49 (.map (some o.mb)) (.int .i64 z') false).run Try.prog (w.drewN n) = .ok (.int .i64 r2) (w.drewN n) := fun n => by rw [← hr2]; exact (h.fb.mbl.at (w' := w.drewN n) rfl).look1 y1
  have k4 := h.fb.k4
  have HH := Lib.hid h
  have HZ := Lib.hid (And.intro z1 (And.intro z2 z3))
  have HY := Lib.hid (And.intro y1 (And.intro y2 y3))
  have HS := Lib.hid hs
  have HE := Lib.hid hzz
  have HA := Lib.hid ha
  have HB := Lib.hid hb
  have HYY := Lib.hid hy
  have hCl : o.C.length ≤ 900 := by have := ov_len h.v; simp at this; omega
  clear h z1 z2 z3 z4 y1 y2 y3 y4 hs hzz ha hb hy hr1 hr2
  go_enter Try.func16, Try.ntmps16
  go_wp2_with fail
  refine US.out.mono ?_
  rintro e w' ⟨rfl, rfl⟩
  go_wp2_with fail
  refine Z.out.mono ?_
  rintro e w' ⟨rfl, rfl⟩
  go_wp2_with fail
  refine Y.out.mono ?_
  rintro e w' ⟨rfl, rfl⟩
  clear US Z Y
  go_wp2_with fail
  go_quiet (fail)
  clear l1 l2 k4
  have TU := Lib.hid (turn30 (w.drewN nq) B o M N (HH.out.fb.keep (w' := w.drewN nq) (fun _ _ => rfl)) hN (by omega) HH.out.u a HA.out (by omega))
  go_wp2_with fail
  refine TU.out.mono ?_
  rintro e w1 ⟨rfl, up1, f1, u1, s01, st1⟩
  clear TU
  have ST1 := Lib.hid (show Step w w1 o.foot o.foot from st1.drewN)
  have U1 := Lib.hid u1
  have S01 := Lib.hid s01
  -- the map of the tree of links
  have hki : okI (M.length : Int) := ⟨by omega, by omega⟩
  obtain ⟨w2, run2, m2, t2⟩ := MP.store (f1.mup.at (w' := w1.drew) rfl) (by show N < 1000000; omega) (x := a) (v := (M.length : Int)) HA.out hki
  have c1 := f1.k1
  have c2 := f1.k2
  obtain ⟨p0, cc0, elv⟩ := own_shape f1.links
  dsimp only at c1 c2 elv run2 m2 t2
  rw [elv] at c1
  obtain ⟨F2, ST2⟩ := FB.mapU (up := upd up1 a (some M.length)) f1.drew t2 (by rw [← upI_put]; exact m2) (Nat.le_succ N)
  have ELV := Lib.hid elv
  have HF2 := Lib.hid F2
  have HST2 := Lib.hid (ST1.out.trans ST2.drew)
  clear st1 u1 s01 hki m2 t2 F2 ST2 elv ST1
  go_wp2_with fail
  go_still_tail 10, (by kernel_rfl)
  change wpList _ _ _ _ _ w1.drew
  generalize w1.drew = wz at run2 ⊢
  -- the flatter tree
  have c3 := HF2.out.k3
  obtain ⟨w3, run3, m3, t3⟩ := MP.store HF2.out.mov (by omega) (x := z) (v := z') HZ.out.1 HY.out.1
  obtain ⟨F3, ST3⟩ := FB.mapO HF2.out t3 m3 (Nat.le_succ _)
  have HF3 := Lib.hid F3
  have HST3 := Lib.hid (HST2.out.trans ST3)
  clear m3 t3 F3 ST3 HF2 HST2 f1 c1 c2
  dsimp only at c3 run3
  go_wp2_with fail
  -- the sizes
  have c4 := HF3.out.k4
  have q1 := (HF3.out.mbl.at (w' := w3.drew) rfl).look1 HY.out.1
  have q2 := (HF3.out.mbl.at (w' := w3.drew) rfl).look1 HZ.out.1
  generalize hv1 : (Option.getD (FO.bl _ z') 0 : Int) = v1 at q1
  generalize hv2 : (Option.getD (FO.bl _ z) 0 : Int) = v2 at q2
  clear hv1 hv2
  obtain ⟨w4, run4, m4, t4⟩ := MP.store (HF3.out.mbl.at (w' := w3.drew) rfl) (by omega) (x := z') (v := IntKind.i64.wrap (v1 + IntKind.i64.wrap (v2 + 1))) HY.out.1 (wrap_ok _)
  obtain ⟨F4, ST4⟩ := FB.mapB (HF3.out.drew) t4 m4 (Nat.le_succ _)
  have HF4 := Lib.hid F4
  have HST4 := Lib.hid (HST3.out.trans ST4.drew)
  clear m4 t4 F4 ST4 HF3 HST3 run3 c3
  dsimp only at c4 q1 q2 run4
  go_still_tail 14, (by kernel_rfl)
  change wpList _ _ _ _ _ w3.drew
  generalize w3.drew = wz3 at run4 ⊢
  -- the rows
  have c5 := HF4.out.k5
  have f5 := HF4.out.free 5
  have B4 := Lib.hid (Nat.le_trans hB HST4.out.size)
  clear q1 q2 c4
  dsimp only at c5 f5
  go_wp2_with (at_builtin; refine wpList_push1 rfl _ _ rfl B o.sv o.C rfl (own_at HF4.out.lost fun j hj => heap_alloc_old w4 _ (HF4.out.lost.lt j hj).2) ⟨w4.heap.size, 0, none⟩ 1 z rfl (news1 w4 z 3) (by omega) (by have := B4.out; simp; omega) ?_)
  intro g5 cap5 w5 ho5 hg5 hat5
  obtain ⟨F6, ST6⟩ := HF4.out.pushS HZ.out.1 hg5 ho5 hat5 B4.out
  have eb5 := grown_at hg5 (HF4.out.lt _ (.inl rfl)) HF4.out.tags.2.1
  dsimp only at eb5 F6 ST6
  have c5' := (cell_at (j := 5) eb5).trans c5
  have f5' : w5.frozen? ⟨o.f, 5, none⟩ = false := by unfold World.frozen?; rw [eb5]; exact f5
  have HF6 := Lib.hid F6
  have HST6 := Lib.hid (HST4.out.trans ST6)
  have c1 := F6.k1
  have f1 := F6.free 1
  have B6 := Lib.hid (Nat.le_trans hB HST6.out.size)
  clear ho5 hg5 hat5 eb5 F6 ST6 c5 f5 HF4 HST4
  dsimp only at c1 f1
  go_upto_region 13 with (fail)
  generalize w5.setCell ⟨o.f, 5, none⟩ (.slice (some ⟨g5, 0, none⟩) (o.C.length + 1) cap5) = w6 at HF6 HST6 c1 f1 B6 ⊢
  clear c5' f5'
  go_wp2_with (at_builtin; refine wpList_push3 rfl _ _ rfl B o.lv M rfl (own_at HF6.out.links fun j hj => heap_alloc_old w6 _ (HF6.out.links.lt j hj).2) ⟨w6.heap.size, 0, none⟩ 1 ⟨a, b, y⟩ rfl (news3 w6 ⟨a, b, y⟩ 44) (by omega) (by have := B6.out; simp; omega) ?_)
  intro g7 cap7 w7 ho7 hg7 hat7
  obtain ⟨F8, ST8⟩ := HF6.out.pushL (x := ⟨a, b, y⟩) ⟨HA.out, HB.out, HYY.out⟩ hg7 (by simpa using ho7) hat7 B6.out
  have eb7 := grown_at hg7 (HF6.out.lt _ (.inl rfl)) HF6.out.tags.1
  dsimp only at eb7 F8 ST8
  have c1' := (cell_at (j := 1) eb7).trans c1
  have f1' : w7.frozen? ⟨o.f, 1, none⟩ = false := by unfold World.frozen?; rw [eb7]; exact f1
  have HF8 := Lib.hid F8
  have HST8 := Lib.hid (HST6.out.trans ST8)
  clear ho7 hg7 hat7 eb7 F8 ST8 c1 f1
  go_wp2_with fail
  go_ret
  exact ⟨rfl, _, by rfl, link_end (c := z) (r := z') (x := a) HH.out HS.out g1 g2 U1.out (.inl rfl) S01.out (.inl ⟨HZ.out.2.1, HY.out.2.1⟩) HZ.out.2.2 HY.out.2.2 HE.out _ HF8.out rfl rfl rfl, HST8.out⟩

set_option maxRecDepth 100000 in
set_option maxHeartbeats 4000000 in
theorem link_b (w : World) (B : Nat) (o : FO) (M : List L3) (N : Nat) (h : FS w B o M N) (hB : B ≤ w.heap.size) (hN : M.length ≤ N) (hN2 : N < 800000) (hk : M.length ≤ 900) (a b y : Int) (ha : okI a) (hb : okI b) (hy : okI y) (g1 : 0 ≤ a) (g2 : 0 ≤ b) (hs : ¬ CR M.reverse a b)
    (z z' : Int) (z1 : okI z) (z2 : CR M.reverse a z) (z3 : o.ov z = none) (z4 : ∀ wc, FB wc B o M N → Calls Try.prog 29 #[.pointer (some ⟨o.f, 0, none⟩), .int .i64 a] wc fun e w' => e = .returned (.int .i64 z) ∧ wc = w')
    (y1 : okI z') (y2 : CR M.reverse b z') (y3 : o.ov z' = none) (y4 : ∀ wc, FB wc B o M N → Calls Try.prog 29 #[.pointer (some ⟨o.f, 0, none⟩), .int .i64 b] wc fun e w' => e = .returned (.int .i64 z') ∧ wc = w')
    (r1 r2 : Int) (hr1 : (o.bl z).getD 0 = r1) (hr2 : (o.bl z').getD 0 = r2) (hgt : r2 < r1) :
    Calls Try.prog 16 #[.pointer (some ⟨o.f, 0, none⟩), .int .i64 a, .int .i64 b, .int .i64 y] w (LKP w B o M N ⟨a, b, y⟩) := by
  have US := Lib.hid (usable_yes o.f w h.fb.k0)
  have Z := Lib.hid (z4 w h.fb)
  have Y := Lib.hid (y4 w h.fb)
  have hzz : z ≠ z' := fun e => hs ((h.roots z2 z3 y2 y3).1 e)
  have hne : (z == z') = false := by simpa using hzz
  have h1 : ¬ a < 0 := by omega
  have h2 : ¬ b < 0 := by omega
  have l1 : ∀ n, (Instr.lookup 49 (.map (some o.mb)) (.int .i64 z) false).run Try.prog (w.drewN n) = .ok (.int .i64 r1) (w.drewN n) := fun n => by rw [← hr1]; exact (h.fb.mbl.at (w' := w.drewN n) rfl).look1 z1
  have l2 : ∀ n, (Instr.lookup 49 (.map (some o.mb)) (.int .i64 z') false).run Try.prog (w.drewN n) = .ok (.int .i64 r2) (w.drewN n) := fun n => by rw [← hr2]; exact (h.fb.mbl.at (w' := w.drewN n) rfl).look1 y1
  have k4 := h.fb.k4
  have HH := Lib.hid h
  have HZ := Lib.hid (And.intro z1 (And.intro z2 z3))
  have HY := Lib.hid (And.intro y1 (And.intro y2 y3))
  have HS := Lib.hid hs
  have HE := Lib.hid hzz
  have HA := Lib.hid ha
  have HB := Lib.hid hb
  have HYY := Lib.hid hy
  have hCl : o.C.length ≤ 900 := by have := ov_len h.v; simp at this; omega
  clear h z1 z2 z3 z4 y1 y2 y3 y4 hs hzz ha hb hy hr1 hr2
  go_enter Try.func16, Try.ntmps16
  go_wp2_with fail
  refine US.out.mono ?_
  rintro e w' ⟨rfl, rfl⟩
  go_wp2_with fail
  refine Z.out.mono ?_
  rintro e w' ⟨rfl, rfl⟩
  go_wp2_with fail
  refine Y.out.mono ?_
  rintro e w' ⟨rfl, rfl⟩
  clear US Z Y
  go_wp2_with fail
  go_quiet (fail)
  clear l1 l2 k4
  have TU := Lib.hid (turn30 (w.drewN nq) B o M N (HH.out.fb.keep (w' := w.drewN nq) (fun _ _ => rfl)) hN (by omega) HH.out.u b HB.out (by omega))
  go_wp2_with fail
  refine TU.out.mono ?_
  rintro e w1 ⟨rfl, up1, f1, u1, s01, st1⟩
  clear TU
  have ST1 := Lib.hid (show Step w w1 o.foot o.foot from st1.drewN)
  have U1 := Lib.hid u1
  have S01 := Lib.hid s01
  -- the map of the tree of links
  have hki : okI (M.length : Int) := ⟨by omega, by omega⟩
  obtain ⟨w2, run2, m2, t2⟩ := MP.store (f1.mup.at (w' := w1.drew) rfl) (by show N < 1000000; omega) (x := b) (v := (M.length : Int)) HB.out hki
  have c1 := f1.k1
  have c2 := f1.k2
  obtain ⟨p0, cc0, elv⟩ := own_shape f1.links
  dsimp only at c1 c2 elv run2 m2 t2
  rw [elv] at c1
  obtain ⟨F2, ST2⟩ := FB.mapU (up := upd up1 b (some M.length)) f1.drew t2 (by rw [← upI_put]; exact m2) (Nat.le_succ N)
  have ELV := Lib.hid elv
  have HF2 := Lib.hid F2
  have HST2 := Lib.hid (ST1.out.trans ST2.drew)
  clear st1 u1 s01 hki m2 t2 F2 ST2 elv ST1
  go_wp2_with fail
  go_still_tail 10, (by kernel_rfl)
  change wpList _ _ _ _ _ w1.drew
  generalize w1.drew = wz at run2 ⊢
  -- the flatter tree
  have c3 := HF2.out.k3
  obtain ⟨w3, run3, m3, t3⟩ := MP.store HF2.out.mov (by omega) (x := z') (v := z) HY.out.1 HZ.out.1
  obtain ⟨F3, ST3⟩ := FB.mapO HF2.out t3 m3 (Nat.le_succ _)
  have HF3 := Lib.hid F3
  have HST3 := Lib.hid (HST2.out.trans ST3)
  clear m3 t3 F3 ST3 HF2 HST2 f1 c1 c2
  dsimp only at c3 run3
  go_wp2_with fail
  -- the sizes
  have c4 := HF3.out.k4
  have q1 := (HF3.out.mbl.at (w' := w3.drew) rfl).look1 HZ.out.1
  have q2 := (HF3.out.mbl.at (w' := w3.drew) rfl).look1 HY.out.1
  generalize hv1 : (Option.getD (FO.bl _ z) 0 : Int) = v1 at q1
  generalize hv2 : (Option.getD (FO.bl _ z') 0 : Int) = v2 at q2
  clear hv1 hv2
  obtain ⟨w4, run4, m4, t4⟩ := MP.store (HF3.out.mbl.at (w' := w3.drew) rfl) (by omega) (x := z) (v := IntKind.i64.wrap (v1 + IntKind.i64.wrap (v2 + 1))) HZ.out.1 (wrap_ok _)
  obtain ⟨F4, ST4⟩ := FB.mapB (HF3.out.drew) t4 m4 (Nat.le_succ _)
  have HF4 := Lib.hid F4
  have HST4 := Lib.hid (HST3.out.trans ST4.drew)
  clear m4 t4 F4 ST4 HF3 HST3 run3 c3
  dsimp only at c4 q1 q2 run4
  go_still_tail 14, (by kernel_rfl)
  change wpList _ _ _ _ _ w3.drew
  generalize w3.drew = wz3 at run4 ⊢
  -- the rows
  have c5 := HF4.out.k5
  have f5 := HF4.out.free 5
  have B4 := Lib.hid (Nat.le_trans hB HST4.out.size)
  clear q1 q2 c4
  dsimp only at c5 f5
  go_wp2_with (at_builtin; refine wpList_push1 rfl _ _ rfl B o.sv o.C rfl (own_at HF4.out.lost fun j hj => heap_alloc_old w4 _ (HF4.out.lost.lt j hj).2) ⟨w4.heap.size, 0, none⟩ 1 z' rfl (news1 w4 z' 3) (by omega) (by have := B4.out; simp; omega) ?_)
  intro g5 cap5 w5 ho5 hg5 hat5
  obtain ⟨F6, ST6⟩ := HF4.out.pushS HY.out.1 hg5 ho5 hat5 B4.out
  have eb5 := grown_at hg5 (HF4.out.lt _ (.inl rfl)) HF4.out.tags.2.1
  dsimp only at eb5 F6 ST6
  have c5' := (cell_at (j := 5) eb5).trans c5
  have f5' : w5.frozen? ⟨o.f, 5, none⟩ = false := by unfold World.frozen?; rw [eb5]; exact f5
  have HF6 := Lib.hid F6
  have HST6 := Lib.hid (HST4.out.trans ST6)
  have c1 := F6.k1
  have f1 := F6.free 1
  have B6 := Lib.hid (Nat.le_trans hB HST6.out.size)
  clear ho5 hg5 hat5 eb5 F6 ST6 c5 f5 HF4 HST4
  dsimp only at c1 f1
  go_upto_region 13 with (fail)
  generalize w5.setCell ⟨o.f, 5, none⟩ (.slice (some ⟨g5, 0, none⟩) (o.C.length + 1) cap5) = w6 at HF6 HST6 c1 f1 B6 ⊢
  clear c5' f5'
  go_wp2_with (at_builtin; refine wpList_push3 rfl _ _ rfl B o.lv M rfl (own_at HF6.out.links fun j hj => heap_alloc_old w6 _ (HF6.out.links.lt j hj).2) ⟨w6.heap.size, 0, none⟩ 1 ⟨a, b, y⟩ rfl (news3 w6 ⟨a, b, y⟩ 44) (by omega) (by have := B6.out; simp; omega) ?_)
  intro g7 cap7 w7 ho7 hg7 hat7
  obtain ⟨F8, ST8⟩ := HF6.out.pushL (x := ⟨a, b, y⟩) ⟨HA.out, HB.out, HYY.out⟩ hg7 (by simpa using ho7) hat7 B6.out
  have eb7 := grown_at hg7 (HF6.out.lt _ (.inl rfl)) HF6.out.tags.1
  dsimp only at eb7 F8 ST8
  have c1' := (cell_at (j := 1) eb7).trans c1
  have f1' : w7.frozen? ⟨o.f, 1, none⟩ = false := by unfold World.frozen?; rw [eb7]; exact f1
  have HF8 := Lib.hid F8
  have HST8 := Lib.hid (HST6.out.trans ST8)
  clear ho7 hg7 hat7 eb7 F8 ST8 c1 f1
  go_wp2_with fail
  go_ret
  exact ⟨rfl, _, by rfl, link_end (c := z') (r := z) (x := b) HH.out HS.out g1 g2 U1.out (.inr rfl) S01.out (.inr ⟨HZ.out.2.1, HY.out.2.1⟩) HY.out.2.2 HZ.out.2.2 HE.out.symm _ HF8.out rfl rfl rfl, HST8.out⟩
theorem link16_new (w : World) (B : Nat) (o : FO) (M : List L3) (N : Nat) (h : FS w B o M N) (hB : B ≤ w.heap.size) (hN : M.length ≤ N) (hN2 : N < 800000) (hk : M.length ≤ 900) (a b y : Int) (ha : okI a) (hb : okI b) (hy : okI y) (g1 : 0 ≤ a) (g2 : 0 ≤ b) (hs : ¬ CR M.reverse a b) :
    Calls Try.prog 16 #[.pointer (some ⟨o.f, 0, none⟩), .int .i64 a, .int .i64 b, .int .i64 y] w (LKP w B o M N ⟨a, b, y⟩) := by
  obtain ⟨z, z1, z2, z3, z4⟩ := h.root ha
  obtain ⟨z', y1, y2, y3, y4⟩ := h.root hb
  by_cases q : (o.bl z').getD 0 < (o.bl z).getD 0
  · exact link_b w B o M N h hB hN hN2 hk a b y ha hb hy g1 g2 hs z z' z1 z2 z3 z4 y1 y2 y3 y4 _ _ rfl rfl q
  · exact link_a w B o M N h hB hN hN2 hk a b y ha hb hy g1 g2 hs z z' z1 z2 z3 z4 y1 y2 y3 y4 _ _ rfl rfl q
end Go.Proofs.Ytpnjmkmobdaefaa
