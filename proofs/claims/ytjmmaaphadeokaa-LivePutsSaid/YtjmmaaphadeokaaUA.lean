/- A range over instructions backward. -/
import Derived.Test.YtjmmaaphadeokaaU
namespace Go.Proofs.Ytjmmaaphadeokaa
open Go.RowKit Go.Shelf
set_option linter.unusedVariables false
set_option linter.unusedSimpArgs false
theorem not_own {w : World} {b : Nat} {cs : Array Value} {t : TypeId} (h : w.heap[b]? = some (.cells cs t (0, 0))) (hte : t ≠ 54) {B k : Nat} {v : Value} {xs : List Value} (hr : w.ownsRow B 54 6 v k xs) : some b ≠ v.ownBlock := by
  rcases hr.2 with ⟨rfl, _⟩ | ⟨g, cap, cur, rfl, _, hg, _⟩
  · intro e; cases e
  · intro e
    have e : b = g := by simpa [Value.ownBlock] using e
    subst e
    rw [hg] at h
    simp only [Option.some.injEq, Obj.cells.injEq] at h
    exact hte h.2.1.symm
theorem own_lt {w : World} {B k : Nat} {v : Value} {xs : List Value} (hr : w.ownsRow B 54 6 v k xs) {b : Nat} (h : w.heap.size ≤ b) : v.ownBlock ≠ some b := by
  intro e
  have := (hr.lt b e).2
  omega
theorem rem_dead (out : List Int) (pre : List El) (x : El) (h : deadB x.1.2 (removeL out (sfx pre)) out = true) : removeL out (sfx (pre ++ [x])) = removeL out (sfx pre) := by
  rw [sfx_snoc, removeL, if_pos h]
theorem rem_live (out : List Int) (pre : List El) (x : El) (h : deadB x.1.2 (removeL out (sfx pre)) out = false) : removeL out (sfx (pre ++ [x])) = x.1.2 :: removeL out (sfx pre) := by
  rw [sfx_snoc, removeL, if_neg (by simp [h])]
theorem kl_dead (out : List Int) (pre : List El) (x : El) (h : deadB x.1.2 (removeL out (sfx pre)) out = true) : klL out (pre ++ [x]) = klL out pre := by
  unfold klL; rw [rem_dead out pre x h]
theorem kl_live (out : List Int) (pre : List El) (x : El) (h : deadB x.1.2 (removeL out (sfx pre)) out = false) : klL out (pre ++ [x]) = klL out pre ++ [x.1.2] := by
  unfold klL; rw [rem_live out pre x h]; simp
theorem kept_append {w7 w8 : World} {tmp : Obj} {v0 v' : Value} {K b : Nat} (hgrow : (w7.alloc tmp).grownBy w8 v0.ownBlock) (hb : b < w7.heap.size) (hne : some b ≠ v0.ownBlock) (hK : b ≠ K) : (w8.setCell ⟨K, 0, none⟩ v').heap[b]? = w7.heap[b]? :=
  (Below.heap_setCell w8 _ _ b hK).trans ((hgrow.block b (by simp; omega) hne).trans (heap_alloc_old w7 tmp hb))
theorem six_new (w : World) (i : I6) : ∀ j u, (cells6 i)[j]? = some u → (w.alloc (.cells #[.int .i64 i.op, .int .i64 i.dst, .int .i64 i.a, .int .i64 i.b, .int .i64 i.c, .int .u64 i.imm] 54)).cell? ((⟨w.heap.size, 0, none⟩ : Addr).add j) = some u := fun j u hu => by
  have := (x6_new w i 54).range j u hu
  rw [show (⟨w.heap.size, 0, none⟩ : Addr).add j = ⟨w.heap.size, 0 + j, none⟩ from Go.WideShapes.add_plain _ _ _]
  exact this
theorem cells6_one (i : I6) : ∀ u ∈ cells6 i, u.oneCell' = true := by
  intro u hu
  simp [cells6] at hu
  rcases hu with rfl | rfl | rfl | rfl | rfl | rfl <;> rfl
theorem below_setCells {n₀ b : Nat} (hb : n₀ ≤ b) {A : World} : ∀ (vs : List Value) (o : Nat) (w : World), Below n₀ A w → Below n₀ A (w.setCells b o vs)
  | [], _, _, h => h
  | v :: r, o, w, h => below_setCells hb r (o + 1) _ (h.setCell (p := ⟨b, o, none⟩) hb _)
theorem kl_len (out : List Int) (pre : List El) : (klL out pre).length ≤ pre.length := by
  unfold klL; have := removeL_len out (sfx pre); rw [sfx_len] at this; simp; omega

theorem there4 {w : World} {b : Nat} {x0 x1 x2 x3 : Value} {t : TypeId} (h : w.heap[b]? = some (.cells #[x0, x1, x2, x3] t (0, 0))) : w.there b 0 4 := fun j hj => by
  refine ⟨?_, by simp [World.frozen?, h]⟩
  rw [cell_of_row w _ _ _ _ _ h, Nat.zero_add]
  match j, hj with
  | 0, _ => rfl
  | 1, _ => rfl
  | 2, _ => rfl
  | 3, _ => rfl
def onlyN (K : Act → World → Prop) : Exit → Act → World → Prop
  | .normal, a, w => K a w
  | _, _, _ => False
theorem region_onlyN {P : Program} {c : Code} {Q : Exit → Act → World → Prop} {a : Act} {w : World} (h : c.wp P (onlyN (Q .normal)) a w) : c.wp P Q a w :=
  Code.wp_mono (fun e a w h => by cases e <;> first | exact h | exact h.elim) h
theorem own_fin {w7 : World} {b D B e sz n : Nat} {vs : List Value} {v : Value} {xs : List Value} (o : w7.ownsRow B e sz v n xs) (hb : ∀ k, v.ownBlock = some k → k ≠ b ∧ k ≠ D) : ((w7.setCells b 0 vs).putObj D (.deferred none)).ownsRow B e sz v n xs :=
  own_at o fun k hk => by
    obtain ⟨h1, h2⟩ := hb k hk
    have e1 : ((w7.setCells b 0 vs).putObj D (.deferred none)).heap[k]? = (w7.setCells b 0 vs).heap[k]? := World.putObj_heap_other (by omega)
    have e2 : (w7.setCells b 0 vs).heap[k]? = w7.heap[k]? := World.heap_setCells_other w7 b 0 vs (o.lt k hk).2 h1
    exact e1.trans e2
theorem of_drewI {a b : World} (h : BK a b) : BK a b := h

attribute [local go_sem] Oper.semAt_some
def RP (w : World) (W R : Int) (L : List I6) (out : List Int) (e : Ending) (w' : World) : Prop :=
  ∃ p' pc' q' qc', e = .returned (.tuple #[.agg #[.int .i64 W, .int .i64 R, .slice p' L.length pc', .slice q' out.length qc'], .int .i64 0]) ∧ RI w' p' pc' L ∧ RO w' q' qc' out ∧ BK w w'
set_option maxRecDepth 100000 in
set_option maxHeartbeats 4000000 in
theorem remove19_ok (W R : Int) (p q : Option Addr) (pc qc : Nat) (ins : List I6) (out : List Int) (w : World) (hi : RI w p pc ins) (ho : RO w q qc out) (lo : out.length ≤ 20) (hv : Vd W R ins out) :
    Calls Try.prog 19 #[.agg #[.int .i64 W, .int .i64 R, .slice p ins.length pc, .slice q out.length qc]] w (RP w W R (removeL out ins) out) := by
  obtain ⟨hreg, hin⟩ := valid_reg hv
  have li := hv.len
  have b4 := (b4_new w (.int .i64 W) (.int .i64 R) (.slice p ins.length pc) (.slice q out.length qc) 25).keep (bk_alloc (BK.refl _) (.cells #[.int .i64 0, .int .i64 0, .slice none 0 0, .slice none 0 0] 25))
  have h0 : ((w.alloc (.cells #[.int .i64 W, .int .i64 R, .slice p ins.length pc, .slice q out.length qc] 25)).alloc (.cells #[.int .i64 0, .int .i64 0, .slice none 0 0, .slice none 0 0] 25)).heap[w.heap.size]? = some (.cells #[.int .i64 W, .int .i64 R, .slice p ins.length pc, .slice q out.length qc] 25 (0, 0)) := (heap_alloc_old _ _ (by simp)).trans (heap_alloc_new w _)
  have h1 := heap_alloc_new (w.alloc (.cells #[.int .i64 W, .int .i64 R, .slice p ins.length pc, .slice q out.length qc] 25)) (.cells #[.int .i64 0, .int .i64 0, .slice none 0 0, .slice none 0 0] 25)
  rw [sz1] at h1
  have k0 := bk_alloc (bk_alloc (BK.refl w) (.cells #[.int .i64 W, .int .i64 R, .slice p ins.length pc, .slice q out.length qc] 25)) (.cells #[.int .i64 0, .int .i64 0, .slice none 0 0, .slice none 0 0] 25)
  have HI := Lib.hid hi
  have HO := Lib.hid ho
  have HIN := Lib.hid hin
  have HREG := Lib.hid hreg
  have C30 := Lib.hid (fun (wc : World) (hb : BK w wc) => (chk30 W R p q pc qc ins out wc (hi.keep hb) (ho.keep hb) (by omega) (by omega)).mono (R' := fun e w' => e = .returned (.int .i64 0) ∧ BK wc w') fun e w' ⟨a, b⟩ => ⟨by rw [a, chk_zero.2 hv], b⟩)
  have C36 := Lib.hid (fun (wc : World) (hb : BK w wc) => set36 out q qc wc (ho.keep hb) hin (by omega))
  clear hi ho hreg hin hv
  refine (callsIn_wide (n := 6)).1 ?_
  refine callsIn_of_wp_marks Try.func19 rfl trivial ?_ rfl
  refine wpIn_wide.2 ?_
  simp only [Try.ntmps19, List.size_toArray, List.length_cons, List.length_nil, Nat.reduceAdd, Nat.reduceSub, Array.replicate_succ, Array.replicate_zero, List.push_toArray, List.append_toArray, List.nil_append, List.cons_append]
  go_upto_region 1 with (fail)
  generalize (w.alloc (.cells #[.int .i64 W, .int .i64 R, .slice p ins.length pc, .slice q out.length qc] 25)).alloc (.cells #[.int .i64 0, .int .i64 0, .slice none 0 0, .slice none 0 0] 25) = w0 at b4 h0 h1 k0 ⊢
  obtain ⟨c0, c1, c2, c3⟩ := b4
  have H0 := Lib.hid h0
  have H1 := Lib.hid h1
  have K0 := Lib.hid k0
  have B4' := Lib.hid (show B4 w0 w.heap.size (.int .i64 W) (.int .i64 R) (.slice p ins.length pc) (.slice q out.length qc) from ⟨c0, c1, c2, c3⟩)
  clear h0 h1 k0
  go_wp2_with fail
  refine (C30.out w0 K0.out).mono ?_
  rintro e w1 ⟨rfl, hb1⟩
  have K1 := Lib.hid (bk_tr K0.out hb1)
  have B1 := B4'.out.keep hb1
  have H01 := Lib.hid ((bk_block hb1 (Array.getElem?_eq_some_iff.1 H0.out).1).trans H0.out)
  have H11 := Lib.hid ((bk_block hb1 (Array.getElem?_eq_some_iff.1 H1.out).1).trans H1.out)
  clear hb1 c0 c1 c2 c3
  go_upto_region 5 with (fail)
  have hK := Boxed.new w1 22 (.slice none 0 0)
  obtain ⟨c0, c1, c2, c3⟩ := B1.keep (bk_alloc (BK.refl w1) (.cells #[.slice none 0 0] 22))
  have K2 := Lib.hid (bk_alloc K1.out (.cells #[.slice none 0 0] 22))
  have H02 := Lib.hid ((heap_alloc_old w1 (.cells #[.slice none 0 0] 22) (Array.getElem?_eq_some_iff.1 H01.out).1).trans H01.out)
  have H12 := Lib.hid ((heap_alloc_old w1 (.cells #[.slice none 0 0] 22) (Array.getElem?_eq_some_iff.1 H11.out).1).trans H11.out)
  have hKlt : w.heap.size + 1 < w1.heap.size := (Array.getElem?_eq_some_iff.1 H11.out).1
  generalize w1.alloc (.cells #[.slice none 0 0] 22) = w2 at hK c0 c1 c2 c3 K2 H02 H12 ⊢
  have HKB := Lib.hid hK
  generalize w1.heap.size = K at HKB hKlt hK ⊢
  have B2 := Lib.hid (show B4 w2 w.heap.size (.int .i64 W) (.int .i64 R) (.slice p ins.length pc) (.slice q out.length qc) from ⟨c0, c1, c2, c3⟩)
  clear B1 hK
  go_wp2_with fail
  refine (C36.out w2 K2.out).mono ?_
  rintro e w3 ⟨rfl, hb3⟩
  have K3 := Lib.hid (bk_tr K2.out hb3)
  have H03 := Lib.hid ((bk_block hb3 (Array.getElem?_eq_some_iff.1 H02.out).1).trans H02.out)
  have H13 := Lib.hid ((bk_block hb3 (Array.getElem?_eq_some_iff.1 H12.out).1).trans H12.out)
  have HK3 := Lib.hid (show Boxed w3 K 22 (.slice none 0 0) from (bk_block hb3 HKB.out.lt).trans HKB.out)
  have B3 := Lib.hid (B2.out.keep hb3)
  clear hb3 c0 c1 c2 c3
  go_upto_region 6 with (refine wpList_store_row rfl 58 _ _ rfl w3.heap.size (ba (hvL out)) rfl rfl 58 _ (heap_alloc_last _ _) (by rw [ba_size, hvL_len]; kernel_rfl) (by rw [ba_size, hvL_len]; rfl) (ba_one _) ?_; rw [World.setRow_alloc_new])
  have hL := SH.new w3 (hvL out)
  obtain ⟨c0, c1, c2, c3⟩ := B3.out.keep (bk_alloc (BK.refl w3) (.cells (ba (hvL out)) 58))
  have K4 := Lib.hid (bk_alloc K3.out (.cells (ba (hvL out)) 58))
  have H04 := Lib.hid ((heap_alloc_old w3 (.cells (ba (hvL out)) 58) (Array.getElem?_eq_some_iff.1 H03.out).1).trans H03.out)
  have H14 := Lib.hid ((heap_alloc_old w3 (.cells (ba (hvL out)) 58) (Array.getElem?_eq_some_iff.1 H13.out).1).trans H13.out)
  have HK4 := Lib.hid (HK3.out.alloc (.cells (ba (hvL out)) 58))
  have hKL : K < w3.heap.size := HK3.out.lt
  generalize w3.alloc (.cells (ba (hvL out)) 58) = w4 at hL c0 c1 c2 c3 K4 H04 H14 HK4 ⊢
  have HL := Lib.hid hL
  generalize w3.heap.size = L at HL hKL hL ⊢
  clear hL
  have hLlt := HL.out.lt
  go_wp2_with (go_at_call 37; refine (back37 _ _ _ _).mono ?_; rintro e w5 ⟨rfl, rfl⟩)
  have hBN := Boxed.new w4 22 (.slice p ins.length pc)
  have K5 := Lib.hid (bk_alloc K4.out (.cells #[.slice p ins.length pc] 22))
  have I0 : IV w K L W R p q pc qc ins out [] (w4.alloc (.cells #[.slice p ins.length pc] 22)) := by
    refine ⟨⟨⟨⟨_, HK4.out.alloc _, World.ownsRow_nil _ _ _ _, trivial⟩, ?_⟩, ?_, ?_⟩, K5.out⟩
    · exact HL.out.old _
    · exact (heap_alloc_old w4 _ (Array.getElem?_eq_some_iff.1 H04.out).1).trans H04.out
    · exact (heap_alloc_old w4 _ (Array.getElem?_eq_some_iff.1 H14.out).1).trans H14.out
  have hsz5 : (w4.alloc (.cells #[.slice p ins.length pc] 22)).heap.size = w4.heap.size + 1 := sz1 _ _
  generalize w4.alloc (.cells #[.slice p ins.length pc] 22) = w5 at hBN K5 I0 hsz5 ⊢
  generalize w4.heap.size = Bs at hBN hLlt hsz5 ⊢
  have hK5 := K5.out
  have hBt := hBN.lt
  have hsw : w.heap.size ≤ w5.heap.size := bk_size hK5
  have HSZ5 := Lib.hid hsz5
  have HBN := Lib.hid hBN
  clear c0 c1 c2 c3 hsz5
  refine (wpIn_wide (n := 6)).1 ?_
  refine wpIn_rangeFunc_ownH rfl (by omega) (gf := 57) (lb := #[.pointer (some ⟨Bs, 0, none⟩)]) rfl trivial (enters_of Try.func57 (by kernel_rfl) rfl)
    (back_stops Bs p pc ins w w5 HI.out (by omega) HREG.out hK5 hBt hBN.cell) Kq.trans (Kq.put hsw hBt) (Below.refl _ _) (fun _ => rfl)
    (fun pre X => IV w K L W R p q pc qc ins out pre X ∧ Boxed X Bs 22 (.slice p ins.length pc)) (fun _ _ _ => False) (OwnFrom.and (IV.from hsw) (Own.from (boxed_own Bs 22 (fun _ => .slice p ins.length pc)) _)) (fun _ _ _ _ _ hs _ _ => hs) ⟨I0, HBN.out⟩
    (fun x a' X => ∃ Bx v0, (Bs < Bx ∧ X.heap[Bx]? = some (.cells #[.int .i64 x.1.2.op, .int .i64 x.1.2.dst, .int .i64 x.1.2.a, .int .i64 x.1.2.b, .int .i64 x.1.2.c, .int .u64 x.1.2.imm] 54 (0, 0))) ∧ (Boxed X K 22 v0 ∧ v0.ownBlock ≠ some Bx) ∧ a' = { tmps := #[.agg #[.int .i64 W, .int .i64 R, .slice p ins.length pc, .slice q out.length qc], .pointer (some ⟨w.heap.size, 0, none⟩), .pointer (some ⟨w.heap.size + 1, 0, none⟩), .int .i64 0, .int .i64 0, .pointer (some ⟨K, 0, none⟩), .pointer (some ⟨L, 0, none⟩), undef, .pointer (some ⟨Bx, 0, none⟩), .agg #[.int .i64 W, .int .i64 R, .slice p ins.length pc, .slice q out.length qc], .int .i64 0, .int .i64 0, .bool false, undef, undef, .pointer (some ⟨w.heap.size, 3, none⟩), .slice q out.length qc, .agg (ba (hvL out)), .pointer (some ⟨w.heap.size, 2, none⟩), .slice p ins.length pc, .func (.func 57) #[] #[.pointer (some ⟨Bs, 0, none⟩)], .int .i64 x.1.1, .agg #[.int .i64 x.1.2.op, .int .i64 x.1.2.dst, .int .i64 x.1.2.a, .int .i64 x.1.2.b, .int .i64 x.1.2.c, .int .u64 x.1.2.imm], undef, undef, undef, undef, undef, undef, undef, undef, undef, undef, undef, undef, undef, undef, undef, undef, undef, undef, undef, undef, undef, undef], defers := [] })
    (fun x a' _ X Y row hs hg hr => by
      obtain ⟨Bx, v0, ⟨h1, h2⟩, ⟨h3, h4⟩, h5⟩ := hs
      exact ⟨Bx, v0, ⟨h1, cells_own Bx (fun (_ : Unit) => _) 54 () X Y row h2 hg (fun r e => (hr r e).2)⟩, ⟨boxed_own K 22 (fun (_ : Unit) => v0) () X Y row h3 hg (fun r e => (hr r e).2), h4⟩, h5⟩)
    ?assign ?body ?done ?stop
  case assign =>
    intro l pre x X K' hI hK
    have HIV := Lib.hid hI.1
    have HBX := Lib.hid hI.2
    obtain ⟨⟨⟨⟨⟨v, hv, hrow, _⟩, hsl⟩, hc, hz⟩, hbl⟩, hbx⟩ := hI
    have HV := Lib.hid hv
    have HRW := Lib.hid hrow
    have HSW := Lib.hid hsw
    have hXl : w.heap.size ≤ X.heap.size := hbl.size
    clear hv hrow hsl hc hz hbl hsw hbx
    dsimp only [encE]
    gi_wp2
    refine hK _ _ ((KeepsOthers.alloc _ _).from _) ⟨(Below.refl _ X).alloc hXl _, heap_alloc_old X _ HBX.out.lt⟩ ⟨OwnFrom.alloc (IV.from HSW.out) _ HIV.out, HBX.out.alloc _⟩ ⟨X.heap.size, v, ⟨HBX.out.lt, heap_alloc_new X _⟩, ⟨HV.out.alloc _, own_lt HRW.out (Nat.le_refl _)⟩, rfl⟩
  case body =>
    rintro l pre x a' X hl ⟨r, hr⟩ ⟨hI, hbx⟩ ⟨Bx, v0, ⟨hBx, hX⟩, ⟨hv0, hne⟩, rfl⟩ hlt
    obtain ⟨⟨⟨⟨v, hv, hrow, _⟩, hsl⟩, hc, hz⟩, hbl⟩ := hI
    obtain rfl : v0 = v := by
      have e := hv0.symm.trans hv
      simpa using e
    clear hv0
    have hkl := kl_len out pre
    have hDS := deadS_lv x.1.2 (removeL out (sfx pre)) out x.2
    have hKd := fun h => kl_dead out pre x h
    have hRd := fun h => rem_dead out pre x h
    have hKv := fun h => kl_live out pre x h
    have hRv := fun h => rem_live out pre x h
    have hlc := lvL_cons x.1.2 (removeL out (sfx pre)) out
    have h8 := lvL_len (removeL out (sfx pre)) out
    obtain ⟨xv, hreg⟩ := x
    obtain ⟨ix, i⟩ := xv
    dsimp only at hX hDS hKd hRd hKv hRv hlc hreg ⊢
    generalize hs0 : lvL (removeL out (sfx pre)) out = s at hsl hDS hlc h8
    generalize hk0 : klL out pre = kl at hrow hkl hKd hKv
    generalize hD : deadB i (removeL out (sfx pre)) out = D at hDS hKd hRd hKv hRv
    have x6 : X6 X Bx i := by
      refine ⟨?_, ?_, ?_, ?_, ?_, ?_⟩ <;> (rw [cell_of_row X _ _ _ _ _ hX]; rfl)
    have sh : SH X L s := hsl
    have C38 := Lib.hid (fun wc => by have := dead38 i s wc h8 hreg; rw [hDS] at this; exact (show Calls Try.prog 38 #[.agg (cells6 i).toArray, .agg (bs s).toArray] wc (fun e w' => e = .returned (.bool D) ∧ BK wc w') from this))
    have HX := Lib.hid hX
    have HSL := Lib.hid sh
    have HV := Lib.hid hv
    have HROW := Lib.hid hrow
    have HC := Lib.hid hc
    have HZ := Lib.hid hz
    have HBL := Lib.hid hbl
    have HBX := Lib.hid hbx
    have HNE := Lib.hid hne
    have HR6 := Lib.hid x6.range
    have HX6 := Lib.hid x6
    have HSR := Lib.hid sh.range
    have H8 := Lib.hid h8
    have HLC := Lib.hid hlc
    have HS0 := Lib.hid hs0
    have HK0 := Lib.hid hk0
    have HKD := Lib.hid hKd
    have HRD := Lib.hid hRd
    have HKV := Lib.hid hKv
    have HRV := Lib.hid hRv
    have HREGI := Lib.hid hreg
    have HSW := Lib.hid hsw
    clear hX hsl hv hrow hc hz hbl hbx hne x6 sh h8 hlc hDS hs0 hk0 hKd hRd hKv hRv hr hD hsw
    gi_upto_region 8 with (fail)
    refine wpIn_region_lit ?_
    refine wpListIn_load_mid rfl 54 _ rfl Bx 0 rfl (cells6 i) _ HR6.out Try.underlying54 rfl (by kernel_rfl) ?_
    refine wpListIn_load_mid rfl 58 _ rfl L 0 rfl (bs s) _ HSR.out Try.underlying58 rfl (hi58 s H8.out) ?_
    obtain ⟨i0, hi0, hz0, hz1, hz2⟩ := info_parts info54
    have hml : kl.length + 1 ≤ maxLen := by unfold maxLen; omega
    cases D
    · have HKL := Lib.hid (HKV.out rfl)
      have HRL := Lib.hid (HRV.out rfl)
      clear HKV HRV HKD HRD
      gi_upto_region 10 with (first | (refine ⟨trivial, ?_⟩; gi_at_call 38; refine (CallsIn.inRound l (callsIn_wide.2 (C38.out X))).mono ?_; rintro e w7 ⟨rfl, hb7⟩; have K7 := Lib.hid hb7; have cK := ((show Boxed w7 K 22 v0 from (bk_block hb7 HV.out.lt).trans HV.out)).cell; obtain ⟨x0, x1, x2, x3, x4, x5⟩ := HX6.out.keep hb7; clear hb7) | (gi_at_builtin; refine wpListIn_append_own _ rfl _ _ 22 rfl w.heap.size 54 i0 _ 6 48 Try.underlying22 hi0 hz0 hz1 hz2 rfl (by decide) _ _ _ rfl ((own_below HROW.out K7.out).alloc _) ⟨w7.heap.size, 0, none⟩ 1 1 (cells6 i) rfl rfl (six_new w7 i) (cells6_one i) hml (by omega) (by have h1 := HBL.out.size; have h2 := K7.out.bl.size; simp; omega) ?_; intro v' w8 hown' hgrow _; obtain ⟨g', cap', rfl⟩ := ownsRow_succ hown'; obtain ⟨hv1, hv2, hr2, hk2, hb2⟩ := (show Boxed w7 K 22 v0 from (bk_block K7.out HV.out.lt).trans HV.out).appended (by decide) (own_below HROW.out K7.out) (Nat.le_trans HBL.out.size K7.out.bl.size) (by omega) hown' hgrow; have hc1 := hv1.cell; have hf1 := hv1.frozen; have HG := Lib.hid hgrow; have HV2 := Lib.hid hv2; have HR2 := Lib.hid hr2; have HK2 := Lib.hid hk2; have HB2 := Lib.hid hb2; clear hown' hgrow hv1 hv2 hr2 hk2 hb2 cK))
      have hXw7 := K7.out.bl.size
      have n0 : w.heap.size < X.heap.size := (Array.getElem?_eq_some_iff.1 HC.out).1
      have n1 : w.heap.size + 1 < X.heap.size := (Array.getElem?_eq_some_iff.1 HZ.out).1
      have nL := HSL.out.lt
      have nB := HBX.out.lt
      have nX : Bx < X.heap.size := (Array.getElem?_eq_some_iff.1 HX.out).1
      have e0 : (w8.setCell ⟨K, 0, none⟩ (.slice (some ⟨g', 0, none⟩) (kl.length + 1) cap')).heap[w.heap.size]? = X.heap[w.heap.size]? := (kept_append HG.out (by omega) (not_own HC.out (by decide) HROW.out) (by omega)).trans (bk_block K7.out n0)
      have e1 : (w8.setCell ⟨K, 0, none⟩ (.slice (some ⟨g', 0, none⟩) (kl.length + 1) cap')).heap[w.heap.size + 1]? = X.heap[w.heap.size + 1]? := (kept_append HG.out (by omega) (not_own HZ.out (by decide) HROW.out) (by omega)).trans (bk_block K7.out n1)
      have eL : (w8.setCell ⟨K, 0, none⟩ (.slice (some ⟨g', 0, none⟩) (kl.length + 1) cap')).heap[L]? = X.heap[L]? := (kept_append HG.out (by omega) (not_own HSL.out (by decide) HROW.out) (by omega)).trans (bk_block K7.out nL)
      have eB : (w8.setCell ⟨K, 0, none⟩ (.slice (some ⟨g', 0, none⟩) (kl.length + 1) cap')).heap[Bs]? = X.heap[Bs]? := (kept_append HG.out (by omega) (not_own HBX.out (by decide) HROW.out) (by omega)).trans (bk_block K7.out nB)
      have eX : (w8.setCell ⟨K, 0, none⟩ (.slice (some ⟨g', 0, none⟩) (kl.length + 1) cap')).heap[Bx]? = X.heap[Bx]? := (kept_append HG.out (by omega) (fun e => HNE.out e.symm) (by omega)).trans (bk_block K7.out nX)
      clear hc1 hf1 x0 x1 x2 x3 x4 x5
      generalize w8.setCell ⟨K, 0, none⟩ (.slice (some ⟨g', 0, none⟩) (kl.length + 1) cap') = w9 at HV2 HR2 HK2 HB2 e0 e1 eL eB eX ⊢
      have L9 := Lib.hid (show SH w9 L s from eL.trans HSL.out)
      have X9 := Lib.hid (show X6 w9 Bx i from by
        refine ⟨?_, ?_, ?_, ?_, ?_, ?_⟩ <;> (rw [cell_of_row w9 _ _ _ _ _ (eX.trans HX.out)]; rfl))
      have E0 := Lib.hid (e0.trans HC.out)
      have E1 := Lib.hid (e1.trans HZ.out)
      have EB := Lib.hid (show Boxed w9 Bs 22 _ from eB.trans HBX.out)
      have EBB := Lib.hid eB
      clear e0 e1 eL eB eX
      have C39 := Lib.hid (fun wc => show Calls Try.prog 39 #[.agg (cells6 i).toArray, .agg (bs s).toArray] wc (LvPost wc (bfL i s (usesL i).length)) from before39 i s wc H8.out HREGI.out)
      refine wpIn_region_lit ?_
      refine wpListIn_load_mid rfl 54 _ rfl Bx 0 rfl (cells6 i) _ X9.out.range Try.underlying54 rfl (by kernel_rfl) ?_
      refine wpListIn_load_mid rfl 58 _ rfl L 0 rfl (bs s) _ L9.out.range Try.underlying58 rfl (hi58 s H8.out) ?_
      gi_wp2_with (first | (refine ⟨trivial, ?_⟩; gi_at_call 39; refine (CallsIn.inRound l (callsIn_wide.2 (C39.out w9))).mono ?_; rintro e w10 ⟨rfl, hb10⟩; have K10 := Lib.hid hb10; clear hb10) | (refine wpListIn_store_mid rfl 58 _ _ rfl L 0 (ba (bfL i s (usesL i).length)) rfl rfl (by rw [ba_size, bfL_len, ← H8.out]; exact (L9.out.keep K10.out).there) (by rw [ba_size, bfL_len]; kernel_rfl) (ba_one _) ?_))
      have e9 : w9.heap.size ≤ w10.heap.size := K10.out.bl.size
      have eLs : SH (w10.setCells L 0 (ba (bfL i s (usesL i).length)).toList) L (bfL i s (usesL i).length) := (L9.out.keep K10.out).stored (by rw [bfL_len, H8.out])
      have eo : ∀ b, b < w9.heap.size → b ≠ L → (w10.setCells L 0 (ba (bfL i s (usesL i).length)).toList).heap[b]? = w9.heap[b]? := fun b hb hbL => (World.heap_setCells_other w10 L 0 _ (by omega) hbL).trans (bk_block K10.out hb)
      have s9 : w9.heap.size ≥ X.heap.size := by have h1 := HK2.out.size; omega
      have hoL : ∀ k, (Value.slice (some ⟨g', 0, none⟩) (kl.length + 1) cap').ownBlock = some k → (w10.setCells L 0 (ba (bfL i s (usesL i).length)).toList).heap[k]? = w9.heap[k]? := fun k hk => eo k (HR2.out.lt k hk).2 (fun e => by
        subst e
        exact (not_own L9.out (by decide) HR2.out) hk.symm)
      have hB : Below w.heap.size X (w10.setCells L 0 (ba (bfL i s (usesL i).length)).toList) := below_setCells (by omega) _ _ _ (((K7.out.bl.mono HBL.out.size).trans HB2.out).trans (K10.out.bl.mono (by have := HBL.out.size; omega)))
      refine ⟨(((bk_keeps K7.out _).trans (HK2.out.from _)).trans (bk_keeps K10.out _)).trans (keeps_setCells L _ _ _ _), ⟨hB, (eo Bs (by omega) (by omega)).trans EBB.out⟩, ⟨⟨⟨⟨_, (eo K HV2.out.lt (by omega)).trans HV2.out, ?_, trivial⟩, ?_⟩, ?_, ?_⟩, ?_⟩, (eo Bs (by omega) (by omega)).trans EB.out⟩
      · rw [HKL.out, List.length_append, flat6_app]
        exact own_at (own_cast HR2.out (by simp) (by simp [flat6])) hoL
      · rw [HRL.out, ← HLC.out]; exact eLs
      · exact (eo _ (by omega) (by omega)).trans E0.out
      · exact (eo _ (by omega) (by omega)).trans E1.out
      · exact HBL.out.trans hB
    · have HKL := Lib.hid (HKD.out rfl)
      have HRL := Lib.hid (HRD.out rfl)
      clear HKV HRV HKD HRD
      gi_wp2_with (refine ⟨trivial, ?_⟩; gi_at_call 38; refine (CallsIn.inRound l (callsIn_wide.2 (C38.out X))).mono ?_; rintro e w7 ⟨rfl, hb7⟩; have K7 := Lib.hid hb7; clear hb7)
      have nL := HSL.out.lt
      have n0 : w.heap.size < X.heap.size := (Array.getElem?_eq_some_iff.1 HC.out).1
      have n1 : w.heap.size + 1 < X.heap.size := (Array.getElem?_eq_some_iff.1 HZ.out).1
      refine ⟨bk_keeps K7.out _, ⟨K7.out.bl.mono HBL.out.size, bk_block K7.out HBX.out.lt⟩, ⟨⟨⟨⟨v0, (bk_block K7.out HV.out.lt).trans HV.out, ?_, trivial⟩, ?_⟩, ?_, ?_⟩, ?_⟩, (bk_block K7.out HBX.out.lt).trans HBX.out⟩
      · rw [HKL.out]; exact own_below HROW.out K7.out
      · rw [HRL.out, HS0.out]; exact (bk_block K7.out nL).trans HSL.out
      · exact (bk_block K7.out n0).trans HC.out
      · exact (bk_block K7.out n1).trans HZ.out
      · exact HBL.out.trans (K7.out.bl.mono HBL.out.size)
  case done =>
    rintro D ys X hD hS ⟨hI, hbx⟩ hKd
    obtain ⟨⟨⟨⟨v, hv, hrow, _⟩, hsl⟩, hc, hz⟩, hbl⟩ := hI
    have ekl : klL out ys = (removeL out ins).reverse := by unfold klL; rw [hS]
    rw [ekl] at hrow
    obtain ⟨p', c', rfl⟩ := own_shape hrow
    have hrl : (removeL out ins).reverse.length = (removeL out ins).length := List.length_reverse
    have hR40 := rev40 X w.heap.size p' c' (removeL out ins).reverse hrow hbl.size (by rw [hrl]; have := removeL_len out ins; omega)
    rw [List.reverse_reverse, hrl] at hR40
    rw [hrl] at hrow hv
    have R40 := Lib.hid hR40
    have cK := hv.cell
    have HV := Lib.hid hv
    have HROW := Lib.hid hrow
    have HC := Lib.hid hc
    have HZ := Lib.hid hz
    have HBL := Lib.hid hbl
    have HKD := Lib.hid hKd
    clear hv hrow hc hz hbl hbx hsl hKd ekl hrl hS hR40
    go_wp2_with fail
    refine R40.out.mono ?_
    rintro e X6w ⟨rfl, ho, hg⟩
    have nO : ∀ (b : Nat) (cs : Array Value) (t : TypeId), X.heap[b]? = some (.cells cs t (0, 0)) → t ≠ 54 → X6w.heap[b]? = X.heap[b]? := fun b cs t h hte => hg.block b (Array.getElem?_eq_some_iff.1 h).1 (not_own h hte HROW.out)
    have e0 := (nO _ _ _ HC.out (by decide)).trans HC.out
    have e1 := (nO _ _ _ HZ.out (by decide)).trans HZ.out
    have eK : Boxed X6w K 22 _ := (nO _ _ _ HV.out (by decide)).trans HV.out
    have eD : X6w.heap[D]? = some (.deferred (some [])) := (hg.block D (Array.getElem?_eq_some_iff.1 HKD.out).1 (fun e => by
      rcases HROW.out.2 with ⟨h, _⟩ | ⟨g, cap, cur, h, _, h2, _⟩
      · rw [h] at e; cases e
      · rw [h] at e
        have e : D = g := by simpa [Value.ownBlock] using e
        subst e
        rw [HKD.out] at h2; cases h2)).trans HKD.out
    have B6 := Lib.hid (show B4 X6w w.heap.size (.int .i64 W) (.int .i64 R) (.slice p ins.length pc) (.slice q out.length qc) from ⟨by rw [cell_of_row _ _ _ _ _ _ e0]; rfl, by rw [cell_of_row _ _ _ _ _ _ e0]; rfl, by rw [cell_of_row _ _ _ _ _ _ e0]; rfl, by rw [cell_of_row _ _ _ _ _ _ e0]; rfl⟩)
    have CK6 := Lib.hid eK.cell
    have HZ6 := Lib.hid e1
    have nZ := Lib.hid ((Array.getElem?_eq_some_iff.1 e1).1)
    have HD6 := Lib.hid eD
    have HO6 := Lib.hid ho
    have BL6 := Lib.hid (show BK w X6w from HBL.out.grown hg HBL.out.size (fun k e => (HROW.out.lt k e).1))
    have C41 := Lib.hid (fun (wc : World) (hb : BK X6w wc) => clone41 out q qc wc (HO.out.keep (bk_tr BL6.out hb)) (by omega))
    clear nO e0 e1 eK eD ho hg cK
    go_upto_region 12 with (fail)
    refine region_onlyN ?_
    refine wp_region_held_drew (S := fun w' => B4 w' w.heap.size (.int .i64 W) (.int .i64 R) (.slice p ins.length pc) (.slice q out.length qc) ∧ w'.cell? ⟨K, 0, none⟩ = some (.slice p' (removeL out ins).length c')) (by kernel_rfl) ⟨B6.out, CK6.out⟩ (fun hHeld => ?_)
    have hkI := bk_drew (BK.refl X6w)
    generalize X6w.drew = wI at hHeld hkI ⊢
    refine wpAnyH_take (i := 0) (v := .pointer (some ⟨w.heap.size, 0, none⟩)) rfl (by kernel_rfl) (by kernel_rfl) (by kernel_rfl) (fun _ _ _ h => h) (Or.inl ⟨by kernel_rfl, fun w hSw => by (go_simp)⟩) hHeld ?_
    try simp only [Act.put, List.setIfInBounds_toArray, List.set_cons_zero, List.set_cons_succ]
    refine wpAnyH_take (i := 1) (v := .int .i64 W) rfl (by kernel_rfl) (by kernel_rfl) (by kernel_rfl) (fun _ _ _ h => h) (Or.inl ⟨by kernel_rfl, fun w hSw => by (obtain ⟨⟨q0, q1, q2, q3⟩, q4⟩ := hSw; go_simp)⟩) hHeld ?_
    try simp only [Act.put, List.setIfInBounds_toArray, List.set_cons_zero, List.set_cons_succ]
    refine wpAnyH_take (i := 2) (v := .pointer (some ⟨w.heap.size, 1, none⟩)) rfl (by kernel_rfl) (by kernel_rfl) (by kernel_rfl) (fun _ _ _ h => h) (Or.inl ⟨by kernel_rfl, fun w hSw => by (go_simp)⟩) hHeld ?_
    try simp only [Act.put, List.setIfInBounds_toArray, List.set_cons_zero, List.set_cons_succ]
    refine wpAnyH_take (i := 3) (v := .int .i64 R) rfl (by kernel_rfl) (by kernel_rfl) (by kernel_rfl) (fun _ _ _ h => h) (Or.inl ⟨by kernel_rfl, fun w hSw => by (obtain ⟨⟨q0, q1, q2, q3⟩, q4⟩ := hSw; go_simp)⟩) hHeld ?_
    try simp only [Act.put, List.setIfInBounds_toArray, List.set_cons_zero, List.set_cons_succ]
    refine wpAnyH_take (i := 4) (v := .slice p' (removeL out ins).length c') rfl (by kernel_rfl) (by kernel_rfl) (by kernel_rfl) (fun _ _ _ h => h) (Or.inl ⟨by kernel_rfl, fun w hSw => by (obtain ⟨⟨q0, q1, q2, q3⟩, q4⟩ := hSw; go_simp)⟩) hHeld ?_
    try simp only [Act.put, List.setIfInBounds_toArray, List.set_cons_zero, List.set_cons_succ]
    refine wpAnyH_take (i := 5) (v := .pointer (some ⟨w.heap.size, 3, none⟩)) rfl (by kernel_rfl) (by kernel_rfl) (by kernel_rfl) (fun _ _ _ h => h) (Or.inl ⟨by kernel_rfl, fun w hSw => by (go_simp)⟩) hHeld ?_
    try simp only [Act.put, List.setIfInBounds_toArray, List.set_cons_zero, List.set_cons_succ]
    refine wpAnyH_take (i := 6) (v := .slice q out.length qc) rfl (by kernel_rfl) (by kernel_rfl) (by kernel_rfl) (fun _ _ _ h => h) (Or.inl ⟨by kernel_rfl, fun w hSw => by (obtain ⟨⟨q0, q1, q2, q3⟩, q4⟩ := hSw; go_simp)⟩) hHeld ?_
    try simp only [Act.put, List.setIfInBounds_toArray, List.set_cons_zero, List.set_cons_succ]
    refine wpAnyH_ready (rs := [7]) (by kernel_rfl) (by simp) ?_
    refine AllReadyH.cons (o := _) rfl (fun K9 hK9 => ?_) AllReadyH.nil
    go_simp
    go_at_call 41
    refine (C41.out wI (of_drewI hkI)).mono ?_
    rintro e w7 ⟨v7, rfl, ho7, hb7⟩
    obtain ⟨q', qc', rfl⟩ := own_shape ho7
    have k7 := bk_tr hkI hb7
    have hB7 := hHeld.1.keep hb7
    have hc7 : w7.cell? ⟨K, 0, none⟩ = some (.slice p' (removeL out ins).length c') := (hb7.bl.cell (p := ⟨K, 0, none⟩) (World.block_lt_of_cell? wI _ hHeld.2)).trans hHeld.2
    refine hK9.out _ _ ⟨hB7, hc7⟩ (fun hHeld => ?_)
    clear hK9 K9
    try simp only [Act.put, List.setIfInBounds_toArray, List.set_cons_zero, List.set_cons_succ]
    refine wpAnyH_take (i := 8) (v := .agg #[.int .i64 W, .int .i64 R, .slice p' (removeL out ins).length c', .slice q' out.length qc']) rfl (by kernel_rfl) (by kernel_rfl) (by kernel_rfl) (fun _ _ _ h => h) (Or.inl ⟨by kernel_rfl, fun w hSw => by (go_simp)⟩) hHeld ?_
    try simp only [Act.put, List.setIfInBounds_toArray, List.set_cons_zero, List.set_cons_succ]
    have hz7 := (bk_block k7 nZ.out).trans HZ6.out
    refine wpAnyH_ready (rs := [9]) (by kernel_rfl) (by simp) ?_
    refine AllReadyH.cons (o := _) rfl (fun K9 hK9 => ?_) AllReadyH.nil
    refine wp_store_mid 25 _ _ rfl (w.heap.size + 1) 0 #[.int .i64 W, .int .i64 R, .slice p' (removeL out ins).length c', .slice q' out.length qc'] rfl rfl (there4 hz7) (by kernel_rfl) (by simp [Value.oneCell']) ?_
    refine hK9.out _ _ ⟨hB7.cells _ _ _ (by omega), (World.cell?_setCells_out _ _ _ w7 ⟨K, 0, none⟩ (fun hb _ => absurd hb (by show K ≠ w.heap.size + 1; omega))).trans hc7⟩ (fun hHeld2 => ?_)
    clear hK9 K9
    try simp only [Act.put, List.setIfInBounds_toArray, List.set_cons_zero, List.set_cons_succ]
    refine wpAnyH_ready (rs := [10]) (by kernel_rfl) (by simp) ?_
    refine AllReadyH.cons (o := _) rfl (fun K9 hK9 => ?_) AllReadyH.nil
    go_simp
    refine hK9.out _ _ hHeld2 (fun hHeld3 => ?_)
    clear hK9 K9
    try simp only [Act.put, List.setIfInBounds_toArray, List.set_cons_zero, List.set_cons_succ]
    refine wpAnyH_done (by kernel_rfl) ?_ _
    have eF := World.rangeAt_setCells_same w7 (w.heap.size + 1) 0 [.int .i64 W, .int .i64 R, .slice p' (removeL out ins).length c', .slice q' out.length qc'] (there4 hz7)
    have eD := (World.heap_setCells_other w7 (w.heap.size + 1) 0 [.int .i64 W, .int .i64 R, .slice p' (removeL out ins).length c', .slice q' out.length qc'] (i := D) (by have := (Array.getElem?_eq_some_iff.1 HD6.out).1; have := k7.bl.size; omega) (by omega)).trans ((bk_block k7 (Array.getElem?_eq_some_iff.1 HD6.out).1).trans HD6.out)
    have HB7 := Lib.hid (show BK w (w7.setCells (w.heap.size + 1) 0 [.int .i64 W, .int .i64 R, .slice p' (removeL out ins).length c', .slice q' out.length qc']) from bk_setCells _ (by omega) _ _ _ (bk_tr BL6.out k7))
    have oI := own_below HO6.out k7
    have nD6 := (Array.getElem?_eq_some_iff.1 HD6.out).1
    have kz7 : w.heap.size + 1 < w7.heap.size := (Array.getElem?_eq_some_iff.1 hz7).1
    have oI8 := Lib.hid (own_fin (b := w.heap.size + 1) (D := D) (vs := [.int .i64 W, .int .i64 R, .slice p' (removeL out ins).length c', .slice q' out.length qc']) oI (fun k hk => by
      refine ⟨fun e => ?_, fun e => ?_⟩
      · subst e; exact (not_own hz7 (by decide) oI) hk.symm
      · subst e
        rcases HO6.out.2 with ⟨h, _⟩ | ⟨g, cap, cur, h, _, h2, _⟩
        · rw [h] at hk; cases hk
        · rw [h] at hk
          have e : g = k := by simpa [Value.ownBlock] using hk
          subst e
          rw [HD6.out] at h2; cases h2))
    have oO8 := Lib.hid (own_fin (b := w.heap.size + 1) (D := D) (vs := [.int .i64 W, .int .i64 R, .slice p' (removeL out ins).length c', .slice q' out.length qc']) ho7 (fun k hk => by
      have h1 := (ho7.lt k hk).1
      have h2 := hkI.bl.size
      have h3 := nZ.out
      exact ⟨by omega, by omega⟩))
    have EF := Lib.hid eF
    have ED := Lib.hid eD
    have K7' := Lib.hid k7
    clear eF eD ho7 hb7 k7 hB7 hc7 hz7 hHeld hHeld2 hHeld3 hkI oI
    unfold onlyN
    dsimp only
    have el : (#[Value.int IntKind.i64 W, Value.int IntKind.i64 R, Value.slice p' (removeL out ins).length c', Value.slice q' out.length qc'] : Array Value).toList = [.int .i64 W, .int .i64 R, .slice p' (removeL out ins).length c', .slice q' out.length qc'] := rfl
    try rw [el]
    clear el
    generalize w7.setCells (w.heap.size + 1) 0 [.int .i64 W, .int .i64 R, .slice p' (removeL out ins).length c', .slice q' out.length qc'] = w8 at HB7 EF ED oI8 oO8 ⊢
    go_wp2_with fail
    refine ⟨by simp, .inl ⟨_, _, rfl, run_takeDeferred ED.out, ?_⟩⟩
    have hr8 : ∀ j u, [Value.int IntKind.i64 W, Value.int IntKind.i64 R, Value.slice p' (removeL out ins).length c', Value.slice q' out.length qc'][j]? = some u → (w8.putObj D (.deferred none)).cell? ⟨w.heap.size + 1, j, none⟩ = some u := fun j u hu => by
      have h := EF.out j u hu
      rw [Nat.zero_add] at h
      have e1 : (w8.putObj D (.deferred none)).heap[w.heap.size + 1]? = w8.heap[w.heap.size + 1]? := World.putObj_heap_other (by omega)
      exact (World.cell?_of_block (a := ⟨w.heap.size + 1, j, none⟩) e1).trans h
    have r0 := hr8 0 _ rfl
    have r1 := hr8 1 _ rfl
    have r2 := hr8 2 _ rfl
    have r3 := hr8 3 _ rfl
    have hBF : BK w (w8.putObj D (.deferred none)) := HB7.out.grown (grownBy_putObj' w8 D (.deferred none)) HB7.out.bl.size (fun k e => by cases e; omega)
    exact ⟨.tuple #[.agg #[.int .i64 W, .int .i64 R, .slice p' (removeL out ins).length c', .slice q' out.length qc'], .int .i64 0], by simp [results, Try.results19, go_sem, r0, r1, r2, r3], p', c', q', qc', rfl, RI.own oI8.out, RO.own oO8.out, hBF⟩
  case stop =>
    rintro D c pre X _ _ h _
    exact h.elim
end Go.Proofs.Ytjmmaaphadeokaa
