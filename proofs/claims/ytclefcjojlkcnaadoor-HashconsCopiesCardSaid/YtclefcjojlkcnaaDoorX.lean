/- The law of the copies, walked. -/
import Derived.Test.YtclefcjojlkcnaaDoorT
import Derived.Test.YtclefcjojlkcnaaDoorP
import Derived.Test.YtclefcjojlkcnaaDoorW
namespace Go.Proofs.YtclefcjojlkcnaaDoor
open Go.RowKit
set_option linter.unusedVariables false
set_option linter.unusedSimpArgs false
theorem own_keep {w w' : World} {B n : Nat} {v : Value} {xs : List Value} (o : w.ownsRow B 3 1 v n xs) (hb : BK w w') : w'.ownsRow B 3 1 v n xs := own_below o hb
/-- a number of an owned row, and that it may be written -/
theorem own_num {w : World} {B c : Nat} {p : Option Addr} {zs : List Int} (o : w.ownsRow B 3 1 (.slice p zs.length c) zs.length (ints zs)) {k : Nat} (hk : k < zs.length) : ∃ g, p = some ⟨g, 0, none⟩ ∧ B ≤ g ∧ g < w.heap.size ∧ w.cell? ⟨g, k, none⟩ = some (.int .i64 (zs.getD k 0)) ∧ w.frozen? ⟨g, k, none⟩ = false := by
  obtain ⟨g, cap, h1, h2⟩ := World.ownsRow.form o (by omega)
  simp at h1
  obtain ⟨rfl, rfl⟩ := h1
  have hx : (ints zs)[k]? = some (.int .i64 (zs.getD k 0)) := by simp [ints, List.getD_eq_getElem?_getD, hk]
  have hc := World.ownsRow.cells o (g := g) rfl k _ hx
  rw [show (⟨g, 0, none⟩ : Addr).add k = ⟨g, 0 + k, none⟩ from Go.WideShapes.add_plain _ _ _, Nat.zero_add] at hc
  exact ⟨g, rfl, (o.lt g rfl).1, (o.lt g rfl).2, hc, World.ownsRow.frozenAt o k⟩
set_option maxRecDepth 100000 in
set_option maxHeartbeats 2000000 in
theorem copies_law (op wd vl : Int) (nm : ByteArray) (p : Option Addr) (c : Nat) (zs : List Int) (at_ : Int) (w : World) (h : Ra w p zs) (hn : p = none → c = 0) (ht : Tb w) :
    Calls Tryd.prog 7 #[.agg #[.int .i64 op, .int .i64 wd, .int .u64 vl, .string nm, .slice p zs.length c], .int .i64 at_] w fun e w' => e = .returned (.bool true) ∧ BK w w' := by
  have hk0 : BK w (w.alloc (.cells #[.int .i64 op, .int .i64 wd, .int .u64 vl, .string nm, .slice p zs.length c] 26)) := bk_alloc (BK.refl w) _
  have hx := b5_new w (.int .i64 op) (.int .i64 wd) (.int .u64 vl) (.string nm) (.slice p zs.length c) 26
  have hlt := box_lt w #[.int .i64 op, .int .i64 wd, .int .u64 vl, .string nm, .slice p zs.length c] 26
  have hr := h.keep hk0
  have HT := Lib.hid (ht.keep hk0)
  clear h ht
  go_enter Tryd.func7, Tryd.ntmps7
  go_wp2_with fail
  generalize w.alloc (.cells #[.int .i64 op, .int .i64 wd, .int .u64 vl, .string nm, .slice p zs.length c] 26) = w0 at hk0 hx hlt hr HT ⊢
  have HX := Lib.hid (fun wc (hb : BK w0 wc) => hx.keep hb hlt)
  have RA := Lib.hid (fun wc (hb : BK w0 wc) => hr.keep hb)
  have HK0 := Lib.hid hk0
  have Hlt := Lib.hid hlt
  obtain ⟨x0, x1, x2, x3, x4⟩ := hx
  clear hk0 hr hlt
  refine (few11 op wd vl nm p _ c _).mono ?_
  rintro e w1 ⟨rfl, hb⟩
  have K1 := Lib.hid hb
  clear hb x0 x1 x2 x3 x4
  cases f : fewB zs.length nm with
  | false =>
    have F := Lib.hid f
    clear f
    go_wp2_with fail
    refine (live_any _ (HT.out.keep K1.out)).mono ?_
    rintro e w9 ⟨rfl, hb9⟩
    have H9 := Lib.hid (bk_tr K1.out hb9)
    clear hb9
    go_wp2_with fail
    go_ret
    exact ⟨rfl, bk_tr HK0.out H9.out⟩
  | true =>
    have F := Lib.hid (few_len f)
    clear f
    obtain ⟨x0, x1, x2, x3, x4⟩ := HX.out _ K1.out
    go_wp2_with fail
    refine (refcopy_any op wd vl nm p c zs w1 (RA.out _ K1.out) F.out hn).mono ?_
    rintro e w2 ⟨po, co, rfl, ho, hb⟩
    have K2 := Lib.hid (bk_tr K1.out hb)
    have HO := Lib.hid ho
    clear ho hb x0 x1 x2 x3 x4
    obtain ⟨x0, x1, x2, x3, x4⟩ := HX.out _ (bk_alloc K2.out (.cells #[.int .i64 op, .int .i64 wd, .int .u64 vl, .string nm, .slice po zs.length co] 26))
    go_wp2_with fail
    clear x0 x1 x2 x3 x4
    have kk : BK w0 (w2.alloc (.cells #[.int .i64 op, .int .i64 wd, .int .u64 vl, .string nm, .slice po zs.length co] 26)) := bk_alloc K2.out _
    have hob := b5_new w2 (.int .i64 op) (.int .i64 wd) (.int .u64 vl) (.string nm) (.slice po zs.length co) 26
    have hlo := box_lt w2 #[.int .i64 op, .int .i64 wd, .int .u64 vl, .string nm, .slice po zs.length co] 26
    have hro := (Ra.own HO.out).keep (bk_alloc (BK.refl w2) (.cells #[.int .i64 op, .int .i64 wd, .int .u64 vl, .string nm, .slice po zs.length co] 26))
    generalize w2.alloc (.cells #[.int .i64 op, .int .i64 wd, .int .u64 vl, .string nm, .slice po zs.length co] 26) = w3 at kk hob hlo hro ⊢
    have K3 := Lib.hid kk
    have OB := Lib.hid (fun wc (hb : BK w3 wc) => hob.keep hb hlo)
    have RO := Lib.hid (fun wc (hb : BK w3 wc) => hro.keep hb)
    have HLo := Lib.hid hlo
    have K33 := Lib.hid (BK.refl w3)
    clear kk hob hro hlo
    refine (copy_any op wd vl nm p c zs w3 (RA.out _ K3.out) F.out).mono ?_
    rintro e w4 ⟨px, cx, rfl, hox, hb⟩
    have K4 := Lib.hid hb
    have OX := Lib.hid hox
    clear hox hb
    obtain ⟨x0, x1, x2, x3, x4⟩ := HX.out _ (bk_tr K3.out (bk_alloc K4.out (.cells #[.int .i64 op, .int .i64 wd, .int .u64 vl, .string nm, .slice px zs.length cx] 26)))
    go_wp2_with fail
    clear x0 x1 x2 x3 x4
    have kk : BK w3 (w4.alloc (.cells #[.int .i64 op, .int .i64 wd, .int .u64 vl, .string nm, .slice px zs.length cx] 26)) := bk_alloc K4.out _
    have hxb := b5_new w4 (.int .i64 op) (.int .i64 wd) (.int .u64 vl) (.string nm) (.slice px zs.length cx) 26
    have hlx := box_lt w4 #[.int .i64 op, .int .i64 wd, .int .u64 vl, .string nm, .slice px zs.length cx] 26
    have hox := own_keep OX.out (bk_alloc (BK.refl w4) (.cells #[.int .i64 op, .int .i64 wd, .int .u64 vl, .string nm, .slice px zs.length cx] 26))
    generalize w4.alloc (.cells #[.int .i64 op, .int .i64 wd, .int .u64 vl, .string nm, .slice px zs.length cx] 26) = w5 at kk hxb hlx hox ⊢
    have K5 := Lib.hid kk
    have XB := Lib.hid (fun wc (hb : BK w5 wc) => hxb.keep hb hlx)
    have OX5 := Lib.hid (fun wc (hb : BK w5 wc) => own_keep hox hb)
    have HLx := Lib.hid hlx
    have K55 := Lib.hid (BK.refl w5)
    clear kk hxb hox hlx
    refine (canon_nil op wd vl nm p c zs w5 (RA.out _ (bk_tr K3.out K5.out)) F.out).mono ?_
    rintro e w6 ⟨py, cy, rfl, hoy, hb⟩
    rw [List.take_length] at hoy
    have K6 := Lib.hid hb
    have OY := Lib.hid hoy
    clear hoy hb
    obtain ⟨y0, y1, y2, y3, y4⟩ := XB.out _ (bk_alloc K6.out (.cells #[.int .i64 op, .int .i64 wd, .int .u64 vl, .string nm, .slice py zs.length cy] 26))
    obtain ⟨z0, z1, z2, z3, z4⟩ := OB.out _ (bk_tr K5.out (bk_alloc K6.out (.cells #[.int .i64 op, .int .i64 wd, .int .u64 vl, .string nm, .slice py zs.length cy] 26)))
    go_wp2_with fail
    clear y0 y1 y2 y3 y4 z0 z1 z2 z3 z4
    have kk : BK w5 (w6.alloc (.cells #[.int .i64 op, .int .i64 wd, .int .u64 vl, .string nm, .slice py zs.length cy] 26)) := bk_alloc K6.out _
    have hyb := b5_new w6 (.int .i64 op) (.int .i64 wd) (.int .u64 vl) (.string nm) (.slice py zs.length cy) 26
    have hly := box_lt w6 #[.int .i64 op, .int .i64 wd, .int .u64 vl, .string nm, .slice py zs.length cy] 26
    have hoy := own_keep OY.out (bk_alloc (BK.refl w6) (.cells #[.int .i64 op, .int .i64 wd, .int .u64 vl, .string nm, .slice py zs.length cy] 26))
    generalize w6.alloc (.cells #[.int .i64 op, .int .i64 wd, .int .u64 vl, .string nm, .slice py zs.length cy] 26) = w7 at kk hyb hly hoy ⊢
    have K7 := Lib.hid kk
    have YB := Lib.hid (fun wc (hb : BK w7 wc) => hyb.keep hb hly)
    have OY7 := Lib.hid (fun wc (hb : BK w7 wc) => own_keep hoy hb)
    have HLy := Lib.hid hly
    clear kk hyb hoy hly
    refine (same16 op wd vl op wd vl nm nm px po cx co zs zs w7 F.out F.out (Ra.own (OX5.out _ K7.out)) (RO.out _ (bk_tr K5.out K7.out))).mono ?_
    rintro e w8 ⟨rfl, hb⟩
    rw [self_N]
    have K8 := Lib.hid hb
    clear hb
    obtain ⟨y0, y1, y2, y3, y4⟩ := YB.out _ K8.out
    obtain ⟨z0, z1, z2, z3, z4⟩ := OB.out _ (bk_tr K5.out (bk_tr K7.out K8.out))
    go_wp2_with fail
    clear y0 y1 y2 y3 y4 z0 z1 z2 z3 z4
    refine (same16 op wd vl op wd vl nm nm py po cy co zs zs w8 F.out F.out (Ra.own (OY7.out _ K8.out)) (RO.out _ (bk_tr K5.out (bk_tr K7.out K8.out)))).mono ?_
    rintro e w9 ⟨rfl, hb⟩
    rw [self_N]
    have K9 := Lib.hid (bk_tr K8.out hb)
    clear hb
    obtain ⟨-, -, -, -, z4⟩ := OB.out _ (bk_tr K5.out (bk_tr K7.out K9.out))
    by_cases hat : 0 ≤ at_ ∧ at_ < zs.length
    · obtain ⟨k, rfl⟩ : ∃ k : Nat, at_ = k := ⟨at_.toNat, by omega⟩
      have hkl : k < zs.length := by omega
      obtain ⟨gx, rfl, gx1, gx2, cx1, fx1⟩ := own_num (OX5.out _ (bk_tr K7.out K9.out)) hkl
      obtain ⟨gy, rfl, gy1, gy2, cy1, fy1⟩ := own_num (OY7.out _ K9.out) hkl
      obtain ⟨-, -, -, -, y4⟩ := YB.out _ K9.out
      obtain ⟨-, -, -, -, s4⟩ := XB.out _ (bk_tr K7.out K9.out)
      have l1 := (OX.out.lt gx rfl).2
      have l2 := (OY.out.lt gy rfl).1
      have l3 := bk_size K6.out
      have l4 := HLx.out
      have ne1 : gx ≠ w6.heap.size := by omega
      have ne2 : gy ≠ gx := by omega
      have ne3 : gx ≠ gy := by omega
      have ne4 : w6.heap.size ≠ gx := by omega
      have l5 := bk_size K5.out
      have l6 := bk_size K7.out
      have l7 : w3.heap.size ≤ gx := by have := (OX.out.lt gx rfl).1; omega
      have l8 : w3.heap.size ≤ gy := by omega
      have l9 := Hlt.out
      have l10 := bk_size K3.out
      have l11 := HLo.out
      obtain ⟨x0, x1, x2, x3, x4⟩ := HX.out _ (bk_tr K3.out (bk_tr K5.out (bk_tr K7.out K9.out)))
      obtain ⟨z0, z1, z2, z3, z5⟩ := OB.out _ (bk_tr K5.out (bk_tr K7.out K9.out))
      have n1 : w.heap.size ≠ gx := by omega
      have n2 : w.heap.size ≠ gy := by omega
      have n3 : gx ≠ w.heap.size := by omega
      have n4 : gy ≠ w.heap.size := by omega
      have n5 : w2.heap.size ≠ gx := by omega
      have n6 : w2.heap.size ≠ gy := by omega
      have n7 : gx ≠ w2.heap.size := by omega
      have n8 : gy ≠ w2.heap.size := by omega
      have K39 := Lib.hid (bk_tr K5.out (bk_tr K7.out K9.out))
      clear l1 l2 l3 l4 gx1 gx2 gy1 gy2 l9 l10 l11
      generalize zs.getD k 0 = v at cx1 cy1
      go_wp2_with fail
      clear x0 x1 x2 x3 x4 z0 z1 z2 z3 z4 z5 y4 s4 cx1 cy1 fx1 fy1 n1 n2 n3 n4 n5 n6 n7 n8 ne1 ne2 ne3 ne4
      refine (same16 op wd vl op wd vl nm nm p po c co zs zs _ F.out F.out (RA.out _ (bk_tr K3.out (bk_set (bk_set K39.out _ _ l7) _ _ l8))) (RO.out _ (bk_set (bk_set K39.out _ _ l7) _ _ l8))).mono ?_
      rintro e w10 ⟨rfl, hb⟩
      rw [self_N]
      have K10 := Lib.hid (bk_tr K3.out (bk_tr (bk_set (bk_set K39.out _ _ l7) _ _ l8) hb))
      clear hb
      go_wp2_with fail
      refine (live_any _ (HT.out.keep K10.out)).mono ?_
      rintro e w11 ⟨rfl, hb9⟩
      have H9 := Lib.hid (bk_tr K10.out hb9)
      clear hb9
      go_wp2_with fail
      go_ret
      exact ⟨rfl, bk_tr HK0.out H9.out⟩
    · obtain ⟨x0, x1, x2, x3, x4⟩ := HX.out _ (bk_tr K3.out (bk_tr K5.out (bk_tr K7.out K9.out)))
      obtain ⟨z0, z1, z2, z3, z5⟩ := OB.out _ (bk_tr K5.out (bk_tr K7.out K9.out))
      by_cases h0 : 0 ≤ at_
      · have h1 : ¬ at_ < zs.length := fun h => hat ⟨h0, h⟩
        clear hat
        go_wp2_with fail
        clear x0 x1 x2 x3 x4 z0 z1 z2 z3 z4 z5
        refine (same16 op wd vl op wd vl nm nm p po c co zs zs w9 F.out F.out (RA.out _ (bk_tr K3.out (bk_tr K5.out (bk_tr K7.out K9.out)))) (RO.out _ (bk_tr K5.out (bk_tr K7.out K9.out)))).mono ?_
        rintro e w10 ⟨rfl, hb⟩
        rw [self_N]
        have K10 := Lib.hid (bk_tr K3.out (bk_tr K5.out (bk_tr K7.out (bk_tr K9.out hb))))
        clear hb
        go_wp2_with fail
        refine (live_any _ (HT.out.keep K10.out)).mono ?_
        rintro e w11 ⟨rfl, hb9⟩
        have H9 := Lib.hid (bk_tr K10.out hb9)
        clear hb9
        go_wp2_with fail
        go_ret
        exact ⟨rfl, bk_tr HK0.out H9.out⟩
      · clear hat
        go_wp2_with fail
        clear x0 x1 x2 x3 x4 z0 z1 z2 z3 z4 z5
        refine (same16 op wd vl op wd vl nm nm p po c co zs zs w9 F.out F.out (RA.out _ (bk_tr K3.out (bk_tr K5.out (bk_tr K7.out K9.out)))) (RO.out _ (bk_tr K5.out (bk_tr K7.out K9.out)))).mono ?_
        rintro e w10 ⟨rfl, hb⟩
        rw [self_N]
        have K10 := Lib.hid (bk_tr K3.out (bk_tr K5.out (bk_tr K7.out (bk_tr K9.out hb))))
        clear hb
        go_wp2_with fail
        refine (live_any _ (HT.out.keep K10.out)).mono ?_
        rintro e w11 ⟨rfl, hb9⟩
        have H9 := Lib.hid (bk_tr K10.out hb9)
        clear hb9
        go_wp2_with fail
        go_ret
        exact ⟨rfl, bk_tr HK0.out H9.out⟩
end Go.Proofs.YtclefcjojlkcnaaDoor
