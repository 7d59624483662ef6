/- Few, and the law of the comparisons, walked. -/
import Derived.Test.YtclefcjojlkcnaaDoorN
import Derived.Test.YtclefcjojlkcnaaDoorH
import Derived.Deep.DeepCutAuto
namespace Go.Proofs.YtclefcjojlkcnaaDoor
open Go.RowKit
theorem wp_region_class {P : Program} {C : World → Prop} {id : Nat} {Q : Exit → Act → World → Prop} {a : Act} {w : World} {l : List Oper} (hm : P.follows .mixedOrders = true) (hB : Region.lexB .any l.toArray = true) (hC : C w.drew)
    (h : wpQuiet P l.toArray C (fun a' => ∀ w', C w' → Q .normal a' w') l a) : (Code.region id l.toArray true).wp P Q a w :=
  wp_region_quiet hm hB hC (by simpa using h)
set_option linter.unusedVariables false
set_option linter.unusedSimpArgs false
def fewB (n : Nat) (nm : ByteArray) : Bool := decide ((n : Int) ≤ 200) && decide (wrap64 ((nm.size : Int) / 100) ≤ 200)
theorem few_len {n : Nat} {nm : ByteArray} (h : fewB n nm = true) : n ≤ 1000 := by
  unfold fewB at h
  have := (Bool.and_eq_true _ _ ▸ h).1
  have := of_decide_eq_true this
  omega
set_option maxHeartbeats 400000 in
theorem few11 (op wd vl : Int) (nm : ByteArray) (p : Option Addr) (n c : Nat) (w : World) : Calls Tryd.prog 11 #[.agg #[.int .i64 op, .int .i64 wd, .int .u64 vl, .string nm, .slice p n c], .int .i64 200] w fun e w' => e = .returned (.bool (fewB n nm)) ∧ BK w w' := by
  have hx := b5_new w (.int .i64 op) (.int .i64 wd) (.int .u64 vl) (.string nm) (.slice p n c) 26
  have hk0 := bk_alloc (BK.refl w) (.cells #[.int .i64 op, .int .i64 wd, .int .u64 vl, .string nm, .slice p n c] 26)
  obtain ⟨x0, x1, x2, x3, x4⟩ := hx
  go_enter Tryd.func11, Tryd.ntmps11
  go_wp2_with fail
  all_goals go_ret
  · exact ⟨ret_bool (by unfold fewB; rw [decide_eq_true ‹(n : Int) ≤ 200›]; simp), hk0⟩
  · exact ⟨ret_bool (by unfold fewB; rw [decide_eq_false (show ¬ (n : Int) ≤ 200 by have h9 := ‹(200 : Int) < (n : Int)›; omega)]; simp), hk0⟩
set_option maxRecDepth 100000 in
set_option maxHeartbeats 1000000 in
theorem compares_law (op wd vl op' wd' vl' : Int) (nm nm' : ByteArray) (p q : Option Addr) (c d : Nat) (zs ys : List Int) (w : World) (h : Ra w p zs) (h' : Ra w q ys) (ht : Tb w) :
    Calls Tryd.prog 3 #[.agg #[.int .i64 op, .int .i64 wd, .int .u64 vl, .string nm, .slice p zs.length c], .agg #[.int .i64 op', .int .i64 wd', .int .u64 vl', .string nm', .slice q ys.length d]] w fun e w' => e = .returned (.bool true) ∧ BK w w' := by
  have hk0 : BK w ((w.alloc (.cells #[.int .i64 op, .int .i64 wd, .int .u64 vl, .string nm, .slice p zs.length c] 26)).alloc (.cells #[.int .i64 op', .int .i64 wd', .int .u64 vl', .string nm', .slice q ys.length d] 26)) := bk_alloc (bk_alloc (BK.refl w) _) _
  have hx := (b5_new w (.int .i64 op) (.int .i64 wd) (.int .u64 vl) (.string nm) (.slice p zs.length c) 26).keep (bk_alloc (BK.refl _) (.cells #[.int .i64 op', .int .i64 wd', .int .u64 vl', .string nm', .slice q ys.length d] 26)) (by simp)
  have hy5 := b5_new (w.alloc (.cells #[.int .i64 op, .int .i64 wd, .int .u64 vl, .string nm, .slice p zs.length c] 26)) (.int .i64 op') (.int .i64 wd') (.int .u64 vl') (.string nm') (.slice q ys.length d) 26
  have hsz : ((w.alloc (.cells #[.int .i64 op, .int .i64 wd, .int .u64 vl, .string nm, .slice p zs.length c] 26)).alloc (.cells #[.int .i64 op', .int .i64 wd', .int .u64 vl', .string nm', .slice q ys.length d] 26)).heap.size = w.heap.size + 2 := by simp
  have hra := h.keep hk0
  have hrb := h'.keep hk0
  rw [show (w.alloc (.cells #[.int .i64 op, .int .i64 wd, .int .u64 vl, .string nm, .slice p zs.length c] 26)).heap.size = w.heap.size + 1 by simp] at hy5
  clear h h'
  have HT := Lib.hid (ht.keep hk0)
  clear ht
  go_enter Tryd.func3, Tryd.ntmps3
  go_wp2_with fail
  generalize (w.alloc (.cells #[.int .i64 op, .int .i64 wd, .int .u64 vl, .string nm, .slice p zs.length c] 26)).alloc (.cells #[.int .i64 op', .int .i64 wd', .int .u64 vl', .string nm', .slice q ys.length d] 26) = w0 at hk0 hx hy5 hsz hra hrb HT ⊢
  have KC := Lib.hid (fun wc (hb : BK w0 wc) => And.intro (hx.keep hb (by omega)) (hy5.keep hb (by omega)))
  have RA := Lib.hid hra
  have RB := Lib.hid hrb
  have HK0 := Lib.hid hk0
  have k0 := BK.refl w0
  clear hk0 hsz hra hrb
  obtain ⟨x0, x1, x2, x3, x4⟩ := hx
  obtain ⟨y0, y1, y2, y3, y4⟩ := hy5
  have K0 := Lib.hid k0
  clear k0
  refine (few11 op wd vl nm p _ c w0).mono ?_
  rintro e w1 ⟨rfl, hb⟩
  have K1 := Lib.hid (bk_tr K0.out hb)
  clear x0 x1 x2 x3 x4 y0 y1 y2 y3 y4 hb
  obtain ⟨⟨x0, x1, x2, x3, x4⟩, y0, y1, y2, y3, y4⟩ := KC.out _ K1.out
  cases f1 : fewB zs.length nm with
  | false =>
    have F1 := Lib.hid f1
    clear f1
    go_wp2_with fail
    refine (live_any _ (HT.out.keep K1.out)).mono ?_
    rintro e w9 ⟨rfl, hb9⟩
    have H9 := Lib.hid (bk_tr K1.out hb9)
    clear hb9
    go_wp2_with fail
    go_ret
    exact ⟨rfl, bk_tr HK0.out H9.out⟩
  | true =>
    have F1 := Lib.hid (few_len f1)
    clear f1
    go_wp2_with fail
    refine (few11 op' wd' vl' nm' q _ d w1).mono ?_
    rintro e w2 ⟨rfl, hb⟩
    have K2 := Lib.hid (bk_tr K1.out hb)
    clear x0 x1 x2 x3 x4 y0 y1 y2 y3 y4 hb
    obtain ⟨⟨x0, x1, x2, x3, x4⟩, y0, y1, y2, y3, y4⟩ := KC.out _ K2.out
    cases f2 : fewB ys.length nm' with
    | false =>
      have F2 := Lib.hid f2
      clear f2
      go_wp2_with fail
      refine (live_any _ (HT.out.keep K2.out)).mono ?_
      rintro e w9 ⟨rfl, hb9⟩
      have H9 := Lib.hid (bk_tr K2.out hb9)
      clear hb9
      go_wp2_with fail
      go_ret
      exact ⟨rfl, bk_tr HK0.out H9.out⟩
    | true =>
      have F2 := Lib.hid (few_len f2)
      clear f2
      go_wp2_with fail
      have hk2 := K2.out
      have ra2 := RA.out.keep hk2
      have rb2 := RB.out.keep hk2
      have C13 := Lib.hid (fun w5 (h5 : BK w2 w5) => (cmp13 op wd vl op' wd' vl' nm nm' p q c d zs ys w5 F1.out F2.out (ra2.keep h5) (rb2.keep h5)).mono (fun e w6 h6 => And.intro h6.1 (bk_tr h5 h6.2)))
      have C14 := Lib.hid (fun w5 (h5 : BK w2 w5) => (cmp14 op wd vl op' wd' vl' nm nm' p q c d zs ys w5 F1.out F2.out (ra2.keep h5) (rb2.keep h5)).mono (fun e w6 h6 => And.intro h6.1 (bk_tr h5 h6.2)))
      have C15 := Lib.hid (fun w5 (h5 : BK w2 w5) => (same15 op wd vl op' wd' vl' nm nm' p q c d zs ys w5 F1.out F2.out (ra2.keep h5) (rb2.keep h5)).mono (fun e w6 h6 => And.intro h6.1 (bk_tr h5 h6.2)))
      have C16 := Lib.hid (fun w5 (h5 : BK w2 w5) => (same16 op wd vl op' wd' vl' nm nm' p q c d zs ys w5 F1.out F2.out (ra2.keep h5) (rb2.keep h5)).mono (fun e w6 h6 => And.intro h6.1 (bk_tr h5 h6.2)))
      have C12 := Lib.hid (fun w5 (h5 : BK w2 w5) => (live_any w5 ((HT.out.keep hk2).keep h5)).mono (fun e w6 h6 => And.intro h6.1 (bk_tr h5 h6.2)))
      have KD := Lib.hid (fun w5 (h5 : BK w2 w5) => KC.out w5 (bk_tr hk2 h5))
      generalize cmpN op wd vl op' wd' vl' nm nm' zs ys = r at C13 C14 C15 C16
      generalize (r == 0) = rb at C15 C16
      clear x0 x1 x2 x3 x4 y0 y1 y2 y3 y4 hk2 ra2 rb2
      refine wp_region_class (C := fun w' => BK w2 w') (by kernel_rfl) (by kernel_rfl) (bk_drew (BK.refl _)) ?_
      repeat (first
          | go_big_quiet_step (fail)
          | (refine wpQuiet_step (fun K hK => ?_)
             go_simp
             first
               | (refine hK _ ?_; clear hK K)
               | (refine ⟨_, fun _ _ => rfl, hK _ ?_⟩; clear hK K)
               | (apply Exists.intro; refine ⟨fun w5 hw5 => ?_, hK _ ?_⟩; (go_at_call 12; with_reducible exact C12.out _ hw5); clear hK K)
               | (apply Exists.intro; refine ⟨fun w5 hw5 => ?_, hK _ ?_⟩; (go_at_call 16; with_reducible exact C16.out _ hw5); clear hK K)
               | (apply Exists.intro; refine ⟨fun w5 hw5 => ?_, hK _ ?_⟩; (go_at_call 15; with_reducible exact C15.out _ hw5); clear hK K)
               | (apply Exists.intro; refine ⟨fun w5 hw5 => ?_, hK _ ?_⟩; (go_at_call 14; with_reducible exact C14.out _ hw5); clear hK K)
               | (apply Exists.intro; refine ⟨fun w5 hw5 => ?_, hK _ ?_⟩; (go_at_call 13; with_reducible exact C13.out _ hw5); clear hK K)
               | (apply Exists.intro; refine ⟨fun w5 hw5 => ?_, hK _ ?_⟩; (obtain ⟨⟨q0, q1, q2, q3, q4⟩, ⟨p0, p1, p2, p3, p4⟩⟩ := KD.out _ hw5; go_simp; rfl); clear hK K)))
      refine wpQuiet_nil ?_
      intro w5 hw5
      have H5 := Lib.hid (bk_tr HK0.out (bk_tr K2.out hw5))
      clear hw5
      go_wp2_with fail
      go_ret
      exact ⟨rfl, H5.out⟩
end Go.Proofs.YtclefcjojlkcnaaDoor
