/- The law of the order, walked. -/
import Derived.Test.YtclefcjojlkcnaaDoorQ
import Derived.Test.YtclefcjojlkcnaaDoorP
namespace Go.Proofs.YtclefcjojlkcnaaDoor
open Go.RowKit
set_option linter.unusedVariables false
set_option linter.unusedSimpArgs false
theorem ord_cases {x y z m : Int} {r : Bool} (hx : -1 ≤ x ∧ x ≤ 1) (hy : -1 ≤ y ∧ y ≤ 1) (hz : -1 ≤ z ∧ z ≤ 1) (hm : m = -x) (hr : r = (x == 0)) (h : Tri x y z) :
    (x = 1 ∧ m = -1 ∧ r = false) ∨ (x = 0 ∧ m = 0 ∧ r = true ∧ y = 1) ∨ (x = -1 ∧ m = 1 ∧ r = false ∧ y = 1) ∨ (x = 0 ∧ m = 0 ∧ r = true ∧ y = 0 ∧ z = 0) ∨ (x = 0 ∧ m = 0 ∧ r = true ∧ y = -1 ∧ z = -1) ∨ (x = -1 ∧ m = 1 ∧ r = false ∧ y = 0 ∧ z = -1) ∨ (x = -1 ∧ m = 1 ∧ r = false ∧ y = -1 ∧ z = -1) := by
  unfold Tri at h
  have hx' : x = 1 ∨ x = 0 ∨ x = -1 := by omega
  rcases hx' with rfl | rfl | rfl
  · exact .inl ⟨rfl, hm, by simpa using hr⟩
  · have hm : m = 0 := by omega
    have hr : r = true := by simpa using hr
    have hy' : y = 1 ∨ y = 0 ∨ y = -1 := by omega
    rcases hy' with rfl | rfl | rfl
    · exact .inr (.inl ⟨rfl, hm, hr, rfl⟩)
    · exact .inr (.inr (.inr (.inl ⟨rfl, hm, hr, rfl, by omega⟩)))
    · exact .inr (.inr (.inr (.inr (.inl ⟨rfl, hm, hr, rfl, by omega⟩))))
  · have hm : m = 1 := by omega
    have hr : r = false := by simpa using hr
    have hy' : y = 1 ∨ y = 0 ∨ y = -1 := by omega
    rcases hy' with rfl | rfl | rfl
    · exact .inr (.inr (.inl ⟨rfl, hm, hr, rfl⟩))
    · exact .inr (.inr (.inr (.inr (.inr (.inl ⟨rfl, hm, hr, rfl, by omega⟩)))))
    · exact .inr (.inr (.inr (.inr (.inr (.inr ⟨rfl, hm, hr, rfl, by omega⟩)))))
set_option maxRecDepth 100000 in
set_option maxHeartbeats 2000000 in
theorem orders_law (opa wda vla : Int) (nma : ByteArray) (pa : Option Addr) (ca : Nat) (zsa : List Int) (opb wdb vlb : Int) (nmb : ByteArray) (pb : Option Addr) (cb : Nat) (zsb : List Int) (opc wdc vlc : Int) (nmc : ByteArray) (pc : Option Addr) (cc : Nat) (zsc : List Int) (w : World) (ha : Ra w pa zsa) (hb : Ra w pb zsb) (hc : Ra w pc zsc) (ht : Tb w) :
    Calls Tryd.prog 4 #[.agg #[.int .i64 opa, .int .i64 wda, .int .u64 vla, .string nma, .slice pa zsa.length ca], .agg #[.int .i64 opb, .int .i64 wdb, .int .u64 vlb, .string nmb, .slice pb zsb.length cb], .agg #[.int .i64 opc, .int .i64 wdc, .int .u64 vlc, .string nmc, .slice pc zsc.length cc]] w fun e w' => e = .returned (.bool true) ∧ BK w w' := by
  have hk0 : BK w (((w.alloc (.cells #[.int .i64 opa, .int .i64 wda, .int .u64 vla, .string nma, .slice pa zsa.length ca] 26)).alloc (.cells #[.int .i64 opb, .int .i64 wdb, .int .u64 vlb, .string nmb, .slice pb zsb.length cb] 26)).alloc (.cells #[.int .i64 opc, .int .i64 wdc, .int .u64 vlc, .string nmc, .slice pc zsc.length cc] 26)) := bk_alloc (bk_alloc (bk_alloc (BK.refl w) _) _) _
  have hxa := (b5_new w (.int .i64 opa) (.int .i64 wda) (.int .u64 vla) (.string nma) (.slice pa zsa.length ca) 26).keep (bk_alloc (bk_alloc (BK.refl _) (.cells #[.int .i64 opb, .int .i64 wdb, .int .u64 vlb, .string nmb, .slice pb zsb.length cb] 26)) (.cells #[.int .i64 opc, .int .i64 wdc, .int .u64 vlc, .string nmc, .slice pc zsc.length cc] 26)) (by simp)
  have hxb := (b5_new (w.alloc (.cells #[.int .i64 opa, .int .i64 wda, .int .u64 vla, .string nma, .slice pa zsa.length ca] 26)) (.int .i64 opb) (.int .i64 wdb) (.int .u64 vlb) (.string nmb) (.slice pb zsb.length cb) 26).keep (bk_alloc (BK.refl _) (.cells #[.int .i64 opc, .int .i64 wdc, .int .u64 vlc, .string nmc, .slice pc zsc.length cc] 26)) (by simp)
  have hxc := b5_new ((w.alloc (.cells #[.int .i64 opa, .int .i64 wda, .int .u64 vla, .string nma, .slice pa zsa.length ca] 26)).alloc (.cells #[.int .i64 opb, .int .i64 wdb, .int .u64 vlb, .string nmb, .slice pb zsb.length cb] 26)) (.int .i64 opc) (.int .i64 wdc) (.int .u64 vlc) (.string nmc) (.slice pc zsc.length cc) 26
  have hsz : (((w.alloc (.cells #[.int .i64 opa, .int .i64 wda, .int .u64 vla, .string nma, .slice pa zsa.length ca] 26)).alloc (.cells #[.int .i64 opb, .int .i64 wdb, .int .u64 vlb, .string nmb, .slice pb zsb.length cb] 26)).alloc (.cells #[.int .i64 opc, .int .i64 wdc, .int .u64 vlc, .string nmc, .slice pc zsc.length cc] 26)).heap.size = w.heap.size + 3 := by simp
  have hra := ha.keep hk0
  have hrb := hb.keep hk0
  have hrc := hc.keep hk0
  rw [show (w.alloc (.cells #[.int .i64 opa, .int .i64 wda, .int .u64 vla, .string nma, .slice pa zsa.length ca] 26)).heap.size = w.heap.size + 1 by simp] at hxb
  rw [show ((w.alloc (.cells #[.int .i64 opa, .int .i64 wda, .int .u64 vla, .string nma, .slice pa zsa.length ca] 26)).alloc (.cells #[.int .i64 opb, .int .i64 wdb, .int .u64 vlb, .string nmb, .slice pb zsb.length cb] 26)).heap.size = w.heap.size + 2 by simp] at hxc
  clear ha hb hc
  have HT := Lib.hid (ht.keep hk0)
  clear ht
  go_enter Tryd.func4, Tryd.ntmps4
  go_wp2_with fail
  generalize ((w.alloc (.cells #[.int .i64 opa, .int .i64 wda, .int .u64 vla, .string nma, .slice pa zsa.length ca] 26)).alloc (.cells #[.int .i64 opb, .int .i64 wdb, .int .u64 vlb, .string nmb, .slice pb zsb.length cb] 26)).alloc (.cells #[.int .i64 opc, .int .i64 wdc, .int .u64 vlc, .string nmc, .slice pc zsc.length cc] 26) = w0 at hk0 hxa hxb hxc hsz hra hrb hrc HT ⊢
  have KC := Lib.hid (fun wc (hb : BK w0 wc) => And.intro (hxa.keep hb (by omega)) (And.intro (hxb.keep hb (by omega)) (hxc.keep hb (by omega))))
  have RA := Lib.hid (fun wc (hb : BK w0 wc) => hra.keep hb)
  have RB := Lib.hid (fun wc (hb : BK w0 wc) => hrb.keep hb)
  have RC := Lib.hid (fun wc (hb : BK w0 wc) => hrc.keep hb)
  have HK0 := Lib.hid hk0
  have K0 := Lib.hid (BK.refl w0)
  clear hk0 hsz hra hrb hrc
  obtain ⟨⟨x0, x1, x2, x3, x4⟩, ⟨y0, y1, y2, y3, y4⟩, ⟨z0, z1, z2, z3, z4⟩⟩ := And.intro hxa (And.intro hxb hxc)
  clear hxa hxb hxc
  refine (few11 opa wda vla nma pa _ ca _).mono ?_
  rintro e wa ⟨rfl, hb⟩
  have KA := Lib.hid (bk_tr K0.out hb)
  clear x0 x1 x2 x3 x4 y0 y1 y2 y3 y4 z0 z1 z2 z3 z4 hb
  obtain ⟨⟨x0, x1, x2, x3, x4⟩, ⟨y0, y1, y2, y3, y4⟩, ⟨z0, z1, z2, z3, z4⟩⟩ := KC.out _ KA.out
  cases fa : fewB zsa.length nma with
  | false =>
    have F := Lib.hid fa
    clear fa
    go_wp2_with fail
    refine (live_any _ (HT.out.keep KA.out)).mono ?_
    rintro e w9 ⟨rfl, hb9⟩
    have H9 := Lib.hid (bk_tr KA.out hb9)
    clear hb9
    go_wp2_with fail
    go_ret
    exact ⟨rfl, bk_tr HK0.out H9.out⟩
  | true =>
    have GA := Lib.hid fa
    clear fa
    go_wp2_with fail
    refine (few11 opb wdb vlb nmb pb _ cb _).mono ?_
    rintro e wb ⟨rfl, hb⟩
    have KB := Lib.hid (bk_tr KA.out hb)
    clear x0 x1 x2 x3 x4 y0 y1 y2 y3 y4 z0 z1 z2 z3 z4 hb
    obtain ⟨⟨x0, x1, x2, x3, x4⟩, ⟨y0, y1, y2, y3, y4⟩, ⟨z0, z1, z2, z3, z4⟩⟩ := KC.out _ KB.out
    cases fb : fewB zsb.length nmb with
    | false =>
      have F := Lib.hid fb
      clear fb
      go_wp2_with fail
      refine (live_any _ (HT.out.keep KB.out)).mono ?_
      rintro e w9 ⟨rfl, hb9⟩
      have H9 := Lib.hid (bk_tr KB.out hb9)
      clear hb9
      go_wp2_with fail
      go_ret
      exact ⟨rfl, bk_tr HK0.out H9.out⟩
    | true =>
      have GB := Lib.hid fb
      clear fb
      go_wp2_with fail
      refine (few11 opc wdc vlc nmc pc _ cc _).mono ?_
      rintro e wc ⟨rfl, hb⟩
      have K1 := Lib.hid (bk_tr KB.out hb)
      clear x0 x1 x2 x3 x4 y0 y1 y2 y3 y4 z0 z1 z2 z3 z4 hb
      obtain ⟨⟨x0, x1, x2, x3, x4⟩, ⟨y0, y1, y2, y3, y4⟩, ⟨z0, z1, z2, z3, z4⟩⟩ := KC.out _ K1.out
      cases fc : fewB zsc.length nmc with
      | false =>
        have F := Lib.hid fc
        clear fc
        go_wp2_with fail
        refine (live_any _ (HT.out.keep K1.out)).mono ?_
        rintro e w9 ⟨rfl, hb9⟩
        have H9 := Lib.hid (bk_tr K1.out hb9)
        clear hb9
        go_wp2_with fail
        go_ret
        exact ⟨rfl, bk_tr HK0.out H9.out⟩
      | true =>
        have GC := Lib.hid fc
        clear fc x0 x1 x2 x3 x4 y0 y1 y2 y3 y4 z0 z1 z2 z3 z4
        have KD := Lib.hid (fun w5 (h5 : BK w0 w5) => KC.out w5 h5)
        have CX := Lib.hid (fun w5 (h5 : BK w0 w5) => (cmp13 opa wda vla opb wdb vlb nma nmb pa pb ca cb zsa zsb w5 (few_len GA.out) (few_len GB.out) (RA.out _ h5) (RB.out _ h5)).mono (fun e w6 h6 => And.intro h6.1 (bk_tr h5 h6.2)))
        have CY := Lib.hid (fun w5 (h5 : BK w0 w5) => (cmp13 opb wdb vlb opc wdc vlc nmb nmc pb pc cb cc zsb zsc w5 (few_len GB.out) (few_len GC.out) (RB.out _ h5) (RC.out _ h5)).mono (fun e w6 h6 => And.intro h6.1 (bk_tr h5 h6.2)))
        have CZ := Lib.hid (fun w5 (h5 : BK w0 w5) => (cmp13 opa wda vla opc wdc vlc nma nmc pa pc ca cc zsa zsc w5 (few_len GA.out) (few_len GC.out) (RA.out _ h5) (RC.out _ h5)).mono (fun e w6 h6 => And.intro h6.1 (bk_tr h5 h6.2)))
        have CM := Lib.hid (fun w5 (h5 : BK w0 w5) => (cmp13 opb wdb vlb opa wda vla nmb nma pb pa cb ca zsb zsa w5 (few_len GB.out) (few_len GA.out) (RB.out _ h5) (RA.out _ h5)).mono (fun e w6 h6 => And.intro h6.1 (bk_tr h5 h6.2)))
        have CI := Lib.hid (fun w5 (h5 : BK w0 w5) => (cmp13 opa wda vla opa wda vla nma nma pa pa ca ca zsa zsa w5 (few_len GA.out) (few_len GA.out) (RA.out _ h5) (RA.out _ h5)).mono (fun e w6 h6 => And.intro h6.1 (bk_tr h5 h6.2)))
        have CS := Lib.hid (fun w5 (h5 : BK w0 w5) => (same15 opa wda vla opb wdb vlb nma nmb pa pb ca cb zsa zsb w5 (few_len GA.out) (few_len GB.out) (RA.out _ h5) (RB.out _ h5)).mono (fun e w6 h6 => And.intro h6.1 (bk_tr h5 h6.2)))
        have C12 := Lib.hid (fun w5 (h5 : BK w0 w5) => (live_any w5 (HT.out.keep h5)).mono (fun e w6 h6 => And.intro h6.1 (bk_tr h5 h6.2)))
        have bx := bd_N opa wda vla opb wdb vlb nma nmb zsa zsb
        have byy := bd_N opb wdb vlb opc wdc vlc nmb nmc zsb zsc
        have bz := bd_N opa wda vla opc wdc vlc nma nmc zsa zsc
        have bm := anti_N opa wda vla opb wdb vlb nma nmb zsa zsb
        have bt := tri_N opa wda vla opb wdb vlb opc wdc vlc nma nmb nmc zsa zsb zsc
        rw [self_N opa wda vla nma zsa] at CI
        generalize cmpN opa wda vla opb wdb vlb nma nmb zsa zsb = x at *
        generalize cmpN opb wdb vlb opc wdc vlc nmb nmc zsb zsc = y at *
        generalize cmpN opa wda vla opc wdc vlc nma nmc zsa zsc = z at *
        generalize cmpN opb wdb vlb opa wda vla nmb nma zsb zsa = m at *
        generalize hrb : (x == 0) = r at *
        have hcs := ord_cases bx byy bz bm hrb.symm bt
        clear bx byy bz bm bt hrb
        rcases hcs with ⟨rfl, rfl, rfl⟩ | ⟨rfl, rfl, rfl, rfl⟩ | ⟨rfl, rfl, rfl, rfl⟩ | ⟨rfl, rfl, rfl, rfl, rfl⟩ | ⟨rfl, rfl, rfl, rfl, rfl⟩ | ⟨rfl, rfl, rfl, rfl, rfl⟩ | ⟨rfl, rfl, rfl, rfl, rfl⟩
        all_goals
          obtain ⟨⟨x0, x1, x2, x3, x4⟩, ⟨y0, y1, y2, y3, y4⟩, ⟨z0, z1, z2, z3, z4⟩⟩ := KC.out _ K1.out
          go_wp2_with fail
          refine (CX.out _ K1.out).mono ?_
          rintro e w2 ⟨rfl, hb⟩
          have K2 := Lib.hid hb
          clear hb x0 x1 x2 x3 x4 y0 y1 y2 y3 y4 z0 z1 z2 z3 z4
          obtain ⟨⟨x0, x1, x2, x3, x4⟩, ⟨y0, y1, y2, y3, y4⟩, ⟨z0, z1, z2, z3, z4⟩⟩ := KC.out _ K2.out
          go_wp2_with fail
          refine (CY.out _ K2.out).mono ?_
          rintro e w3 ⟨rfl, hb⟩
          have K3 := Lib.hid hb
          clear hb x0 x1 x2 x3 x4 y0 y1 y2 y3 y4 z0 z1 z2 z3 z4
          obtain ⟨⟨x0, x1, x2, x3, x4⟩, ⟨y0, y1, y2, y3, y4⟩, ⟨z0, z1, z2, z3, z4⟩⟩ := KC.out _ K3.out
          go_wp2_with fail
          refine (CZ.out _ K3.out).mono ?_
          rintro e w4 ⟨rfl, hb⟩
          have K4 := Lib.hid hb
          clear hb x0 x1 x2 x3 x4 y0 y1 y2 y3 y4 z0 z1 z2 z3 z4
          obtain ⟨⟨x0, x1, x2, x3, x4⟩, ⟨y0, y1, y2, y3, y4⟩, ⟨z0, z1, z2, z3, z4⟩⟩ := KC.out _ K4.out
          go_wp2_with fail
          refine (CM.out _ K4.out).mono ?_
          rintro e w5 ⟨rfl, hb⟩
          have K5 := Lib.hid hb
          clear hb x0 x1 x2 x3 x4 y0 y1 y2 y3 y4 z0 z1 z2 z3 z4
          obtain ⟨⟨x0, x1, x2, x3, x4⟩, ⟨y0, y1, y2, y3, y4⟩, ⟨z0, z1, z2, z3, z4⟩⟩ := KC.out _ K5.out
          go_wp2_with fail
          refine (CS.out _ K5.out).mono ?_
          rintro e w6 ⟨rfl, hb⟩
          have K6 := Lib.hid hb
          clear hb x0 x1 x2 x3 x4 y0 y1 y2 y3 y4 z0 z1 z2 z3 z4
          obtain ⟨⟨x0, x1, x2, x3, x4⟩, ⟨y0, y1, y2, y3, y4⟩, ⟨z0, z1, z2, z3, z4⟩⟩ := KC.out _ K6.out
          go_wp2_with fail
          refine (CI.out _ K6.out).mono ?_
          rintro e w7 ⟨rfl, hb⟩
          have K7 := Lib.hid hb
          clear hb x0 x1 x2 x3 x4 y0 y1 y2 y3 y4 z0 z1 z2 z3 z4
          go_wp2_with fail
          refine (C12.out _ K7.out).mono ?_
          rintro e w9 ⟨rfl, hb9⟩
          have H9 := Lib.hid hb9
          clear hb9
          go_wp2_with fail
          go_ret
          exact ⟨rfl, bk_tr HK0.out H9.out⟩
end Go.Proofs.YtclefcjojlkcnaaDoor
