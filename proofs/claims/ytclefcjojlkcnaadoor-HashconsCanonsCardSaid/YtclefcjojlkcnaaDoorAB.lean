/- The law of Canon, walked. -/
import Derived.Test.YtclefcjojlkcnaaDoorAA
import Derived.Test.YtclefcjojlkcnaaDoorP
import Derived.Test.YtclefcjojlkcnaaDoorQ
namespace Go.Proofs.YtclefcjojlkcnaaDoor
open Go.RowKit
set_option linter.unusedVariables false
set_option linter.unusedSimpArgs false
theorem eleven {w' : World} {b1 b2 t : Nat} {x0 x1 x2 x3 x4 y0 y1 y2 y3 y4 z : Value} (h : B5 w' b1 x0 x1 x2 x3 x4) (h' : B5 w' b2 y0 y1 y2 y3 y4) (h2 : w'.cell? ⟨t, 0, none⟩ = some z) : w'.cell? ⟨b1, 0, none⟩ = some x0 ∧ w'.cell? ⟨b1, 1, none⟩ = some x1 ∧ w'.cell? ⟨b1, 2, none⟩ = some x2 ∧ w'.cell? ⟨b1, 3, none⟩ = some x3 ∧ w'.cell? ⟨b1, 4, none⟩ = some x4 ∧ w'.cell? ⟨b2, 0, none⟩ = some y0 ∧ w'.cell? ⟨b2, 1, none⟩ = some y1 ∧ w'.cell? ⟨b2, 2, none⟩ = some y2 ∧ w'.cell? ⟨b2, 3, none⟩ = some y3 ∧ w'.cell? ⟨b2, 4, none⟩ = some y4 ∧ w'.cell? ⟨t, 0, none⟩ = some z := by
  obtain ⟨a0, a1, a2, a3, a4⟩ := h
  obtain ⟨b0, b1, b2, b3, b4⟩ := h'
  exact ⟨a0, a1, a2, a3, a4, b0, b1, b2, b3, b4, h2⟩
set_option maxRecDepth 100000 in
set_option maxHeartbeats 2000000 in
theorem canons_law (op wd vl : Int) (nm : ByteArray) (p q : Option Addr) (c cq : Nat) (zs ts : List Int) (w : World) (h : Ra w p zs) (hn : p = none → c = 0) (hq : Ra w q ts) (ht : Tb w) :
    Calls Tryd.prog 6 #[.agg #[.int .i64 op, .int .i64 wd, .int .u64 vl, .string nm, .slice p zs.length c], .slice q ts.length cq] w fun e w' => e = .returned (.bool true) ∧ BK w w' := by
  have hk0 : BK w ((w.alloc (.cells #[.int .i64 op, .int .i64 wd, .int .u64 vl, .string nm, .slice p zs.length c] 26)).alloc (.cells #[.slice q ts.length cq] 24)) := bk_alloc (bk_alloc (BK.refl w) _) _
  have hx := (b5_new w (.int .i64 op) (.int .i64 wd) (.int .u64 vl) (.string nm) (.slice p zs.length c) 26).keep (bk_alloc (BK.refl _) (.cells #[.slice q ts.length cq] 24)) (by simp)
  have hlt : w.heap.size < ((w.alloc (.cells #[.int .i64 op, .int .i64 wd, .int .u64 vl, .string nm, .slice p zs.length c] 26)).alloc (.cells #[.slice q ts.length cq] 24)).heap.size := by simp; omega
  have hltb : w.heap.size + 1 < ((w.alloc (.cells #[.int .i64 op, .int .i64 wd, .int .u64 vl, .string nm, .slice p zs.length c] 26)).alloc (.cells #[.slice q ts.length cq] 24)).heap.size := by simp
  have hT : ((w.alloc (.cells #[.int .i64 op, .int .i64 wd, .int .u64 vl, .string nm, .slice p zs.length c] 26)).alloc (.cells #[.slice q ts.length cq] 24)).cell? ⟨w.heap.size + 1, 0, none⟩ = some (.slice q ts.length cq) := by
    rw [show w.heap.size + 1 = (w.alloc (.cells #[.int .i64 op, .int .i64 wd, .int .u64 vl, .string nm, .slice p zs.length c] 26)).heap.size by simp, World.cell?_alloc_new]; rfl
  have hr := h.keep hk0
  have hqr := hq.keep hk0
  have HT := Lib.hid (ht.keep hk0)
  clear h hq ht
  go_enter Tryd.func6, Tryd.ntmps6
  go_wp2_with fail
  generalize (w.alloc (.cells #[.int .i64 op, .int .i64 wd, .int .u64 vl, .string nm, .slice p zs.length c] 26)).alloc (.cells #[.slice q ts.length cq] 24) = w0 at hk0 hx hlt hltb hT hr hqr HT ⊢
  have HX := Lib.hid (fun wc (hb : BK w0 wc) => hx.keep hb hlt)
  have TC := Lib.hid (fun wc (hb : BK w0 wc) => ((show Below w0.heap.size w0 wc from hb).cell (p := ⟨w.heap.size + 1, 0, none⟩) hltb).trans hT)
  have RA := Lib.hid (fun wc (hb : BK w0 wc) => hr.keep hb)
  have RQ := Lib.hid (fun wc (hb : BK w0 wc) => hqr.keep hb)
  have HK0 := Lib.hid hk0
  have Hlt := Lib.hid hltb
  obtain ⟨x0, x1, x2, x3, x4⟩ := hx
  clear hk0 hr hqr hlt hltb hT
  refine (few11 op wd vl nm p _ c _).mono ?_
  rintro e w1 ⟨rfl, hb⟩
  have K1 := Lib.hid hb
  clear hb x0 x1 x2 x3 x4
  cases f : fewB zs.length nm with
  | false =>
    have F := Lib.hid f
    clear f
    go_wp2_with fail
    refine (live_any _ (HT.out.keep K1.out)).mono ?_
    rintro e w9 ⟨rfl, hb9⟩
    have H9 := Lib.hid (bk_tr K1.out hb9)
    clear hb9
    go_wp2_with fail
    go_ret
    exact ⟨rfl, bk_tr HK0.out H9.out⟩
  | true =>
    have F := Lib.hid (few_len f)
    clear f
    obtain ⟨x0, x1, x2, x3, x4⟩ := HX.out _ (bk_alloc K1.out (.cells #[.slice none 0 0] 24))
    have hA : (w1.alloc (.cells #[.slice none 0 0] 24)).cell? ⟨w1.heap.size, 0, none⟩ = some (.slice none 0 0) := by rw [World.cell?_alloc_new]; rfl
    have hfA := fz_new w1 #[.slice none 0 0] 24 0
    have hA2 := box_lt w1 #[.slice none 0 0] 24
    have kA := bk_alloc K1.out (.cells #[.slice none 0 0] 24)
    go_wp2_with fail
    clear x0 x1 x2 x3 x4
    generalize w1.alloc (.cells #[.slice none 0 0] 24) = w2 at hA hfA hA2 kA ⊢
    have Hc := Lib.hid (canon20 w1.heap.size (w.heap.size + 1) op wd vl nm p q c cq zs ts w0 w2 kA (bk_size K1.out) hA2 Hlt.out hA hfA RA.out RQ.out TC.out F.out)
    clear hA hfA hA2 kA
    refine Hc.out.mono ?_
    rintro e w3 ⟨px, cx, va, rfl, hask, hb⟩
    clear Hc
    obtain ⟨pa, ca, rfl⟩ := own_shape hask.own
    have k4 := bk_alloc hb (.cells #[.int .i64 op, .int .i64 wd, .int .u64 vl, .string nm, .slice px zs.length cx] 26)
    have hxb := b5_new w3 (.int .i64 op) (.int .i64 wd) (.int .u64 vl) (.string nm) (.slice px zs.length cx) 26
    have hlx := box_lt w3 #[.int .i64 op, .int .i64 wd, .int .u64 vl, .string nm, .slice px zs.length cx] 26
    have hra := (Ra.own hask.own).keep (bk_alloc (BK.refl w3) (.cells #[.int .i64 op, .int .i64 wd, .int .u64 vl, .string nm, .slice px zs.length cx] 26))
    have hrx := (Ra.own (zs := mapF ts zs zs.length) (by rw [mapF_len _ _ _ (Nat.le_refl _)]; exact hask.row)).keep (bk_alloc (BK.refl w3) (.cells #[.int .i64 op, .int .i64 wd, .int .u64 vl, .string nm, .slice px zs.length cx] 26))
    have hac := Lib.cell?_alloc_some (.cells #[.int .i64 op, .int .i64 wd, .int .u64 vl, .string nm, .slice px zs.length cx] 26) hask.cell
    have hal : w1.heap.size < (w3.alloc (.cells #[.int .i64 op, .int .i64 wd, .int .u64 vl, .string nm, .slice px zs.length cx] 26)).heap.size := by have : w1.heap.size < w3.heap.size := World.block_lt_of_cell? w3 _ hask.cell; simp; omega
    obtain ⟨-, -, -, -, x4⟩ := HX.out _ k4
    have bs : ((zs.length : Int) != (zs.length : Int)) = false := by simp
    clear hask hb
    go_wp2_with fail
    clear x4 bs
    generalize w3.alloc (.cells #[.int .i64 op, .int .i64 wd, .int .u64 vl, .string nm, .slice px zs.length cx] 26) = w4 at k4 hxb hlx hra hrx hac hal ⊢
    have K4 := Lib.hid k4
    have XB := Lib.hid (fun wc (hb : BK w4 wc) => hxb.keep hb hlx)
    have RP := Lib.hid (fun wc (hb : BK w4 wc) => hra.keep hb)
    have RX := Lib.hid (fun wc (hb : BK w4 wc) => hrx.keep hb)
    have AC := Lib.hid (fun wc (hb : BK w4 wc) => ((show Below w4.heap.size w4 wc from hb).cell (p := ⟨w1.heap.size, 0, none⟩) hal).trans hac)
    clear k4 hxb hlx hra hrx hac hal
    have hzl := F.out
    go_loopw [7] (fun x wr => ∃ k : Nat, k ≤ zs.length ∧ x = .int .i64 k ∧ BK w4 wr) (fun x _ => zs.length - (intOf x).toNat)
    case atStart => exact ⟨0, Nat.zero_le _, rfl, BK.refl _⟩
    case round =>
      obtain ⟨k, hk, rfl, hkw⟩ := hrel
      have HK := Lib.hid hkw
      have y4 := AC.out _ hkw
      obtain ⟨-, -, -, -, x4⟩ := HX.out _ (bk_tr K4.out hkw)
      by_cases hlt : k < zs.length
      · obtain ⟨b, off, rfl, _, hc1⟩ := (RP.out _ hkw) (by omega)
        obtain ⟨b', off', rfl, _, hc2⟩ := (RA.out _ (bk_tr K4.out hkw)) (by omega)
        have d1 := hc1 k hlt
        have d2 := hc2 k hlt
        clear hc1 hc2 hkw
        generalize zs.getD k 0 = z at d1 d2
        have bz : (z != z) = false := by simp
        go_wp2_with fail
        go_quiet (fail)
        go_wp2_with fail
        go_roundw
        case rel => exact ⟨k + 1, by omega, by go_num, by first | exact bk_drewN HK.out _ | exact HK.out⟩
        case measure => simp [intOf]; omega
      · have KW := Lib.hid (bk_tr K4.out hkw)
        clear hkw
        go_wp2_with fail
        clear x4 y4
        have C22 := Lib.hid (fun w5 (h5 : BK w0 w5) => (refcanon op wd vl nm p q c cq zs ts w5 (RA.out _ h5) hn (RQ.out _ h5) F.out).mono (fun e w6 ⟨s, d, h1, h2, h3⟩ => (⟨s, d, h1, by have h4 := Ra.own (zs := mapF ts zs zs.length) (p := s) (c := d) (w := w6) (B := w5.heap.size) (by rw [mapF_len _ _ _ (Nat.le_refl _)]; exact h2); exact h4, h3⟩ : ∃ s d, e = Ending.returned (.agg #[.int .i64 op, .int .i64 wd, .int .u64 vl, .string nm, .slice s zs.length d]) ∧ Ra w6 s (mapF ts zs zs.length) ∧ BK w5 w6)))
        have C19 := Lib.hid (fun w5 (h5 : BK w0 w5) => (canon_nil op wd vl nm p c zs w5 (RA.out _ h5) F.out).mono (fun e w6 ⟨s, d, h1, h2, h3⟩ => (⟨s, d, h1, by rw [List.take_length] at h2; exact Ra.own h2, h3⟩ : ∃ s d, e = Ending.returned (.agg #[.int .i64 op, .int .i64 wd, .int .u64 vl, .string nm, .slice s zs.length d]) ∧ Ra w6 s zs ∧ BK w5 w6)))
        have C16 := Lib.hid (fun s d w5 (h4 : BK w4 w5) (hs : Ra w5 s (mapF ts zs zs.length)) => (same16 op wd vl op wd vl nm nm px s cx d (mapF ts zs zs.length) (mapF ts zs zs.length) w5 (by rw [mapF_len _ _ _ (Nat.le_refl _)]; exact F.out) (by rw [mapF_len _ _ _ (Nat.le_refl _)]; exact F.out) (RX.out _ h4) hs).mono (fun e w6 h6 => And.intro h6.1 h6.2))
        rw [self_N, mapF_len ts zs zs.length (Nat.le_refl _)] at C16
        have D16 := Lib.hid (fun s d w5 (h5 : BK w0 w5) (hs : Ra w5 s zs) => (same16 op wd vl op wd vl nm nm s p d c zs zs w5 F.out F.out hs (RA.out _ h5)).mono (fun e w6 h6 => And.intro h6.1 h6.2))
        rw [self_N] at D16
        have C12 := Lib.hid (fun w5 (h5 : BK w0 w5) => live_any w5 (HT.out.keep h5))
        have k0 := Lib.hid (BK.refl wr)
        go_region_held3 (fun w' => w'.cell? ⟨w3.heap.size, 0, none⟩ = some (.int .i64 op) ∧ w'.cell? ⟨w3.heap.size, 1, none⟩ = some (.int .i64 wd) ∧ w'.cell? ⟨w3.heap.size, 2, none⟩ = some (.int .u64 vl) ∧ w'.cell? ⟨w3.heap.size, 3, none⟩ = some (.string nm) ∧ w'.cell? ⟨w3.heap.size, 4, none⟩ = some (.slice px zs.length cx) ∧ w'.cell? ⟨w.heap.size, 0, none⟩ = some (.int .i64 op) ∧ w'.cell? ⟨w.heap.size, 1, none⟩ = some (.int .i64 wd) ∧ w'.cell? ⟨w.heap.size, 2, none⟩ = some (.int .u64 vl) ∧ w'.cell? ⟨w.heap.size, 3, none⟩ = some (.string nm) ∧ w'.cell? ⟨w.heap.size, 4, none⟩ = some (.slice p zs.length c) ∧ w'.cell? ⟨w.heap.size + 1, 0, none⟩ = some (.slice q ts.length cq))
          (exact eleven (XB.out _ (by first | exact bk_drew HK.out | assumption)) (HX.out _ (bk_tr K4.out (by first | exact bk_drew HK.out | assumption))) (TC.out _ (bk_tr K4.out (by first | exact bk_drew HK.out | assumption))))
          ((first
            | (go_at_call 12; with_reducible refine (C12.out _ (bk_tr K4.out hkD)).mono ?_; rintro e w6 ⟨rfl, hq5⟩; have hkE := bk_tr hkD hq5)
            | (go_at_call 16; with_reducible refine (D16.out sC dC _ (bk_tr K4.out hkC) hsC).mono ?_; rintro e w6 ⟨rfl, hq4⟩; have hkD := bk_tr hkC hq4)
            | (go_at_call 19; with_reducible refine (C19.out _ (bk_tr K4.out hkB)).mono ?_; rintro e w6 ⟨sC, dC, rfl, hsC, hq3⟩; have hkC := bk_tr hkB hq3)
            | (go_at_call 16; with_reducible refine (C16.out sA dA _ hkA hsA).mono ?_; rintro e w6 ⟨rfl, hq2⟩; have hkB := bk_tr hkA hq2)
            | (go_at_call 22; with_reducible refine (C22.out _ (bk_tr K4.out (bk_drew HK.out))).mono ?_; rintro e w6 ⟨sA, dA, rfl, hsA, hq1⟩; have hkA := bk_tr (bk_drew HK.out) hq1)))
        have HE := Lib.hid (bk_tr K4.out hkE)
        clear hkA hkB hkC hkD hkE hq1 hq2 hq3 hq4 hq5 hsA hsC
        go_wp2_with fail
        go_ret
        exact ⟨rfl, bk_tr HK0.out HE.out⟩
end Go.Proofs.YtclefcjojlkcnaaDoor
