/- Parse, over ParseAll's contract. -/
import Derived.Test.YtgiheheakgigkaaQ
namespace Go.Proofs.Ytgiheheakgigkaa
open Go.RowKit
set_option linter.unusedVariables false
set_option linter.unusedSimpArgs false
set_option maxRecDepth 100000 in
set_option maxHeartbeats 4000000 in
theorem parse11_err (s : ByteArray) (w : World) (j c : Nat) (hc : c ≠ 0) (H13 : ∀ w, Calls Try.prog 13 #[.string s] w (PAP w (.err j c))) : Calls Try.prog 11 #[.string s] w (ONE w (zeroT, j, c)) := by
  have HH := Lib.hid H13
  have NB := Lib.hid (show (w.alloc zc).heap[w.heap.size]? = some (.cells #[.string ⟨#[]⟩, .slice none 0 0] 25 (0, 0)) from heap_alloc_new w zc)
  have K0 := Lib.hid (bk_alloc (BK.refl w) zc)
  have SZ0 := Lib.hid (sz1 w zc)
  unfold zc at K0 NB SZ0
  have qc : ((c : Int) != 0) = true := nn_cast hc
  clear H13 hc
  unfold PAP at HH
  dsimp only at HH
  go_enter Try.func11, Try.ntmps11
  go_wp2_with fail
  refine (HH.out _).mono ?_
  rintro e w2 ⟨rfl, hb2⟩
  have K2 := Lib.hid (bk_tr K0.out hb2)
  have B2 := Lib.hid ((bk_block hb2 (by rw [SZ0.out]; omega)).trans NB.out)
  have x0 := cell_of_row w2 w.heap.size 0 _ 25 (0, 0) B2.out
  have x1 := cell_of_row w2 w.heap.size 1 _ 25 (0, 0) B2.out
  have y0 := frozen_of_row w2 w.heap.size 0 _ 25 B2.out
  have y1 := frozen_of_row w2 w.heap.size 1 _ 25 B2.out
  clear hb2
  go_wp2_with fail
  exact bodyPost_ret (v := .tuple #[.agg #[.string ⟨#[]⟩, .slice none 0 0], .int .i64 (j : Int), .int .i64 (c : Int)]) (results_ctt Try.results11 _ _ w.heap.size 25 #[.string ⟨#[]⟩, .slice none 0 0] (0, 0) _ rfl (res_set B2.out rfl _ _) Try.underlying25 rfl (by kernel_rfl) rfl rfl) rfl
    ⟨⟨none, 0, rfl, .inl ⟨rfl, fun _ => rfl⟩⟩, bk_set (bk_set K2.out _ _ (Nat.le_refl _)) _ _ (Nat.le_refl _)⟩
set_option maxRecDepth 100000 in
set_option maxHeartbeats 4000000 in
theorem parse11_ok (s : ByteArray) (hs : s.size ≤ 65536) (w : World) (l : List T) (j0 : Nat) (hal : allR (xo s) = .ok l j0) (H13 : ∀ w, Calls Try.prog 13 #[.string s] w (PAP w (allR (xo s)))) : Calls Try.prog 11 #[.string s] w (ONE w (parseR (xo s))) := by
  rw [hal] at H13
  have HH := Lib.hid H13
  clear H13
  have NB := Lib.hid (show (w.alloc zc).heap[w.heap.size]? = some (.cells #[.string ⟨#[]⟩, .slice none 0 0] 25 (0, 0)) from heap_alloc_new w zc)
  have K0 := Lib.hid (bk_alloc (BK.refl w) zc)
  have SZ0 := Lib.hid (sz1 w zc)
  unfold zc at K0 NB SZ0
  have S31 := Lib.hid (fun e0 j hlt hex w => second31 s hs w e0 j hlt hex)
  have AF := Lib.hid (fun e t (h : l = e :: t) => all_first (x := xo s) (e := e) (t := t) (by rw [hal, h]))
  have PR := Lib.hid hal
  unfold PAP at HH
  dsimp only at HH
  clear hal
  cases l with
  | nil =>
    rw [parse_nil PR.out, xo_n]
    go_enter Try.func11, Try.ntmps11
    go_wp2_with fail
    refine (HH.out _).mono ?_
    rintro e w2 ⟨⟨p, c, rfl, hr2⟩, hb2⟩
    have K2 := Lib.hid (bk_tr K0.out hb2)
    have B2 := Lib.hid ((bk_block hb2 (by rw [SZ0.out]; omega)).trans NB.out)
    have x0 := cell_of_row w2 w.heap.size 0 _ 25 (0, 0) B2.out
    have x1 := cell_of_row w2 w.heap.size 1 _ 25 (0, 0) B2.out
    have y0 := frozen_of_row w2 w.heap.size 0 _ 25 B2.out
    have y1 := frozen_of_row w2 w.heap.size 1 _ 25 B2.out
    clear hb2 hr2
    go_wp2_with fail
    exact bodyPost_ret (v := .tuple #[.agg #[.string ⟨#[]⟩, .slice none 0 0], .int .i64 (s.size : Int), .int .i64 6]) (results_ctt Try.results11 _ _ w.heap.size 25 #[.string ⟨#[]⟩, .slice none 0 0] (0, 0) _ rfl (res_set B2.out rfl _ _) Try.underlying25 rfl (by kernel_rfl) rfl rfl) rfl
      ⟨⟨none, 0, rfl, .inl ⟨rfl, fun _ => rfl⟩⟩, bk_set (bk_set K2.out _ _ (Nat.le_refl _)) _ _ (Nat.le_refl _)⟩
  | cons e0 t0 =>
    cases t0 with
    | nil =>
      rw [parse_one PR.out]
      go_enter Try.func11, Try.ntmps11
      go_wp2_with fail
      refine (HH.out _).mono ?_
      rintro e w2 ⟨⟨p, c, rfl, hr2⟩, hb2⟩
      have K2 := Lib.hid (bk_tr K0.out hb2)
      have B2 := Lib.hid ((bk_block hb2 (by rw [SZ0.out]; omega)).trans NB.out)
      have x0 := cell_of_row w2 w.heap.size 0 _ 25 (0, 0) B2.out
      have x1 := cell_of_row w2 w.heap.size 1 _ 25 (0, 0) B2.out
      have y0 := frozen_of_row w2 w.heap.size 0 _ 25 B2.out
      have y1 := frozen_of_row w2 w.heap.size 1 _ 25 B2.out
      obtain ⟨b, o, a, us, q, d, rfl, hb, he, z0, z1, hrr⟩ := hr2.get (k := 0) (by simp)
      simp only [Nat.zero_mul, Nat.add_zero] at z0 z1
      obtain rfl : e0 = .mk a us := by simpa using he
      have HB := Lib.hid (show w.heap.size + 1 ≤ b from by have := hb.1; rw [SZ0.out] at this; exact this)
      have SS := Lib.hid (show Step w2 ((w2.setCell ⟨w.heap.size, 0, none⟩ (.string a)).setCell ⟨w.heap.size, 1, none⟩ (.slice q us.length d)) (oneF w.heap.size) (oneF w.heap.size) from (step_set 0 _).trans (step_set 1 _))
      have RR := Lib.hid hrr
      clear hb2 hr2 hrr hb he
      go_wp2_with fail
      exact bodyPost_ret (v := .tuple #[.agg #[.string a, .slice q us.length d], .int .i64 0, .int .i64 0]) (results_ctt Try.results11 _ _ w.heap.size 25 #[.string a, .slice q us.length d] (0, 0) _ rfl (res_set B2.out rfl _ _) Try.underlying25 rfl (by kernel_rfl) rfl rfl) rfl
        ⟨⟨q, d, rfl, RR.out.step SS.out (fun g hg e => by rw [SZ0.out] at hg; unfold oneF at e; omega) (by rw [SZ0.out]; omega)⟩, bk_set (bk_set K2.out _ _ (Nat.le_refl _)) _ _ (Nat.le_refl _)⟩
    | cons e1 t1 =>
      rw [parse_two PR.out]
      obtain ⟨hlt, j, hex⟩ := AF.out e0 (e1 :: t1) rfl
      rw [xo_n] at hlt
      have hsec : second (xo s) = sk (xo s) false j := by unfold second; rw [hex]
      rw [hsec]
      have C31 := Lib.hid (fun w => S31.out e0 j hlt hex w)
      have hl1 : (1 : Int) < ((e0 :: e1 :: t1).length : Int) := by simp; omega
      have hl0 : (((e0 :: e1 :: t1).length : Int) == 0) = false := by simp; omega
      clear hsec hex
      generalize hjj : sk (xo s) false j = jj at *
      generalize hn : (e0 :: e1 :: t1).length = n at *
      clear hjj
      go_enter Try.func11, Try.ntmps11
      go_wp2_with fail
      refine (HH.out _).mono ?_
      rintro e w2 ⟨⟨p, c, rfl, hr2⟩, hb2⟩
      have K2 := Lib.hid (bk_tr K0.out hb2)
      have B2 := Lib.hid ((bk_block hb2 (by rw [SZ0.out]; omega)).trans NB.out)
      clear hb2 hr2
      go_wp2_with fail
      refine (C31.out _).mono ?_
      rintro e w3 ⟨rfl, hb3⟩
      have K3 := Lib.hid (bk_tr K2.out hb3)
      have B3 := Lib.hid ((bk_block hb3 (Array.getElem?_eq_some_iff.1 B2.out).1).trans B2.out)
      have x0 := cell_of_row _ w.heap.size 0 _ 25 (0, 0) B3.out
      have x1 := cell_of_row _ w.heap.size 1 _ 25 (0, 0) B3.out
      have y0 := frozen_of_row _ w.heap.size 0 _ 25 B3.out
      have y1 := frozen_of_row _ w.heap.size 1 _ 25 B3.out
      clear hb3
      go_wp2_with fail
      exact bodyPost_ret (v := .tuple #[.agg #[.string ⟨#[]⟩, .slice none 0 0], .int .i64 (jj : Int), .int .i64 6]) (results_ctt Try.results11 _ _ w.heap.size 25 #[.string ⟨#[]⟩, .slice none 0 0] (0, 0) _ rfl (res_set B3.out rfl _ _) Try.underlying25 rfl (by kernel_rfl) rfl rfl) rfl
        ⟨⟨none, 0, rfl, .inl ⟨rfl, fun _ => rfl⟩⟩, bk_set (bk_set K3.out _ _ (Nat.le_refl _)) _ _ (Nat.le_refl _)⟩
theorem parse11 (s : ByteArray) (hs : s.size ≤ 65536) (w : World) (H13 : ∀ w, Calls Try.prog 13 #[.string s] w (PAP w (allR (xo s)))) : Calls Try.prog 11 #[.string s] w (ONE w (parseR (xo s))) := by
  cases h : allR (xo s) with
  | ok l j => exact parse11_ok s hs w l j h H13
  | err j c => rw [parse_err h]; exact parse11_err s w j c (alF_c _ _ _ _ _ h) (fun w => by have := H13 w; rwa [h] at this)
end Go.Proofs.Ytgiheheakgigkaa
