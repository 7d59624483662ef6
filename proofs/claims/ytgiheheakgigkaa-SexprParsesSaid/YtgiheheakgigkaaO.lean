/- The reference: the only s-expression of a text. -/
import Derived.Test.YtgiheheakgigkaaN
namespace Go.Proofs.Ytgiheheakgigkaa
open Go.RowKit
set_option linter.unusedVariables false
set_option linter.unusedSimpArgs false
/-- what Parse leaves -/
def ONE (w : World) (r : T × Nat × Nat) (e : Ending) (w' : World) : Prop := (∃ p c, e = .returned (.tuple #[.agg #[.string r.1.a, .slice p r.1.ts.length c], .int .i64 (r.2.1 : Int), .int .i64 (r.2.2 : Int)]) ∧ RowD (mem w.heap.size w') w' p c r.1.ts) ∧ BK w w'
theorem parse_err {x : X} {j c : Nat} (h : allR x = .err j c) : parseR x = (zeroT, j, c) := by unfold parseR; rw [h]
theorem parse_nil {x : X} {j : Nat} (h : allR x = .ok [] j) : parseR x = (zeroT, x.n, 6) := by unfold parseR; rw [h]
theorem parse_one {x : X} {e : T} {j : Nat} (h : allR x = .ok [e] j) : parseR x = (e, 0, 0) := by unfold parseR; rw [h]
theorem parse_two {x : X} {e f : T} {l : List T} {j : Nat} (h : allR x = .ok (e :: f :: l) j) : parseR x = (zeroT, second x, 6) := by unfold parseR; rw [h]
set_option maxRecDepth 100000 in
set_option maxHeartbeats 4000000 in
theorem ref12_err (s : ByteArray) (w : World) (j c : Nat) (hc : c ≠ 0) (H14 : ∀ w, Calls Try.prog 14 #[.string s] w (PAP w (.err j c))) : Calls Try.prog 12 #[.string s] w (ONE w (zeroT, j, c)) := by
  have HH := Lib.hid H14
  have NB := Lib.hid (show (w.alloc zc).heap[w.heap.size]? = some (.cells #[.string ⟨#[]⟩, .slice none 0 0] 25 (0, 0)) from heap_alloc_new w zc)
  have K0 := Lib.hid (bk_alloc (BK.refl w) zc)
  have SZ0 := Lib.hid (sz1 w zc)
  unfold zc at K0 NB SZ0
  have qc : ((c : Int) != 0) = true := nn_cast hc
  clear H14 hc
  unfold PAP at HH
  dsimp only at HH
  go_enter Try.func12, Try.ntmps12
  go_wp2_with fail
  refine (HH.out _).mono ?_
  rintro e w2 ⟨rfl, hb2⟩
  have K2 := Lib.hid (bk_tr K0.out hb2)
  have B2 := Lib.hid ((bk_block hb2 (by rw [SZ0.out]; omega)).trans NB.out)
  have x0 := cell_of_row w2 w.heap.size 0 _ 25 (0, 0) B2.out
  have x1 := cell_of_row w2 w.heap.size 1 _ 25 (0, 0) B2.out
  have y0 := frozen_of_row w2 w.heap.size 0 _ 25 B2.out
  have y1 := frozen_of_row w2 w.heap.size 1 _ 25 B2.out
  clear hb2
  go_wp2_with fail
  exact bodyPost_ret (v := .tuple #[.agg #[.string ⟨#[]⟩, .slice none 0 0], .int .i64 (j : Int), .int .i64 (c : Int)]) (results_ctt Try.results12 _ _ w.heap.size 25 #[.string ⟨#[]⟩, .slice none 0 0] (0, 0) _ rfl (res_set B2.out rfl _ _) Try.underlying25 rfl (by kernel_rfl) rfl rfl) rfl
    ⟨⟨none, 0, rfl, .inl ⟨rfl, fun _ => rfl⟩⟩, bk_set (bk_set K2.out _ _ (Nat.le_refl _)) _ _ (Nat.le_refl _)⟩
set_option maxRecDepth 100000 in
set_option maxHeartbeats 4000000 in
theorem ref12_ok (s : ByteArray) (hs : s.size ≤ 65536) (w : World) (l : List T) (j0 : Nat) (hal : allR (xo s) = .ok l j0) : Calls Try.prog 12 #[.string s] w (ONE w (parseR (xo s))) := by
  have HH := Lib.hid (fun w => ref14 s hs w)
  rw [hal] at HH
  have NB := Lib.hid (show (w.alloc zc).heap[w.heap.size]? = some (.cells #[.string ⟨#[]⟩, .slice none 0 0] 25 (0, 0)) from heap_alloc_new w zc)
  have K0 := Lib.hid (bk_alloc (BK.refl w) zc)
  have SZ0 := Lib.hid (sz1 w zc)
  unfold zc at K0 NB SZ0
  have E32 := Lib.hid (fun w i hi => one32 s (by omega) 64 0 rfl w i hi)
  have S33 := Lib.hid (fun w j hj => skip33 w s (by omega) j hj)
  have A33 := Lib.hid (fun w => skip33 w s (by omega) 0 (by omega))
  have AF := Lib.hid (fun e t (h : l = e :: t) => all_first (x := xo s) (e := e) (t := t) (by rw [hal, h]))
  have PR := Lib.hid hal
  unfold PAP at HH
  dsimp only at HH
  clear hal
  cases l with
  | nil =>
    rw [parse_nil PR.out, xo_n]
    go_enter Try.func12, Try.ntmps12
    go_wp2_with fail
    refine (HH.out _).mono ?_
    rintro e w2 ⟨⟨p, c, rfl, hr2⟩, hb2⟩
    have K2 := Lib.hid (bk_tr K0.out hb2)
    have B2 := Lib.hid ((bk_block hb2 (by rw [SZ0.out]; omega)).trans NB.out)
    have x0 := cell_of_row w2 w.heap.size 0 _ 25 (0, 0) B2.out
    have x1 := cell_of_row w2 w.heap.size 1 _ 25 (0, 0) B2.out
    have y0 := frozen_of_row w2 w.heap.size 0 _ 25 B2.out
    have y1 := frozen_of_row w2 w.heap.size 1 _ 25 B2.out
    clear hb2 hr2
    go_wp2_with fail
    exact bodyPost_ret (v := .tuple #[.agg #[.string ⟨#[]⟩, .slice none 0 0], .int .i64 (s.size : Int), .int .i64 6]) (results_ctt Try.results12 _ _ w.heap.size 25 #[.string ⟨#[]⟩, .slice none 0 0] (0, 0) _ rfl (res_set B2.out rfl _ _) Try.underlying25 rfl (by kernel_rfl) rfl rfl) rfl
      ⟨⟨none, 0, rfl, .inl ⟨rfl, fun _ => rfl⟩⟩, bk_set (bk_set K2.out _ _ (Nat.le_refl _)) _ _ (Nat.le_refl _)⟩
  | cons e0 t0 =>
    cases t0 with
    | nil =>
      rw [parse_one PR.out]
      go_enter Try.func12, Try.ntmps12
      go_wp2_with fail
      refine (HH.out _).mono ?_
      rintro e w2 ⟨⟨p, c, rfl, hr2⟩, hb2⟩
      have K2 := Lib.hid (bk_tr K0.out hb2)
      have B2 := Lib.hid ((bk_block hb2 (by rw [SZ0.out]; omega)).trans NB.out)
      have x0 := cell_of_row w2 w.heap.size 0 _ 25 (0, 0) B2.out
      have x1 := cell_of_row w2 w.heap.size 1 _ 25 (0, 0) B2.out
      have y0 := frozen_of_row w2 w.heap.size 0 _ 25 B2.out
      have y1 := frozen_of_row w2 w.heap.size 1 _ 25 B2.out
      obtain ⟨b, o, a, us, q, d, rfl, hb, he, z0, z1, hrr⟩ := hr2.get (k := 0) (by simp)
      simp only [Nat.zero_mul, Nat.add_zero] at z0 z1
      obtain rfl : e0 = .mk a us := by simpa using he
      have HB := Lib.hid (show w.heap.size + 1 ≤ b from by have := hb.1; rw [SZ0.out] at this; exact this)
      have SS := Lib.hid (show Step w2 ((w2.setCell ⟨w.heap.size, 0, none⟩ (.string a)).setCell ⟨w.heap.size, 1, none⟩ (.slice q us.length d)) (oneF w.heap.size) (oneF w.heap.size) from (step_set 0 _).trans (step_set 1 _))
      have RR := Lib.hid hrr
      clear hb2 hr2 hrr hb he
      go_wp2_with fail
      exact bodyPost_ret (v := .tuple #[.agg #[.string a, .slice q us.length d], .int .i64 0, .int .i64 0]) (results_ctt Try.results12 _ _ w.heap.size 25 #[.string a, .slice q us.length d] (0, 0) _ rfl (res_set B2.out rfl _ _) Try.underlying25 rfl (by kernel_rfl) rfl rfl) rfl
        ⟨⟨q, d, rfl, RR.out.step SS.out (fun g hg e => by rw [SZ0.out] at hg; unfold oneF at e; omega) (by rw [SZ0.out]; omega)⟩, bk_set (bk_set K2.out _ _ (Nat.le_refl _)) _ _ (Nat.le_refl _)⟩
    | cons e1 t1 =>
      rw [parse_two PR.out]
      obtain ⟨hlt, j, hex⟩ := AF.out e0 (e1 :: t1) rfl
      rw [xo_n] at hlt
      have hsec : second (xo s) = sk (xo s) false j := by unfold second; rw [hex]
      rw [hsec]
      have GT := Lib.hid (exR_gt 64 _ _ _ hlt hex)
      have EX := Lib.hid (fun w => E32.out w _ hlt)
      rw [hex] at EX
      unfold ONP at EX
      dsimp only at EX
      have C33 := Lib.hid (fun w => S33.out w j GT.out.2)
      have hl1 : (1 : Int) < ((e0 :: e1 :: t1).length : Int) := by simp; omega
      have hl0 : (((e0 :: e1 :: t1).length : Int) == 0) = false := by simp; omega
      clear hsec hex
      generalize hj0 : sk (xo s) false 0 = i0 at *
      generalize hjj : sk (xo s) false j = jj at *
      generalize hn : (e0 :: e1 :: t1).length = n at *
      clear hj0 hjj
      go_enter Try.func12, Try.ntmps12
      go_wp2_with fail
      refine (HH.out _).mono ?_
      rintro e w2 ⟨⟨p, c, rfl, hr2⟩, hb2⟩
      have K2 := Lib.hid (bk_tr K0.out hb2)
      have B2 := Lib.hid ((bk_block hb2 (by rw [SZ0.out]; omega)).trans NB.out)
      clear hb2 hr2
      go_wp2_with fail
      refine (A33.out _).mono ?_
      rintro e w' ⟨rfl, rfl⟩
      go_wp2_with fail
      refine (EX.out _).mono ?_
      rintro e w3 ⟨⟨p3, c3, rfl, hr3⟩, hb3⟩
      have K3 := Lib.hid (bk_alloc (bk_tr K2.out hb3) (.cells #[.string e0.a, .slice p3 e0.ts.length c3] 25))
      have B3 := Lib.hid ((bk_block (bk_alloc (BK.refl w3) (.cells #[.string e0.a, .slice p3 e0.ts.length c3] 25)) (by have h1 := bk_size K2.out; have h2 := bk_size hb3; have h3 := (Array.getElem?_eq_some_iff.1 B2.out).1; omega)).trans ((bk_block hb3 (Array.getElem?_eq_some_iff.1 B2.out).1).trans B2.out))
      have x0 := cell_of_row _ w.heap.size 0 _ 25 (0, 0) B3.out
      have x1 := cell_of_row _ w.heap.size 1 _ 25 (0, 0) B3.out
      have y0 := frozen_of_row _ w.heap.size 0 _ 25 B3.out
      have y1 := frozen_of_row _ w.heap.size 1 _ 25 B3.out
      clear hb3 hr3
      go_wp2_with fail
      refine (C33.out _).mono ?_
      rintro e w' ⟨rfl, rfl⟩
      go_wp2_with fail
      exact bodyPost_ret (v := .tuple #[.agg #[.string ⟨#[]⟩, .slice none 0 0], .int .i64 (jj : Int), .int .i64 6]) (results_ctt Try.results12 _ _ w.heap.size 25 #[.string ⟨#[]⟩, .slice none 0 0] (0, 0) _ rfl (res_set B3.out rfl _ _) Try.underlying25 rfl (by kernel_rfl) rfl rfl) rfl
        ⟨⟨none, 0, rfl, .inl ⟨rfl, fun _ => rfl⟩⟩, bk_set (bk_set K3.out _ _ (Nat.le_refl _)) _ _ (Nat.le_refl _)⟩
theorem ref12 (s : ByteArray) (hs : s.size ≤ 65536) (w : World) : Calls Try.prog 12 #[.string s] w (ONE w (parseR (xo s))) := by
  cases h : allR (xo s) with
  | ok l j => exact ref12_ok s hs w l j h
  | err j c => rw [parse_err h]; exact ref12_err s w j c (alF_c _ _ _ _ _ h) (fun w => by have := ref14 s hs w; rwa [h] at this)
theorem ref12_long (s : ByteArray) (hs : 65536 < s.size) (hm : s.size ≤ maxLen) (w : World) : Calls Try.prog 12 #[.string s] w (ONE w (zeroT, 0, 7)) :=
  ref12_err s w 0 7 (by decide) (fun w => ref14_long s hs hm w)
end Go.Proofs.Ytgiheheakgigkaa
