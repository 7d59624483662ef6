/- An s-expression, read. -/
import Derived.Test.YtgiheheakgigkaaE
namespace Go.Proofs.Ytgiheheakgigkaa
open Go.RowKit
set_option linter.unusedVariables false
set_option linter.unusedSimpArgs false
def zc : Obj := .cells #[.string ⟨#[]⟩, .slice none 0 0] 25
theorem Step.alloc {w0 w : World} {F F' : Nat → Prop} (h : Step w0 w F F') (o : Obj) : Step w0 (w.alloc o) F F' :=
  ⟨h.os, h.tape, h.output, by have := h.size; simp; omega, fun k hk hn => (heap_alloc_old w o (by have := h.size; omega)).trans (h.block k hk hn), h.sub⟩
theorem Step.setNew {w0 w : World} {F F' : Nat → Prop} (h : Step w0 w F F') {b : Nat} (hb : w0.heap.size ≤ b) (i : Nat) (v : Value) : Step w0 (w.setCell ⟨b, i, none⟩ v) F F' :=
  ⟨h.os, h.tape, h.output, by have := h.size; simpa [World.setCell] using this, fun k hk hn => (heap_setCell_other w ⟨b, i, none⟩ k v (fun e => by have e : k = b := e; omega)).trans (h.block k hk hn), h.sub⟩
/-- the result's cell, written -/
theorem res_set {w : World} {b : Nat} {C : Array Value} (hC : w.heap[b]? = some (.cells C 25 (0, 0))) (h2 : C.size = 2) (x y : Value) : ((w.setCell ⟨b, 0, none⟩ x).setCell ⟨b, 1, none⟩ y).heap[b]? = some (.cells #[x, y] 25 (0, 0)) := by
  rw [heap_setCell_same _ b 1 _ 25 _ (heap_setCell_same w b 0 _ 25 _ hC)]
  obtain ⟨l⟩ := C
  match l, h2 with
  | [a, b'], _ => rfl
theorem PB.setNe {w : World} {pb i b : Nat} {s : ByteArray} (h : PB w pb s i) (hb : b ≠ pb) (j : Nat) (v : Value) : PB (w.setCell ⟨b, j, none⟩ v) pb s i := (heap_setCell_other w ⟨b, j, none⟩ pb v (fun e => hb e.symm)).trans h
set_option maxRecDepth 100000 in
set_option maxHeartbeats 4000000 in
theorem expr36 (s : ByteArray) (hs : s.size ≤ 100000) (pb : Nat) : ∀ (k d : Nat), d + k = 65 → ∀ (w : World) (i : Nat), i < s.size → PB w pb s i → Calls Try.prog 36 #[.pointer (some ⟨pb, 0, none⟩), .int .i64 (d : Int)] w (EXP w pb s (exR (xo s) k i)) := by
  intro k
  induction k with
  | zero =>
    intro d hd w i hi h
    obtain rfl : d = 65 := by omega
    have h0 := Lib.hid (h.bk (bk_alloc (BK.refl w) zc))
    have c0 := h0.out.c0
    have c1 := h0.out.c1
    have S0 := Lib.hid (show Step w (w.alloc zc) (oneF pb) (oneF pb) from (Step.refl w _).alloc zc)
    have hx := idx9 hi
    have I48 := Lib.hid (fun c w => isab48 c w)
    unfold zc at h0 c0 c1 S0
    clear h hd
    unfold exR
    generalize (xo s).f i = c at *
    clear hi
    by_cases h40 : c = 40
    · subst h40
      rw [if_neg (by simp)]
      go_enter Try.func36, Try.ntmps36
      go_wp2_with fail
      go_quiet (fail)
      go_wp2_with fail
      exact ⟨rfl, rfl, S0.out.trans (step_drewN _)⟩
    · have q40 : ((c : Int) != 40) = true := nn_cast h40
      cases hab : ab c with
      | true =>
        rw [if_neg (by simp)]
        have A48 := Lib.hid (fun w => I48.out c w)
        rw [hab] at A48
        clear hab h40
        go_enter Try.func36, Try.ntmps36
        go_wp2_with fail
        go_quiet (fail)
        go_wp2_with fail
        refine (A48.out _).mono ?_
        rintro e w' ⟨rfl, rfl⟩
        go_wp2_with fail
        exact ⟨rfl, rfl, S0.out.trans (step_drewN _)⟩
      | false =>
        rw [if_pos ⟨h40, rfl⟩]
        have A48 := Lib.hid (fun w => I48.out c w)
        rw [hab] at A48
        clear hab h40
        go_enter Try.func36, Try.ntmps36
        go_wp2_with fail
        go_quiet (fail)
        go_wp2_with fail
        refine (A48.out _).mono ?_
        rintro e w' ⟨rfl, rfl⟩
        go_wp2_with fail
        exact ⟨rfl, rfl, S0.out.trans (step_drewN _)⟩
  | succ k ih =>
    intro d hd w i hi h
    have hd64 : ¬ (64 : Int) < (d : Int) := by omega
    have h0 := Lib.hid (h.bk (bk_alloc (BK.refl w) zc))
    have HLT := Lib.hid h.lt
    have c0 := h0.out.c0
    have c1 := h0.out.c1
    have S0 := Lib.hid (show Step w (w.alloc zc) (oneF pb) (oneF pb) from (Step.refl w _).alloc zc)
    have hx := idx9 hi
    have I48 := Lib.hid (fun c w => isab48 c w)
    have NB := Lib.hid (show (w.alloc zc).heap[w.heap.size]? = some (.cells #[.string ⟨#[]⟩, .slice none 0 0] 25 (0, 0)) from heap_alloc_new w zc)
    have HI := Lib.hid hi
    have IH := Lib.hid ih
    unfold exR
    unfold zc at h0 c0 c1 S0 NB
    clear h ih
    generalize hc : (xo s).f i = c at *
    have HC := Lib.hid hc
    clear hc hi
    by_cases h40 : c = 40
    · subst h40
      rw [if_neg (by simp), if_neg (by simp)]
      have fr1 := h0.out.fr 1
      have ei : IntKind.i64.wrap ((i : Int) + 1) = (i : Int) + 1 := by have := HI.out; exact IntWalk.i64_in _ (by omega)
      have ed : IntKind.i64.wrap ((d : Int) + 1) = (d : Int) + 1 := IntWalk.i64_in _ (by omega)
      have PN := Lib.hid (fun q1 => show PB (((w.alloc (.cells #[.string ⟨#[]⟩, .slice none 0 0] 25)).drewN q1).setCell ⟨pb, 1, none⟩ (.int .i64 ((i : Int) + 1))) pb s (i + 1) from (h0.out.drewN q1).set (i + 1))
      have E50 := Lib.hid (fun q1 => show Calls Try.prog 50 #[.pointer (some ⟨pb, 0, none⟩), .int .i64 ((d : Int) + 1)] (((w.alloc (.cells #[.string ⟨#[]⟩, .slice none 0 0] 25)).drewN q1).setCell ⟨pb, 1, none⟩ (.int .i64 ((i : Int) + 1))) _ from elem50 k (d + 1) (by omega) s hs pb (IH.out (d + 1) (by omega)) _ (i + 1) (s.size - i) (by have := HI.out; omega) (by have := HI.out; omega) (PN.out q1))
      rw [xo_n]
      cases hr : elF (xo s) (exR (xo s) k) (s.size - i) [] (i + 1) with
      | ok l j =>
        rw [hr] at E50
        unfold ELP at E50
        dsimp only at E50 ⊢
        clear hr
        go_enter Try.func36, Try.ntmps36
        go_wp2_with fail
        go_quiet (fail)
        go_wp2_with fail
        refine (E50.out _).mono ?_
        rintro e w3 ⟨⟨p3, c3, rfl, hr3⟩, hp3, hs3⟩
        have R3 := Lib.hid hr3
        have P3 := Lib.hid hp3
        have hb3 : w3.heap[w.heap.size]? = some (.cells #[.string ⟨#[]⟩, .slice none 0 0] 25 (0, 0)) := by
          rw [hs3.block w.heap.size (by simp [World.setCell]) (fun e => by have := HLT.out; unfold oneF at e; omega), heap_setCell_other _ ⟨pb, 1, none⟩ w.heap.size _ (fun e => by have := HLT.out; have e : w.heap.size = pb := e; omega)]
          exact NB.out
        have ST := Lib.hid (S0.out.trans (((step_drewN nq).trans (step_set 1 (.int .i64 ((i : Int) + 1)))).trans hs3))
        have SZ := Lib.hid (show w.heap.size + 1 ≤ w3.heap.size from by have := hs3.size; simp [World.setCell] at this; omega)
        have LO := Lib.hid (show ∀ q, w.heap.size < (((w.alloc (.cells #[.string ⟨#[]⟩, .slice none 0 0] 25)).drewN q).setCell ⟨pb, 1, none⟩ (.int .i64 ((i : Int) + 1))).heap.size from fun q => by simp [World.setCell])
        have x0 := cell_of_row w3 w.heap.size 0 _ 25 (0, 0) hb3
        have x1 := cell_of_row w3 w.heap.size 1 _ 25 (0, 0) hb3
        have y0 := frozen_of_row w3 w.heap.size 0 _ 25 hb3
        have y1 := frozen_of_row w3 w.heap.size 1 _ 25 hb3
        have HB3 := Lib.hid hb3
        have SS := Lib.hid (show Step w3 ((w3.setCell ⟨w.heap.size, 0, none⟩ (.string ⟨#[]⟩)).setCell ⟨w.heap.size, 1, none⟩ (.slice p3 l.length c3)) (oneF w.heap.size) (oneF w.heap.size) from (step_set 0 _).trans (step_set 1 _))
        clear hr3 hp3 hs3 hb3 c0 c1 fr1
        go_wp2_with fail
        exact bodyPost_ret (v := .agg #[.string ⟨#[]⟩, .slice p3 l.length c3]) (results_cell_row Try.results36 _ _ w.heap.size 25 #[.string ⟨#[]⟩, .slice p3 l.length c3] (0, 0) _ rfl (res_set HB3.out rfl _ _) Try.underlying25 rfl (by kernel_rfl)) rfl
          ⟨⟨p3, c3, rfl, R3.out.step SS.out (fun g hg e => by have := LO.out nq; unfold oneF at e; omega) (Nat.le_of_lt (LO.out nq))⟩, (P3.out.setNe (fun e => by have := HLT.out; omega) 0 _).setNe (fun e => by have := HLT.out; omega) 1 _, (ST.out.setNew (Nat.le_refl _) 0 _).setNew (Nat.le_refl _) 1 _⟩
      | err j c' =>
        rw [hr] at E50
        unfold ELP at E50
        dsimp only at E50 ⊢
        clear hr
        go_enter Try.func36, Try.ntmps36
        go_wp2_with fail
        go_quiet (fail)
        go_wp2_with fail
        refine (E50.out _).mono ?_
        rintro e w3 ⟨rfl, hs3⟩
        unfold pan
        go_wp2_with fail
        exact ⟨rfl, rfl, S0.out.trans (((step_drewN nq).trans (step_set 1 (.int .i64 ((i : Int) + 1)))).trans hs3)⟩
    · have q40 : ((c : Int) != 40) = true := nn_cast h40
      cases hab : ab c with
      | true =>
        rw [if_neg (by simp), if_pos h40]
        have A48 := Lib.hid (fun w => I48.out c w)
        rw [hab] at A48
        have A49 := Lib.hid (fun q1 => atom49 ((w.alloc (.cells #[.string ⟨#[]⟩, .slice none 0 0] 25)).drewN q1) pb s i (h0.out.drewN q1) hs (Nat.le_of_lt HI.out))
        unfold ATP at A49
        have XS := Lib.hid (show (xo s).s i (ae (xo s) i) = s.extract i (ae (xo s) i) from rfl)
        clear hab h40
        unfold EXP
        dsimp only
        rw [XS.out]
        generalize ae (xo s) i = j at *
        generalize s.extract i j = str at *
        go_enter Try.func36, Try.ntmps36
        go_wp2_with fail
        go_quiet (fail)
        go_wp2_with fail
        refine (A48.out _).mono ?_
        rintro e w' ⟨rfl, rfl⟩
        go_wp2_with fail
        refine (A49.out _).mono ?_
        rintro e w3 ⟨rfl, hp3, hs3⟩
        have P3 := Lib.hid hp3
        have hb3 : w3.heap[w.heap.size]? = some (.cells #[.string ⟨#[]⟩, .slice none 0 0] 25 (0, 0)) := by
          rw [hs3.block w.heap.size (by simp) (fun e => by have := HLT.out; unfold oneF at e; omega)]
          exact NB.out
        have ST := Lib.hid (S0.out.trans ((step_drewN nq).trans hs3))
        have x0 := cell_of_row w3 w.heap.size 0 _ 25 (0, 0) hb3
        have x1 := cell_of_row w3 w.heap.size 1 _ 25 (0, 0) hb3
        have y0 := frozen_of_row w3 w.heap.size 0 _ 25 hb3
        have y1 := frozen_of_row w3 w.heap.size 1 _ 25 hb3
        have HB3 := Lib.hid hb3
        clear hp3 hs3 hb3 c0 c1
        go_wp2_with fail
        exact bodyPost_ret (v := .agg #[.string str, .slice none 0 0]) (results_cell_row Try.results36 _ _ w.heap.size 25 #[.string str, .slice none 0 0] (0, 0) _ rfl (res_set HB3.out rfl _ _) Try.underlying25 rfl (by kernel_rfl)) rfl
          ⟨⟨none, 0, rfl, .inl ⟨rfl, fun _ => rfl⟩⟩, (P3.out.setNe (fun e => by have := HLT.out; omega) 0 _).setNe (fun e => by have := HLT.out; omega) 1 _, (ST.out.setNew (Nat.le_refl _) 0 _).setNew (Nat.le_refl _) 1 _⟩
      | false =>
        rw [if_pos ⟨h40, rfl⟩]
        have A48 := Lib.hid (fun w => I48.out c w)
        rw [hab] at A48
        clear hab h40
        go_enter Try.func36, Try.ntmps36
        go_wp2_with fail
        go_quiet (fail)
        go_wp2_with fail
        refine (A48.out _).mono ?_
        rintro e w' ⟨rfl, rfl⟩
        go_wp2_with fail
        exact ⟨rfl, rfl, S0.out.trans (step_drewN _)⟩
end Go.Proofs.Ytgiheheakgigkaa
