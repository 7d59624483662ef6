/- The reference: one s-expression; too deep, an atom. -/
import Derived.Test.YtgiheheakgigkaaJ
namespace Go.Proofs.Ytgiheheakgigkaa
open Go.RowKit
set_option linter.unusedVariables false
set_option linter.unusedSimpArgs false
set_option maxRecDepth 100000 in
set_option maxHeartbeats 4000000 in
theorem one32_deep (s : ByteArray) (w : World) (i : Nat) (hi : i < s.size) (h : (xo s).f i = 40 ∨ ab ((xo s).f i) = true) : Calls Try.prog 32 #[.string s, .int .i64 (i : Int), .int .i64 64] w (ONP w (.err i 7)) := by
  have hx := idx9 hi
  have K0 := Lib.hid (bk_alloc (BK.refl w) zc)
  have NB := Lib.hid (show (w.alloc zc).heap[w.heap.size]? = some (.cells #[.string ⟨#[]⟩, .slice none 0 0] 25 (0, 0)) from heap_alloc_new w zc)
  have B46 := Lib.hid (fun c w => byte46 c w)
  unfold zc at K0 NB
  generalize (xo s).f i = c at *
  have A46 := Lib.hid (fun w => B46.out c w)
  by_cases h40 : c = 40
  · subst h40
    clear h
    go_enter Try.func32, Try.ntmps32
    go_wp2_with fail
    exact bodyPost_ret (v := .tuple #[.agg #[.string ⟨#[]⟩, .slice none 0 0], .int .i64 (i : Int), .int .i64 7]) (results_ctt Try.results32 _ _ w.heap.size 25 #[.string ⟨#[]⟩, .slice none 0 0] (0, 0) _ rfl NB.out Try.underlying25 rfl (by kernel_rfl) rfl rfl) rfl ⟨rfl, K0.out⟩
  · have hab : ab c = true := h.resolve_left h40
    rw [hab] at A46
    have q41 : ((c : Int) == 41) = false := ne_cast (fun e => by subst e; revert hab; decide)
    have q40 : ((c : Int) != 40) = true := nn_cast h40
    clear hab h40 h
    go_enter Try.func32, Try.ntmps32
    go_wp2_with fail
    refine (A46.out _).mono ?_
    rintro e w' ⟨rfl, rfl⟩
    go_wp2_with fail
    exact bodyPost_ret (v := .tuple #[.agg #[.string ⟨#[]⟩, .slice none 0 0], .int .i64 (i : Int), .int .i64 7]) (results_ctt Try.results32 _ _ w.heap.size 25 #[.string ⟨#[]⟩, .slice none 0 0] (0, 0) _ rfl NB.out Try.underlying25 rfl (by kernel_rfl) rfl rfl) rfl ⟨rfl, K0.out⟩
set_option maxRecDepth 100000 in
set_option maxHeartbeats 4000000 in
theorem one32_atom (s : ByteArray) (hs : s.size ≤ 100000) (w : World) (i op : Nat) (hi : i < s.size) (hop : op < 64) (h40 : (xo s).f i ≠ 40) (hab : ab ((xo s).f i) = true) : Calls Try.prog 32 #[.string s, .int .i64 (i : Int), .int .i64 (op : Int)] w (ONP w (.ok (.mk ((xo s).s i (ae (xo s) i)) []) (ae (xo s) i))) := by
  have hx := idx9 hi
  have K0 := Lib.hid (bk_alloc (BK.refl w) zc)
  have NB := Lib.hid (show (w.alloc zc).heap[w.heap.size]? = some (.cells #[.string ⟨#[]⟩, .slice none 0 0] 25 (0, 0)) from heap_alloc_new w zc)
  have B46 := Lib.hid (fun c w => byte46 c w)
  have A47 := Lib.hid (fun w => atom47 w s hs i (Nat.le_of_lt hi))
  have XS := Lib.hid (show (xo s).s i (ae (xo s) i) = s.extract i (ae (xo s) i) from rfl)
  have hij : (i : Int) ≤ ((ae (xo s) i : Nat) : Int) := by have := ae_ge (xo s) i; omega
  have hjn : ((ae (xo s) i : Nat) : Int) ≤ (s.size : Int) := by have := ae_le (xo s) (i := i) (Nat.le_of_lt hi); rw [xo_n] at this; omega
  have hop2 : ¬ (64 : Int) ≤ (op : Int) := by omega
  rw [XS.out]
  unfold zc at K0 NB
  generalize hc : (xo s).f i = c at *
  generalize ae (xo s) i = j at *
  have A46 := Lib.hid (fun w => B46.out c w)
  rw [hab] at A46
  have q41 : ((c : Int) == 41) = false := ne_cast (fun e => by subst e; revert hab; decide)
  have q40 : ((c : Int) != 40) = true := nn_cast h40
  clear hab h40 hc hop
  go_enter Try.func32, Try.ntmps32
  go_wp2_with fail
  refine (A46.out _).mono ?_
  rintro e w' ⟨rfl, rfl⟩
  go_wp2_with fail
  refine (A47.out _).mono ?_
  rintro e w' ⟨rfl, rfl⟩
  have NB1 := cell_of_row _ w.heap.size 0 _ 25 (0, 0) NB.out
  go_wp2_with fail
  exact bodyPost_ret (v := .tuple #[.agg #[.string (s.extract i j), .slice none 0 0], .int .i64 (j : Int), .int .i64 0]) (results_ctt Try.results32 _ _ w.heap.size 25 #[.string (s.extract i j), .slice none 0 0] (0, 0) _ rfl (heap_alloc_new w _) Try.underlying25 rfl (by kernel_rfl) rfl rfl) rfl ⟨⟨none, 0, rfl, .inl ⟨rfl, fun _ => rfl⟩⟩, bk_alloc (BK.refl w) _⟩
end Go.Proofs.Ytgiheheakgigkaa
