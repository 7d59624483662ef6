/- The reference's table: Put of a node that is there, Del of one that is not. -/
import Derived.Test.YtclefcjojlkcnaaDoorAE
namespace Go.Proofs.YtclefcjojlkcnaaDoor
open Go.RowKit
set_option linter.unusedVariables false
set_option linter.unusedSimpArgs false
set_option maxRecDepth 100000 in
set_option maxHeartbeats 8000000 in
theorem rput26_old (ms : List Nn) (n : Nn) (id : Int) (hl : ms.length ≤ 1000) (okl : ∀ m ∈ ms, m.zs.length ≤ 1000) (hn : n.zs.length ≤ 1000) (w : World) (mb : Nat) (q : Option Addr) (cap : Nat) (hT : w.cell? ⟨mb, 0, none⟩ = some (.slice q ms.length cap)) (hR : RowN w q ms) (p : Option Addr) (c : Nat) (hA : Ra w p n.zs) (hi : isA n ms = true) :
    Calls Tryd.prog 26 #[.pointer (some ⟨mb, 0, none⟩), .agg #[.int .i64 n.op, .int .i64 n.wd, .int .u64 n.vl, .string n.nm, .slice p n.zs.length c], .int .i64 id] w fun e w' => e = .returned (.bool false) ∧ BK w w' := by
  have C47 := Lib.hid (fun wc (hb : BK w wc) => rat47 ms n hl okl hn wc mb q cap (cell_bk hT hb) (hR.keep hb) p c (hA.keep hb))
  rw [hi] at C47
  have KA := Lib.hid (bk_alloc (BK.refl w) (.cells #[.int .i64 n.op, .int .i64 n.wd, .int .u64 n.vl, .string n.nm, .slice p n.zs.length c] 26))
  have BX := (b5_new w (.int .i64 n.op) (.int .i64 n.wd) (.int .u64 n.vl) (.string n.nm) (.slice p n.zs.length c) 26)
  clear hl okl hn hT hR hA hi
  obtain ⟨x0, x1, x2, x3, x4⟩ := BX
  generalize atI n ms = at_ at *
  go_enter Tryd.func26, Tryd.ntmps26
  go_wp2_with fail
  refine (C47.out _ KA.out).mono ?_
  rintro e w2 ⟨rfl, hb0⟩
  have K2 := Lib.hid (bk_tr KA.out hb0)
  clear hb0 x0 x1 x2 x3 x4
  go_wp2_with fail
  go_ret
  exact ⟨rfl, K2.out⟩
set_option maxRecDepth 100000 in
set_option maxHeartbeats 8000000 in
theorem rdel28_none (ms : List Nn) (n : Nn) (hl : ms.length ≤ 1000) (okl : ∀ m ∈ ms, m.zs.length ≤ 1000) (hn : n.zs.length ≤ 1000) (w : World) (mb : Nat) (q : Option Addr) (cap : Nat) (hT : w.cell? ⟨mb, 0, none⟩ = some (.slice q ms.length cap)) (hR : RowN w q ms) (p : Option Addr) (c : Nat) (hA : Ra w p n.zs) (hi : isA n ms = false) :
    Calls Tryd.prog 28 #[.pointer (some ⟨mb, 0, none⟩), .agg #[.int .i64 n.op, .int .i64 n.wd, .int .u64 n.vl, .string n.nm, .slice p n.zs.length c]] w fun e w' => e = .returned (.bool false) ∧ BK w w' := by
  have C47 := Lib.hid (fun wc (hb : BK w wc) => rat47 ms n hl okl hn wc mb q cap (cell_bk hT hb) (hR.keep hb) p c (hA.keep hb))
  rw [hi] at C47
  have KA := Lib.hid (bk_alloc (BK.refl w) (.cells #[.int .i64 n.op, .int .i64 n.wd, .int .u64 n.vl, .string n.nm, .slice p n.zs.length c] 26))
  have BX := (b5_new w (.int .i64 n.op) (.int .i64 n.wd) (.int .u64 n.vl) (.string n.nm) (.slice p n.zs.length c) 26)
  clear hl okl hn hT hR hA hi
  obtain ⟨x0, x1, x2, x3, x4⟩ := BX
  generalize atI n ms = at_ at *
  go_enter Tryd.func28, Tryd.ntmps28
  go_wp2_with fail
  refine (C47.out _ KA.out).mono ?_
  rintro e w2 ⟨rfl, hb0⟩
  have K2 := Lib.hid (bk_tr KA.out hb0)
  clear hb0 x0 x1 x2 x3 x4
  go_wp2_with fail
  go_ret
  exact ⟨rfl, K2.out⟩
end Go.Proofs.YtclefcjojlkcnaaDoor
