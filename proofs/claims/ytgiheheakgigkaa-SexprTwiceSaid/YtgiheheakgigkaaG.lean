/- The closure that recovers. -/
import Derived.Test.YtgiheheakgigkaaF
import Derived.Defers
import Derived.Recover
import Derived.BigRegion
namespace Go.Proofs.Ytgiheheakgigkaa
open Go.RowKit
set_option linter.unusedVariables false
set_option linter.unusedSimpArgs false
def failV (j c : Nat) : Value := .iface 48 (.agg #[.int .i64 (j : Int), .int .i64 (c : Int)])
theorem hta (a b : Value) (w : World) : (Instr.typeAssert (.iface 48 (.agg #[a, b])) 20 48 true).run Try.prog w = .ok (.tuple #[.agg #[a, b], .bool true]) w := by kernel_rfl
theorem htn (w : World) : (Instr.typeAssert .nilIface 20 48 true).run Try.prog w = .ok (.tuple #[.agg #[.int .i64 0, .int .i64 0], .bool false]) w := by kernel_rfl
theorem rep12 : (Array.replicate 12 undef : Array Value) = #[undef, undef, undef, undef, undef, undef, undef, undef, undef, undef, undef, undef] := rfl
set_option maxHeartbeats 400000 in
theorem catch_idle (a b c : Nat) (w : World) :
    CallsD Try.prog 34 #[.pointer (some ⟨a, 0, none⟩), .pointer (some ⟨b, 0, none⟩), .pointer (some ⟨c, 0, none⟩)] .returning w fun e u' w' => e = .returned (.tuple #[]) ∧ u' = .returning ∧ w' = w.alloc (.cells #[.int .i64 0, .int .i64 0] 48) := by
  refine callsD_of_wpS Try.func34 rfl fun c₀ cs hu => ?_
  apply wpS_seq
  apply wpS_region
  simp [wpOpsS, go_sem, recoverD, hu, Try.ntmps34, Exit.thenS, htn]
  refine wpS_of_wp ?_
  rw [rep12]
  simp
  go_wp2_with fail
  cases c₀
  simp_all [bodyPostS, results, Try.results34]
/-- the world behind a recovered panic -/
def CW (w : World) (a b c j cd : Nat) : World := (((w.alloc (.cells #[.int .i64 (j : Int), .int .i64 (cd : Int)] 48)).setCell ⟨a, 0, none⟩ (.slice none 0 0)).setCell ⟨b, 0, none⟩ (.int .i64 (j : Int))).setCell ⟨c, 0, none⟩ (.int .i64 (cd : Int))
set_option maxRecDepth 100000 in
set_option maxHeartbeats 2000000 in
theorem catch_panicking (a b c : Nat) (j cd : Nat) (w : World) (x y z : Value) (ha : w.cell? ⟨a, 0, none⟩ = some x) (hb : w.cell? ⟨b, 0, none⟩ = some y) (hc : w.cell? ⟨c, 0, none⟩ = some z) (fa : w.frozen? ⟨a, 0, none⟩ = false) (fb : w.frozen? ⟨b, 0, none⟩ = false) (fc : w.frozen? ⟨c, 0, none⟩ = false)
    (h1 : a ≠ b) (h2 : a ≠ c) (h3 : b ≠ c) :
    CallsD Try.prog 34 #[.pointer (some ⟨a, 0, none⟩), .pointer (some ⟨b, 0, none⟩), .pointer (some ⟨c, 0, none⟩)] (.panicking [{ v := failV j cd, recovered := false }]) w fun e u' w' =>
      e = .returned (.tuple #[]) ∧ u' = .panicking [{ v := failV j cd, recovered := true }] ∧ w' = (CW w a b c j cd).drew := by
  have l1 : a < w.heap.size := World.block_lt_of_cell? w _ ha
  have l2 : b < w.heap.size := World.block_lt_of_cell? w _ hb
  have l3 : c < w.heap.size := World.block_lt_of_cell? w _ hc
  have n1 : w.heap.size ≠ a := by omega
  have n2 : w.heap.size ≠ b := by omega
  have n3 : w.heap.size ≠ c := by omega
  have m1 : a ≠ w.heap.size := by omega
  have m2 : b ≠ w.heap.size := by omega
  have m3 : c ≠ w.heap.size := by omega
  have g1 : b ≠ a := fun e => h1 e.symm
  have g2 : c ≠ a := fun e => h2 e.symm
  have g3 : c ≠ b := fun e => h3 e.symm
  have KB := bk_alloc (BK.refl w) (.cells #[.int .i64 (j : Int), .int .i64 (cd : Int)] 48)
  have A0 := cellBk ha KB
  have B0 := cellBk hb KB
  have C0 := cellBk hc KB
  have FA : (w.alloc (.cells #[.int .i64 (j : Int), .int .i64 (cd : Int)] 48)).frozen? ⟨a, 0, none⟩ = false := (World.frozen?_alloc_old w _ ⟨a, 0, none⟩ m1).trans fa
  have FB : (w.alloc (.cells #[.int .i64 (j : Int), .int .i64 (cd : Int)] 48)).frozen? ⟨b, 0, none⟩ = false := (World.frozen?_alloc_old w _ ⟨b, 0, none⟩ m2).trans fb
  have FC : (w.alloc (.cells #[.int .i64 (j : Int), .int .i64 (cd : Int)] 48)).frozen? ⟨c, 0, none⟩ = false := (World.frozen?_alloc_old w _ ⟨c, 0, none⟩ m3).trans fc
  have X0 : (w.alloc (.cells #[.int .i64 (j : Int), .int .i64 (cd : Int)] 48)).cell? ⟨w.heap.size, 0, none⟩ = some (.int .i64 (j : Int)) := by simp
  have X1 : (w.alloc (.cells #[.int .i64 (j : Int), .int .i64 (cd : Int)] 48)).cell? ⟨w.heap.size, 1, none⟩ = some (.int .i64 (cd : Int)) := by simp
  unfold CW
  unfold failV
  refine callsD_of_wpS Try.func34 rfl fun c₀ cs hu => ?_
  apply wpS_seq
  apply wpS_region
  simp [wpOpsS, go_sem, recoverD, hu, Try.ntmps34, Exit.thenS, hta]
  refine wpS_of_wp ?_
  rw [rep12]
  simp
  go_wp2_with fail
  clear KB ha hb hc fa fb fc l1 l2 l3
  generalize hW : w.alloc (.cells #[.int .i64 (j : Int), .int .i64 (cd : Int)] 48) = W at *
  generalize hz : w.heap.size = fb at *
  have HW := Lib.hid hW
  clear hW hz
  go_region
  exact ⟨rfl, _, rfl, .tuple #[], by simp [results, Try.results34], rfl, rfl, by rw [HW.out]⟩
end Go.Proofs.Ytgiheheakgigkaa
