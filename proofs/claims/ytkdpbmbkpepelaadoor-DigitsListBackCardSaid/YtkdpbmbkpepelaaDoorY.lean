/- What the rows' list of variables gives; a world in which they lie; arguments opened. -/
import Derived.Test.YtkdpbmbkpepelaaDoorCards
import Derived.Test.YtkdpbmbkpepelaaDoorTie
import Derived.Test.YtkdpbmbkpepelaaDoorX
import Derived.ProofKit
import Derived.OpenShut
import Derived.ShutString
import Derived.ChangeOld
import Derived.ChangeMaps5
import Derived.Below
import Derived.Deep.DeepHandedRow
import Derived.Lib.LaidTab
import Derived.Lib.TrailingZeros
import Derived.Stop.LaidErr
import Derived.Lib.SmallJoins
import Derived.Deep.Slices
import Derived.ChangeSame
namespace Go.Proofs.YtkdpbmbkpepelaaDoor
open Go.ChangeShapes Go.WideShapes Go.ChangeAt Go.RowKit Go.Deep
set_option linter.unusedVariables false
set_option linter.unusedSimpArgs false
theorem own : ownKnob Tryd.prog.godebug = none := by kernel_rfl
theorem laidOut : laidOutB Tryd.prog = true := by kernel_rfl
theorem gPow : Tryd.prog.globalNamed "internal/strconv.uint64pow10" = some 0 := by kernel_rfl
theorem gPowType : (Tryd.prog.globals[0]?).map (·.type) = some 83 := by kernel_rfl
theorem cells83 : Tryd.prog.cellsOf 83 = 20 := by kernel_rfl
theorem cells22 : Tryd.prog.cellsOf 22 = 1 := by kernel_rfl
theorem gBru : Tryd.prog.globalNamed "math/bits.deBruijn64tab" = some 7 := by kernel_rfl
theorem gBruType : (Tryd.prog.globals[7]?).map (·.type) = some 103 := by kernel_rfl
theorem cells103 : Tryd.prog.cellsOf 103 = 64 := by kernel_rfl
theorem cells5 : Tryd.prog.cellsOf 5 = 1 := by kernel_rfl
theorem gRng : Tryd.prog.globalNamed "strconv.ErrRange" = some 2 := by kernel_rfl
theorem gRngType : (Tryd.prog.globals[2]?).map (·.type) = some 48 := by kernel_rfl
theorem cells96 : Tryd.prog.cellsOf 96 = 1 := by kernel_rfl
theorem cells9 : Tryd.prog.cellsOf 9 = 1 := by kernel_rfl
theorem starErr : "*" ++ "errors.errorString" = "*errors.errorString" := by decide
theorem nameErr (u : TypeId) (h : Tryd.prog.typeName? 3 u = some "*errors.errorString") : u = 94 :=
  typeName_ptr_named (nm := "errors.errorString") (by rw [starErr]; kernel_rfl) (by kernel_rfl) (by decide) u (by rw [starErr]; exact h)
abbrev listed : List (String × DataW Unit) := [("math/bits.deBruijn32tab", Rows.laid_math_bits_deBruijn32tab), ("math/bits.deBruijn64tab", Rows.laid_math_bits_deBruijn64tab), ("internal/strconv.uint64pow10", Rows.laid_internal_strconv_uint64pow10), ("unicode/utf8.acceptRanges", Rows.laid_unicode_utf8_acceptRanges), ("strconv.ErrRange", Rows.laid_strconv_ErrRange), ("strconv.ErrSyntax", Rows.laid_strconv_ErrSyntax), ("unicode/utf8.first", Rows.laid_unicode_utf8_first)]
theorem tb_of {W : World} (h : laidMet Tryd.prog listed W) : Tb W := by
  have h1 := laidMet.tail h
  have h2 := h1.tail
  have h4 := h2.tail.tail
  rw [show (Rows.laid_math_bits_deBruijn64tab : DataW Unit) = Lib.tabData .u8 (Lib.deBruijn64tab.map Int.ofNat) from by kernel_rfl] at h1
  rw [show (Rows.laid_internal_strconv_uint64pow10 : DataW Unit) = Lib.tabData .u64 Lib.pow10Tab from by kernel_rfl] at h2
  refine ⟨Lib.tabIs_of_head (zs := Lib.pow10Tab) gPow gPowType Tryd.underlying83 Tryd.underlying22 cells22 cells83 h2, ?_, ?_⟩
  · have := (Lib.tabIs_of_head gBru gBruType Tryd.underlying103 Tryd.underlying5 cells5 cells103 h1).cell gBru 15 (by decide)
    exact this
  · obtain ⟨a, s, hv, _⟩ := laid_sentinel h4 gRng gRngType Tryd.underlying48 nameErr Tryd.underlying94 Tryd.underlying96 rfl rfl Tryd.underlying9 cells96 cells9
    exact ⟨_, _, by simpa using World.var?_cell gRng hv 0⟩
/-- a block with other cells -/
def withCells (cs : Array Value) : Obj → Obj
  | .cells _ t frozen => .cells cs t frozen
  | o => o
noncomputable def low : Nat := (World.holding Tryd.prog default ⟨#[], #[], []⟩).heap.size
/-- a world for the witness: the settled one, two errors in blocks of their own, the listed variables as their initialisers lay them -/
noncomputable def laidWorld (os : Os) : World :=
  { World.holding Tryd.prog os ⟨#[.cells #[.string ⟨#[105, 110, 118, 97, 108, 105, 100, 32, 115, 121, 110, 116, 97, 120]⟩] 96, .cells #[.string ⟨#[118, 97, 108, 117, 101, 32, 111, 117, 116, 32, 111, 102, 32, 114, 97, 110, 103, 101]⟩] 96], #[], []⟩ with
    heap := (((((((World.holding Tryd.prog os ⟨#[.cells #[.string ⟨#[105, 110, 118, 97, 108, 105, 100, 32, 115, 121, 110, 116, 97, 120]⟩] 96, .cells #[.string ⟨#[118, 97, 108, 117, 101, 32, 111, 117, 116, 32, 111, 102, 32, 114, 97, 110, 103, 101]⟩] 96], #[], []⟩).heap.modify 0 (withCells (Lib.pow10Tab.map (Value.int .u64)).toArray)).modify 1 (withCells #[.iface 94 (.pointer (some ⟨low, 0, none⟩))])).modify 2 (withCells #[.iface 94 (.pointer (some ⟨low + 1, 0, none⟩))])).modify 3 (withCells (Go.Pinned.utf8FirstZ.map (fun n : Nat => Value.int .u8 (n : Int))).toArray)).modify 4 (withCells #[.int .u8 128, .int .u8 191, .int .u8 160, .int .u8 191, .int .u8 128, .int .u8 159, .int .u8 144, .int .u8 191, .int .u8 128, .int .u8 143, .int .u8 0, .int .u8 0, .int .u8 0, .int .u8 0, .int .u8 0, .int .u8 0, .int .u8 0, .int .u8 0, .int .u8 0, .int .u8 0, .int .u8 0, .int .u8 0, .int .u8 0, .int .u8 0, .int .u8 0, .int .u8 0, .int .u8 0, .int .u8 0, .int .u8 0, .int .u8 0, .int .u8 0, .int .u8 0])).modify 6 (withCells (Lib.deBruijn32tab.map (fun n : Nat => Value.int .u8 (n : Int))).toArray)).modify 7 (withCells (Lib.deBruijn64tab.map (fun n : Nat => Value.int .u8 (n : Int))).toArray) }
/-! arguments opened -/
theorem in64_of {n : Int} (h : (Lit.int .i64 n).wf = true) : In64 n := by
  simp [Lit.wf, IntKind.min, IntKind.max, IntKind.signed, IntKind.bits] at h
  exact ⟨by omega, by omega⟩
theorem u64_of {n : Int} (h : (Lit.int .u64 n).wf = true) : ∃ u : Nat, n = (u : Int) ∧ u < 18446744073709551616 := by
  simp [Lit.wf, IntKind.min, IntKind.max, IntKind.signed, IntKind.bits] at h
  exact ⟨n.toNat, by omega, by omega⟩
section
variable {H : Type} {enc : TypeId × Value → H} {w : World} {base : Nat}
theorem ints_cell {n : Nat} {c : Value} {x : DataW H × List MemPlace} (h : DataW.trod enc Tryd.prog w base (fun _ => true) true n 33 [c] = some x) :
    ∃ p cap zs, c = .slice p (List.length zs) cap ∧ (∀ z ∈ zs, In64 z) ∧ Ra w p zs := by
  rcases open_ints Tryd.underlying33 Tryd.underlying3 (by kernel_rfl) h with ⟨hcs, _⟩ | ⟨x, l, cap, zs, hcs, _, hl, hm, hz, _, hcell, hwz⟩
  · simp at hcs
    exact ⟨none, 0, [], hcs, fun z hz => by simp at hz, fun h => by simp at h⟩
  · simp at hcs
    have hzl : zs.length = cap := by simpa using hz
    have hlen : (zs.take l).length = l := by simp; omega
    refine ⟨some x, cap, zs.take l, by rw [hlen]; exact hcs, fun z hz => in64_of (hwz _ (List.mem_of_mem_take hz)), fun h0 => ?_⟩
    rw [hlen] at h0
    have c0 := hcell 0 (by omega)
    have e0 : x.add 0 = x := by simp [Addr.add]
    rw [e0] at c0
    obtain ⟨b, off, sp⟩ := x
    have hsp : sp = none := by
      cases sp with
      | none => rfl
      | some s => exfalso; unfold World.cell? at c0; split at c0 <;> simp at c0
    subst hsp
    refine ⟨b, off, rfl, World.block_lt_of_cell? w _ c0, fun k hk => ?_⟩
    rw [hlen] at hk
    have := hcell k (by omega)
    rw [show (⟨b, off, none⟩ : Addr).add k = ⟨b, off + k, none⟩ from Go.WideShapes.add_plain _ _ _] at this
    rw [this]
    simp [List.getD_eq_getElem?_getD, List.getElem?_take, hk]
end
set_option maxRecDepth 4000 in
theorem open_list {H : Type} {enc : TypeId × Value → H} {w : World} {base : Nat} {v : Value} {d : DataW H} {p : List MemPlace} {r : Reach} (hv : Value.okWide Tryd.prog w r base 33 v) (h : DataW.Trod enc Tryd.prog w 0 (fun _ => true) true 33 v d p) :
    ∃ q cap zs, v = .slice q (List.length zs) cap ∧ (∀ z ∈ zs, In64 z) ∧ Ra w q zs := by
  obtain ⟨a, len, cap, rfl⟩ := okWide_slice Tryd.underlying33 hv
  obtain ⟨fuel, hf⟩ := h
  exact ints_cell (c := .slice a len cap) hf
end Go.Proofs.YtkdpbmbkpepelaaDoor
