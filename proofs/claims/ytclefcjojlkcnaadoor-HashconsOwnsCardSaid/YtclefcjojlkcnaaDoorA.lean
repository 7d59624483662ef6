/- A table that New did not make. -/
import Derived.Test.YtclefcjojlkcnaaDoorRows
import Derived.WalkKit
import Derived.WalkSpells
import Derived.WalkLawsBesides
import Derived.Lib.Hide
import Derived.LaidEqlPtr
import Derived.RowKit
import Derived.Below
namespace Go.Proofs.YtclefcjojlkcnaaDoor
open Go.RowKit
set_option linter.unusedVariables false
/-- not made by New: nil, or a block that does not name itself -/
def Bare (w : World) (p : Option Addr) : Prop := p = none ∨ ∃ b, p = some ⟨b, 0, none⟩ ∧ w.cell? ⟨b, 0, none⟩ = some (.pointer none)
set_option maxHeartbeats 1000000 in
theorem usable_bare (p : Option Addr) (w : World) (h : Bare w p) : Calls Tryd.prog 46 #[.pointer p] w fun e w' => e = .returned (.bool false) ∧ w = w' := by
  rcases h with rfl | ⟨b, rfl, hc⟩
  · go_enter Tryd.func46, Tryd.ntmps46
    go_wp2_with fail
    go_ret
    exact ⟨rfl, rfl⟩
  · have he : (binOp .eql 40 (.pointer none) (.pointer (some ⟨b, 0, none⟩))).run Tryd.prog w = .ok (.bool false) w := by kernel_rfl
    go_enter Tryd.func46, Tryd.ntmps46
    go_wp2_with fail
    go_ret
    exact ⟨rfl, rfl⟩
set_option maxHeartbeats 1000000 in
theorem len_bare (p : Option Addr) (w : World) (h : Bare w p) : Calls Tryd.prog 31 #[.pointer p] w fun e w' => e = .returned (.int .i64 0) ∧ w = w' := by
  have hu := Lib.hid (usable_bare p w h)
  clear h
  go_enter Tryd.func31, Tryd.ntmps31
  go_wp2_with (go_at_call 46; refine hu.out.mono ?_; rintro e w' ⟨rfl, rfl⟩)
  go_ret
  exact ⟨rfl, rfl⟩
set_option maxHeartbeats 1000000 in
theorem nodes_bare (p : Option Addr) (w : World) (h : Bare w p) : Calls Tryd.prog 33 #[.pointer p] w fun e w' => e = .returned (.slice none 0 0) ∧ w = w' := by
  have hu := Lib.hid (usable_bare p w h)
  clear h
  go_enter Tryd.func33, Tryd.ntmps33
  go_wp2_with (go_at_call 46; refine hu.out.mono ?_; rintro e w' ⟨rfl, rfl⟩)
  go_ret
  exact ⟨rfl, rfl⟩
theorem Bare.alloc {w : World} {p : Option Addr} (h : Bare w p) (o : Obj) : Bare (w.alloc o) p := by
  rcases h with rfl | ⟨b, rfl, hc⟩
  · exact .inl rfl
  · exact .inr ⟨b, rfl, Lib.cell?_alloc_some _ hc⟩
theorem below_alloc (w : World) (o : Obj) : Below w.heap.size w (w.alloc o) := (Below.refl _ _).alloc (Nat.le_refl _) o
set_option maxHeartbeats 1000000 in
theorem get_bare (p : Option Addr) (op wd vl : Int) (name : ByteArray) (args : Value) (w : World) (h : Bare w p) : Calls Tryd.prog 29 #[.pointer p, .agg #[.int .i64 op, .int .i64 wd, .int .u64 vl, .string name, args]] w fun e w' => e = .returned (.tuple #[.int .i64 0, .bool false]) ∧ Below w.heap.size w w' := by
  have hu := Lib.hid (fun o => usable_bare p (w.alloc o) (h.alloc o))
  have hb := Lib.hid (below_alloc w)
  clear h
  go_enter Tryd.func29, Tryd.ntmps29
  go_wp2_with (go_at_call 46; refine (hu.out _).mono ?_; rintro e w' ⟨rfl, rfl⟩)
  go_ret2
  exact ⟨rfl, hb.out _⟩
set_option maxHeartbeats 1000000 in
theorem put_bare (p : Option Addr) (op wd vl : Int) (name : ByteArray) (args : Value) (id : Int) (w : World) (h : Bare w p) : Calls Tryd.prog 25 #[.pointer p, .agg #[.int .i64 op, .int .i64 wd, .int .u64 vl, .string name, args], .int .i64 id] w fun e w' => e = .returned (.bool false) ∧ Below w.heap.size w w' := by
  have hu := Lib.hid (fun o => usable_bare p (w.alloc o) (h.alloc o))
  have hb := Lib.hid (below_alloc w)
  clear h
  go_enter Tryd.func25, Tryd.ntmps25
  go_wp2_with (go_at_call 46; refine (hu.out _).mono ?_; rintro e w' ⟨rfl, rfl⟩)
  go_ret
  exact ⟨rfl, hb.out _⟩
set_option maxHeartbeats 1000000 in
theorem del_bare (p : Option Addr) (op wd vl : Int) (name : ByteArray) (args : Value) (w : World) (h : Bare w p) : Calls Tryd.prog 27 #[.pointer p, .agg #[.int .i64 op, .int .i64 wd, .int .u64 vl, .string name, args]] w fun e w' => e = .returned (.bool false) ∧ Below w.heap.size w w' := by
  have hu := Lib.hid (fun o => usable_bare p (w.alloc o) (h.alloc o))
  have hb := Lib.hid (below_alloc w)
  clear h
  go_enter Tryd.func27, Tryd.ntmps27
  go_wp2_with (go_at_call 46; refine (hu.out _).mono ?_; rintro e w' ⟨rfl, rfl⟩)
  go_ret
  exact ⟨rfl, hb.out _⟩
end Go.Proofs.YtclefcjojlkcnaaDoor
