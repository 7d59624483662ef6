/- The text that a key begins with, and what is appended to it. -/
import Derived.Test.YtclefcjojlkcnaaDoorA
import Derived.Test.YtclefcjojlkcnaaDoorShelf
import Derived.Deep.DeepMust
import Derived.Deep.AppendLies
import Derived.Deep.RegionHeld3
import Derived.Deep.RegionWith
import Derived.Deep.QuietTactic
import Derived.BigQuiet
import Derived.WalkSmall
import Derived.IntWalk
import Derived.Lib.AppendStr
import Derived.Lib.ItoaLen
import Derived.Lib.ItoaMem
namespace Go.Proofs.YtclefcjojlkcnaaDoor
open Go.RowKit
set_option linter.unusedVariables false
set_option linter.unusedSimpArgs false
theorem ret_bool {a b : Bool} (h : a = b) : Ending.returned (.bool a) = .returned (.bool b) := by rw [h]
theorem below_chain {a b c : World} (h : Below a.heap.size a b) (k : Below b.heap.size b c) : Below a.heap.size a c := h.trans (k.mono h.size)
def BK (w0 w' : World) : Prop := Below w0.heap.size w0 w'
theorem BK.refl (w : World) : BK w w := Below.refl _ _
theorem bk_drew {w0 wc : World} (h : BK w0 wc) : BK w0 wc.drew := below_drewN (B := w0.heap.size) (a := w0) (w := wc) h 1
theorem bk_tr {a b c : World} (h : BK a b) (k : BK b c) : BK a c := below_chain h k
theorem bk_alloc {w0 w : World} (h : BK w0 w) (o : Obj) : BK w0 (w.alloc o) := by
  have h : Below w0.heap.size w0 w := h
  exact h.alloc h.size o
theorem bk_size {w0 w : World} (h : BK w0 w) : w0.heap.size ≤ w.heap.size := by
  have h : Below w0.heap.size w0 w := h
  exact h.size
/-- the table of powers stands -/
def Tb (w : World) : Prop := Lib.TabIs Tryd.prog w "internal/strconv.uint64pow10" .u64 Lib.pow10Tab
theorem Tb.keep {w w' : World} (h : Tb w) (hb : BK w w') : Tb w' := (Lib.tabBelow_of_tabIs h) w' hb
theorem own_at {w w' : World} {B e sz n : Nat} {v : Value} {xs : List Value} (o : w.ownsRow B e sz v n xs) (h : ∀ k, v.ownBlock = some k → w'.heap[k]? = w.heap[k]?) : w'.ownsRow B e sz v n xs := by
  refine ⟨o.1, ?_⟩
  rcases o.2 with hn | ⟨g, cap, cur, hv, hb, hg, rest⟩
  · exact .inl hn
  · exact .inr ⟨g, cap, cur, hv, hb, (h g (by rw [hv]; rfl)).trans hg, rest⟩
theorem own_below {w w' : World} {B e sz n : Nat} {v : Value} {xs : List Value} (o : w.ownsRow B e sz v n xs) (hb : BK w w') : w'.ownsRow B e sz v n xs :=
  own_at o fun k hk => (show Below w.heap.size w w' from hb).block k (o.lt k hk).2
theorem bc_append (l m : List UInt8) : Lib.byteCells (l ++ m) = Lib.byteCells l ++ Lib.byteCells m := by simp [Lib.byteCells]
/-- v holds the bytes l, in memory made since w0 -/
structure KS (w0 w : World) (v : Value) (n : Nat) (l : List UInt8) : Prop where
  row : w.ownsRow w0.heap.size 5 1 v n (Lib.byteCells l)
  len : l.length = n
  bel : BK w0 w
def KP (w0 : World) (l : List UInt8) (e : Ending) (w' : World) : Prop := ∃ v', e = .returned v' ∧ KS w0 w' v' l.length l
theorem dec_len (u : Nat) (h : u < 18446744073709551616) : (Lib.decDigits u).length ≤ 21 := by
  rw [Lib.decDigits_length]; have := Lib.nDigits_le20 u h; omega
theorem int_any {w0 wc : World} {v : Value} {n : Nat} {l : List UInt8} (i : Int) (K : KS w0 wc v n l) (ht : Tb w0) (h0 : -9223372036854775808 ≤ i) (h1 : i ≤ 9223372036854775807) (hn : n ≤ 100000000) :
    Calls Tryd.prog 42 #[v, .int .i64 i, .int .i64 10] wc (KP w0 (l ++ Lib.itoa i)) := by
  refine (Tryd.strconv_AppendInt_10 w0.heap.size n i h0 h1 v _ wc K.row (bk_size K.bel) (by omega) (fun w' hb => ht.keep (Below.trans (show Below w0.heap.size w0 wc from K.bel) hb))).mono ?_
  rintro e w' ⟨v', rfl, ho, hb, _⟩
  refine ⟨v', rfl, ?_, rfl, Below.trans (show Below w0.heap.size w0 wc from K.bel) hb⟩
  rw [bc_append, List.length_append, K.len]
  exact ho
set_option maxHeartbeats 1000000 in
theorem uint_any {w0 wc : World} {v : Value} {n : Nat} {l : List UInt8} (u : Nat) (K : KS w0 wc v n l) (ht : Tb w0) (h1 : u < 18446744073709551616) (hn : n ≤ 100000000) :
    Calls Tryd.prog 43 #[v, .int .u64 u, .int .i64 10] wc (KP w0 (l ++ Lib.decDigits u)) := by
  have hc := Tryd.internal_strconv_AppendUint_10 w0.heap.size n u h1 v _ wc K.row (bk_size K.bel) (by omega) (ht.keep K.bel)
  have HC := Lib.hid hc
  have KK := Lib.hid K
  clear hc K h1
  go_enter Tryd.func43, Tryd.ntmps43
  go_wp2_with fail
  refine HC.out.mono ?_
  rintro e w' ⟨v', rfl, ho, hb, _⟩
  have fin : KS w0 w' v' (l ++ Lib.decDigits u).length (l ++ Lib.decDigits u) := by
    refine ⟨?_, rfl, Below.trans (show Below w0.heap.size w0 wc from KK.out.bel) hb⟩
    rw [bc_append, List.length_append, KK.out.len]
    exact ho
  have Fin := Lib.hid fin
  clear fin ho hb
  go_wp2_with fail
  go_ret
  exact ⟨_, rfl, Fin.out⟩
theorem info5 : (Tryd.prog.info? 5).map (fun i => (i.zero, i.size, i.bytes)) = some (some (.int .u8 0), 1, 1) := by kernel_rfl
theorem KS.grow {w0 wc w9 : World} {v v9 : Value} {n m : Nat} {l l' : List UInt8} {o : Obj} (K : KS w0 wc v n l) (hg : ((wc.alloc o).drew).grownBy w9 v.ownBlock) (hr : w9.ownsRow w0.heap.size 5 1 v9 m (Lib.byteCells l')) (hl : l'.length = m) : KS w0 w9 v9 m l' := by
  have hb : Below w0.heap.size w0 wc := K.bel
  exact ⟨hr, hl, ((hb.alloc hb.size o).drew).grown hg (by have := hb.size; show _ ≤ (wc.alloc o).heap.size; simp; omega) (fun r hr => (K.row.lt r hr).1)⟩
end Go.Proofs.YtclefcjojlkcnaaDoor
