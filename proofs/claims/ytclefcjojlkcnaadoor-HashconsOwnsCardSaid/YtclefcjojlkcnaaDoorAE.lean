/- The reference's table: Get. -/
import Derived.Test.YtclefcjojlkcnaaDoorAD
namespace Go.Proofs.YtclefcjojlkcnaaDoor
open Go.RowKit
set_option linter.unusedVariables false
set_option linter.unusedSimpArgs false
theorem isA_lt {n : Nn} {ms : List Nn} (h : isA n ms = true) : atI n ms < ms.length := by
  unfold isA at h
  split at h
  · assumption
  · cases h
def getI (n : Nn) (ms : List Nn) (ids : List Int) : Int := if isA n ms = true then ids.getD (atI n ms) 0 else 0
set_option maxRecDepth 100000 in
set_option maxHeartbeats 8000000 in
theorem rget30 (ms : List Nn) (ids : List Int) (n : Nn) (hl : ms.length ≤ 1000) (hi : ids.length = ms.length) (okl : ∀ m ∈ ms, m.zs.length ≤ 1000) (hn : n.zs.length ≤ 1000) (w : World) (mb : Nat) (q q' : Option Addr) (cap cap' : Nat) (hT : w.cell? ⟨mb, 0, none⟩ = some (.slice q ms.length cap)) (hT' : w.cell? ⟨mb, 1, none⟩ = some (.slice q' ids.length cap')) (hR : RowN w q ms) (hI : Ra w q' ids) (p : Option Addr) (c : Nat) (hA : Ra w p n.zs) :
    Calls Tryd.prog 30 #[.pointer (some ⟨mb, 0, none⟩), .agg #[.int .i64 n.op, .int .i64 n.wd, .int .u64 n.vl, .string n.nm, .slice p n.zs.length c]] w fun e w' => e = .returned (.tuple #[.int .i64 (getI n ms ids), .bool (isA n ms)]) ∧ BK w w' := by
  have C47 := Lib.hid (fun wc (hb : BK w wc) => rat47 ms n hl okl hn wc mb q cap (cell_bk hT hb) (hR.keep hb) p c (hA.keep hb))
  have KA := Lib.hid (bk_alloc (BK.refl w) (.cells #[.int .i64 n.op, .int .i64 n.wd, .int .u64 n.vl, .string n.nm, .slice p n.zs.length c] 26))
  have HT := Lib.hid (fun wc (hb : BK w wc) => cell_bk hT' hb)
  have HI := Lib.hid (fun wc (hb : BK w wc) => hI.keep hb)
  have LT := Lib.hid (fun h => isA_lt (n := n) (ms := ms) h)
  have GI := Lib.hid (show getI n ms ids = if isA n ms = true then ids.getD (atI n ms) 0 else 0 from rfl)
  have HL := Lib.hid (And.intro hl hi)
  clear hl hi okl hn hT hT' hR hI hA
  generalize getI n ms ids = g at *
  generalize isA n ms = ia at *
  generalize atI n ms = at_ at *
  cases ia with
  | false =>
    have G2 : g = 0 := by have h := GI.out; rwa [if_neg (by decide)] at h
    subst G2
    go_enter Tryd.func30, Tryd.ntmps30
    go_wp2_with fail
    refine (C47.out _ KA.out).mono ?_
    rintro e w2 ⟨rfl, hb0⟩
    have hb := bk_tr KA.out hb0
    clear hb0
    have K2 := Lib.hid hb
    clear hb
    go_wp2_with fail
    go_ret2
    exact ⟨rfl, K2.out⟩
  | true =>
    have G2 : g = ids.getD at_ 0 := by have h := GI.out; rwa [if_pos rfl] at h
    have GH := Lib.hid G2
    clear G2
    go_enter Tryd.func30, Tryd.ntmps30
    go_wp2_with fail
    refine (C47.out _ KA.out).mono ?_
    rintro e w2 ⟨rfl, hb0⟩
    have hb := bk_tr KA.out hb0
    clear hb0
    have K2 := Lib.hid hb
    have t1 := HT.out _ hb
    have hlt : at_ < ids.length := by rw [HL.out.2]; exact LT.out (by trivial)
    have hai : (at_ : Int) < (ids.length : Int) := by omega
    obtain ⟨b, o, rfl, hbl, hc⟩ := HI.out _ hb (by omega)
    have y0 := hc at_ hlt
    rw [← GH.out] at y0
    clear hb hc hbl
    go_wp2_with fail
    go_ret2
    exact ⟨rfl, K2.out⟩
end Go.Proofs.YtclefcjojlkcnaaDoor
