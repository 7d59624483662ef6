/- The reference's table: where a node belongs. -/
import Derived.Test.YtclefcjojlkcnaaDoorP
import Derived.BigQuiet
import Derived.Deep.QuietTactic
import Derived.Deep.RegionWith
namespace Go.Proofs.YtclefcjojlkcnaaDoor
open Go.RowKit
set_option linter.unusedVariables false
set_option linter.unusedSimpArgs false
structure Nn where
  op : Int
  wd : Int
  vl : Int
  nm : ByteArray
  zs : List Int
def cmpM (a b : Nn) : Int := cmpN a.op a.wd a.vl b.op b.wd b.vl a.nm b.nm a.zs b.zs
/-- a node lies at a place -/
def AtN (m : Nn) (w : World) (b o : Nat) : Prop := ∃ q d, (w.cell? ⟨b, o, none⟩ = some (.int .i64 m.op) ∧ w.cell? ⟨b, o + 1, none⟩ = some (.int .i64 m.wd) ∧ w.cell? ⟨b, o + 2, none⟩ = some (.int .u64 m.vl) ∧ w.cell? ⟨b, o + 3, none⟩ = some (.string m.nm) ∧ w.cell? ⟨b, o + 4, none⟩ = some (.slice q m.zs.length d)) ∧ Ra w q m.zs
def RowN (w : World) (p : Option Addr) (ms : List Nn) : Prop := 0 < ms.length → ∃ b o, p = some ⟨b, o, none⟩ ∧ b < w.heap.size ∧ ∀ k (h : k < ms.length), AtN ms[k] w b (o + k * 5)
theorem cell_bk {w w' : World} {b j : Nat} {v : Value} (h : w.cell? ⟨b, j, none⟩ = some v) (hb : BK w w') : w'.cell? ⟨b, j, none⟩ = some v := ((show Below w.heap.size w w' from hb).cell (p := ⟨b, j, none⟩) (World.block_lt_of_cell? w _ h)).trans h
theorem AtN.keep {m : Nn} {w w' : World} {b o : Nat} (h : AtN m w b o) (hb : BK w w') : AtN m w' b o := by
  obtain ⟨q, d, ⟨h0, h1, h2, h3, h4⟩, hr⟩ := h
  exact ⟨q, d, ⟨cell_bk h0 hb, cell_bk h1 hb, cell_bk h2 hb, cell_bk h3 hb, cell_bk h4 hb⟩, hr.keep hb⟩
theorem RowN.keep {w w' : World} {p : Option Addr} {ms : List Nn} (h : RowN w p ms) (hb : BK w w') : RowN w' p ms := fun h0 => by
  obtain ⟨b, o, h1, h2, h3⟩ := h h0
  exact ⟨b, o, h1, Nat.lt_of_lt_of_le h2 (show Below w.heap.size w w' from hb).size, fun k hk => (h3 k hk).keep hb⟩
/-- where a node belongs in a list: behind the nodes before it -/
def atI (n : Nn) : List Nn → Nat
  | [] => 0
  | m :: ms => if cmpM m n < 0 then atI n ms + 1 else 0
theorem atI_le (n : Nn) : ∀ ms, atI n ms ≤ ms.length
  | [] => Nat.le_refl _
  | m :: ms => by
    have := atI_le n ms
    unfold atI
    split
    · simp; omega
    · omega
def isA (n : Nn) (ms : List Nn) : Bool := if h : atI n ms < ms.length then cmpM ms[atI n ms] n == 0 else false
theorem atI_drop (n : Nn) : ∀ (ms : List Nn) (k : Nat), k ≤ atI n ms → atI n ms = k + atI n (ms.drop k)
  | ms, 0, _ => by simp
  | [], k + 1, h => by simp [atI] at h
  | m :: ms, k + 1, h => by
    unfold atI at h
    split at h
    · rename_i hc
      have := atI_drop n ms k (by omega)
      rw [List.drop_succ_cons]
      show (if cmpM m n < 0 then atI n ms + 1 else 0) = _
      rw [if_pos hc]
      omega
    · omega
set_option maxRecDepth 100000 in
set_option maxHeartbeats 8000000 in
theorem rat47 (ms : List Nn) (n : Nn) (hl : ms.length ≤ 1000) (okl : ∀ m ∈ ms, m.zs.length ≤ 1000) (hn : n.zs.length ≤ 1000) (w : World) (mb : Nat) (q : Option Addr) (cap : Nat) (hT : w.cell? ⟨mb, 0, none⟩ = some (.slice q ms.length cap)) (hR : RowN w q ms) (p : Option Addr) (c : Nat) (hA : Ra w p n.zs) :
    Calls Tryd.prog 47 #[.pointer (some ⟨mb, 0, none⟩), .agg #[.int .i64 n.op, .int .i64 n.wd, .int .u64 n.vl, .string n.nm, .slice p n.zs.length c]] w fun e w' => e = .returned (.tuple #[.int .i64 (atI n ms : Int), .bool (isA n ms)]) ∧ BK w w' := by
  have KA := Lib.hid (bk_alloc (BK.refl w) (.cells #[.int .i64 n.op, .int .i64 n.wd, .int .u64 n.vl, .string n.nm, .slice p n.zs.length c] 26))
  have BX := Lib.hid (b5_new w (.int .i64 n.op) (.int .i64 n.wd) (.int .u64 n.vl) (.string n.nm) (.slice p n.zs.length c) 26)
  have HT := Lib.hid (cell_bk hT KA.out)
  have HR := Lib.hid (hR.keep KA.out)
  have HA := Lib.hid (hA.keep KA.out)
  have OK := Lib.hid okl
  have HN := Lib.hid hn
  have HL := Lib.hid hl
  have LT := Lib.hid (show w.heap.size < (w.alloc (.cells #[.int .i64 n.op, .int .i64 n.wd, .int .u64 n.vl, .string n.nm, .slice p n.zs.length c] 26)).heap.size from by simp)
  clear hT hR hA okl hn hl
  generalize hr : atI n ms = r
  have ER := Lib.hid hr
  have RLE := Lib.hid (show r ≤ ms.length from by rw [← hr]; exact atI_le n ms)
  have IA := Lib.hid (show isA n ms = if h : atI n ms < ms.length then cmpM ms[atI n ms] n == 0 else false from rfl)
  generalize isA n ms = ia at *
  rw [hr] at IA
  have AT := Lib.hid (fun k hk => atI_drop n ms k hk)
  rw [hr] at AT
  clear hr
  go_enter Tryd.func47, Tryd.ntmps47
  go_wp2_with fail
  generalize w.alloc (.cells #[.int .i64 n.op, .int .i64 n.wd, .int .u64 n.vl, .string n.nm, .slice p n.zs.length c] 26) = w0 at *
  generalize w.heap.size = gb at *
  go_loopw [6] (fun iv wr => ∃ k : Nat, k ≤ r ∧ iv = .int .i64 (k : Int) ∧ BK w0 wr) (fun iv _ => ms.length - (intOf iv).toNat)
  case atStart => exact ⟨0, Nat.zero_le _, rfl, BK.refl _⟩
  case round =>
    obtain ⟨k, hk, rfl, hb⟩ := hrel
    have KB := Lib.hid hb
    have HK := Lib.hid hk
    have AK := Lib.hid (AT.out k hk)
    clear hb hk
    by_cases hlt : k < ms.length
    · have hki : (k : Int) < (ms.length : Int) := by omega
      obtain ⟨b, o, hq, hbl, hall⟩ := HR.out (by omega)
      subst hq
      obtain ⟨q2, d2, ⟨y0, y1, y2, y3, y4⟩, hra⟩ := (hall k hlt).keep KB.out
      have OKM := Lib.hid (OK.out _ (List.getElem_mem hlt))
      have AK2 := AK.out
      rw [List.drop_eq_getElem_cons hlt] at AK2
      unfold atI at AK2
      have IX := Lib.hid (show r = k → ia = (cmpM ms[k] n == 0) from fun e => by have h := IA.out; subst e; rw [dif_pos hlt] at h; exact h)
      generalize ms[k] = m at *
      obtain ⟨mo, mw, mv, mn, mz⟩ := m
      simp only [] at y0 y1 y2 y3 y4 hra OKM
      have KD := Lib.hid (fun wc (hb : BK wr wc) => And.intro (And.intro (cell_bk y0 hb) (And.intro (cell_bk y1 hb) (And.intro (cell_bk y2 hb) (And.intro (cell_bk y3 hb) (cell_bk y4 hb))))) (And.intro (BX.out.keep (bk_tr KB.out hb) LT.out) (cell_bk HT.out (bk_tr KB.out hb))))
      have CC := Lib.hid (fun wc (hb : BK wr wc) => (cmp14 mo mw mv n.op n.wd n.vl mn n.nm q2 p d2 c mz n.zs wc OKM.out HN.out (hra.keep hb) (HA.out.keep (bk_tr KB.out hb))).mono (fun e w' (h : _ ∧ _) => And.intro h.1 (bk_tr hb h.2)))
      have CS := Lib.hid (fun wc (hb : BK wr wc) => (same16 mo mw mv n.op n.wd n.vl mn n.nm q2 p d2 c mz n.zs wc OKM.out HN.out (hra.keep hb) (HA.out.keep (bk_tr KB.out hb))).mono (fun e w' (h : _ ∧ _) => And.intro h.1 (bk_tr hb h.2)))
      have CE : cmpM ⟨mo, mw, mv, mn, mz⟩ n = cmpN mo mw mv n.op n.wd n.vl mn n.nm mz n.zs := rfl
      rw [CE] at AK2 IX
      generalize cmpN mo mw mv n.op n.wd n.vl mn n.nm mz n.zs = z at *
      have ei : IntKind.i64.wrap ((k : Int) + 1) = (k : Int) + 1 := by have := HL.out; exact IntWalk.i64_in _ (by omega)
      have HLT := Lib.hid hlt
      have AK3 := Lib.hid AK2
      clear y0 y1 y2 y3 y4 hra CE AK2 hall hbl
      have hd : decide (k < ms.length) = true := by simpa using HLT.out
      by_cases hz : z < 0
      · have HK1 := Lib.hid (show k + 1 ≤ r from by have h := AK3.out; rw [if_pos hz] at h; omega)
        go_wp2_with fail
        refine wp_region_class (C := fun w' => BK wr w') (by kernel_rfl) (by kernel_rfl) (bk_drew (BK.refl _)) ?_
        repeat (first
          | go_big_quiet_step (fail)
          | (refine wpQuiet_step (fun K hK => ?_)
             go_simp
             first
               | (refine hK _ ?_; clear hK K)
               | (refine ⟨_, fun _ _ => rfl, hK _ ?_⟩; clear hK K)
               | (apply Exists.intro; refine ⟨fun w5 hw5 => ?_, hK _ ?_⟩; (go_at_call 14; with_reducible exact CC.out _ hw5); clear hK K)
               | (apply Exists.intro; refine ⟨fun w5 hw5 => ?_, hK _ ?_⟩; (obtain ⟨⟨a0, a1, a2, a3, a4⟩, ⟨b0, b1, b2, b3, b4⟩, t0⟩ := KD.out _ hw5; go_simp; rfl); clear hK K)))
        refine wpQuiet_nil ?_
        intro wn hwn
        have KN := Lib.hid (bk_tr KB.out hwn)
        clear hwn
        go_wp2_with fail
        go_roundw
        case rel => exact ⟨k + 1, HK1.out, by go_num, KN.out⟩
        case measure => have := HLT.out; simp [intOf]; omega
      · have HK1 := Lib.hid (show r = k from by have h := AK3.out; rw [if_neg hz] at h; omega)
        have IE := Lib.hid (IX.out HK1.out)
        go_wp2_with fail
        refine wp_region_class (C := fun w' => BK wr w') (by kernel_rfl) (by kernel_rfl) (bk_drew (BK.refl _)) ?_
        repeat (first
          | go_big_quiet_step (fail)
          | (refine wpQuiet_step (fun K hK => ?_)
             go_simp
             first
               | (refine hK _ ?_; clear hK K)
               | (refine ⟨_, fun _ _ => rfl, hK _ ?_⟩; clear hK K)
               | (apply Exists.intro; refine ⟨fun w5 hw5 => ?_, hK _ ?_⟩; (go_at_call 14; with_reducible exact CC.out _ hw5); clear hK K)
               | (apply Exists.intro; refine ⟨fun w5 hw5 => ?_, hK _ ?_⟩; (obtain ⟨⟨a0, a1, a2, a3, a4⟩, ⟨b0, b1, b2, b3, b4⟩, t0⟩ := KD.out _ hw5; go_simp; rfl); clear hK K)))
        refine wpQuiet_nil ?_
        intro wn hwn
        go_wp2_with fail
        refine wp_region_class (C := fun w' => BK wr w') (by kernel_rfl) (by kernel_rfl) (bk_drew hwn) ?_
        repeat (first
          | go_big_quiet_step (fail)
          | (refine wpQuiet_step (fun K hK => ?_)
             go_simp
             first
               | (refine hK _ ?_; clear hK K)
               | (refine ⟨_, fun _ _ => rfl, hK _ ?_⟩; clear hK K)
               | (apply Exists.intro; refine ⟨fun w5 hw5 => ?_, hK _ ?_⟩; (go_at_call 16; with_reducible exact CS.out _ hw5); clear hK K)
               | (apply Exists.intro; refine ⟨fun w5 hw5 => ?_, hK _ ?_⟩; (obtain ⟨⟨a0, a1, a2, a3, a4⟩, ⟨b0, b1, b2, b3, b4⟩, t0⟩ := KD.out _ hw5; go_simp; rfl); clear hK K)))
        refine wpQuiet_nil ?_
        intro wp hwp
        have KN := Lib.hid (bk_tr KA.out (bk_tr KB.out hwp))
        clear hwn hwp
        have e1 := HK1.out
        have e2 := IE.out
        subst e1
        subst e2
        clear hz hd hki ei
        go_wp2_with fail
        go_ret2
        exact ⟨rfl, KN.out⟩
    · have hkl : k = ms.length := by have := HK.out; have := RLE.out; omega
      have hd : decide (k < ms.length) = false := by simpa using hlt
      have hni : ¬ (k : Int) < (ms.length : Int) := by omega
      have t0 := cell_bk HT.out KB.out
      have e1 : r = k := by have := HK.out; have := RLE.out; omega
      have e2 : ia = false := by have h := IA.out; rw [dif_neg (by omega)] at h; exact h
      have E1 := Lib.hid e1
      have E2 := Lib.hid e2
      subst e1
      subst e2
      clear hkl hlt
      go_wp2_with fail
      go_quiet (fail)
      go_wp2_with fail
      go_quiet (fail)
      go_wp2_with fail
      go_ret2
      exact ⟨rfl, bk_tr KA.out (bk_drewN (bk_drewN KB.out _) _)⟩
end Go.Proofs.YtclefcjojlkcnaaDoor
