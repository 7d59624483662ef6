/- Copies of terms: the lists. -/
import Derived.Test.YtnlpiaejfmdckaaDoorI
namespace Go.Proofs.YtnlpiaejfmdckaaDoor
open Go.RowKit
set_option linter.unusedVariables false
set_option linter.unusedSimpArgs false
mutual
/-- lists are not too long -/
def smT : T → Prop
  | .mk _ _ _ _ ts => ts.length ≤ 100000 ∧ smL ts
def smL : List T → Prop
  | [] => True
  | t :: ts => smT t ∧ smL ts
end
theorem smT_mk {op wd : Int} {vl : Nat} {nm : ByteArray} {ts : List T} : smT (.mk op wd vl nm ts) ↔ ts.length ≤ 100000 ∧ smL ts := by rw [smT]
theorem smL_iff : ∀ {ts : List T}, smL ts ↔ ∀ t ∈ ts, smT t
  | [] => by rw [smL]; simp
  | t :: ts => by rw [smL, smL_iff]; simp
theorem info42 : (Tryd.prog.info? 42).map (fun i => (i.zero, i.size, i.bytes)) = some (some (.agg zT), 5, 64) := by kernel_rfl
theorem make40 (n : Nat) (h : n ≤ 100000) (w : World) : (Instr.makeSlice 40 (.int .i64 (n : Int)) (.int .i64 (n : Int))).run Tryd.prog w = .ok (.slice (some ⟨w.heap.size, 0, none⟩) n n) (w.alloc (.cells (madeCells zT (n * 5)) 42)) := by
  obtain ⟨i0, hi, hz0, hz1, hz2⟩ := info_parts info42
  have hr := run_make (P := Tryd.prog) w 40 42 i0 (.agg zT) Tryd.underlying40 hi hz0 .i64 .i64 n n (by omega) (by omega) (by rw [hz2]; omega) (by omega)
  simp only [Int.toNat_natCast] at hr
  rw [hz1] at hr
  exact hr
theorem made_size (n : Nat) : (madeCells zT (n * 5)).size = n * 5 := by simp [madeCells]
/-- a row of copies in the making -/
structure CR (w wr : World) (g n k : Nat) (ts : List T) : Prop where
  row : ∃ cs : Array Value, cs.size = n * 5 ∧ wr.heap[g]? = some (.cells cs 42 (0, 0))
  ats : ∀ i (h : i < ts.length), i < k → AtD (memX w.heap.size g wr) ts[i] wr g (i * 5)
  bk : BK w wr
theorem CR.bk' {w wr w2 : World} {g n k : Nat} {ts : List T} (h : CR w wr g n k ts) (hb : BK wr w2) : CR w w2 g n k ts := by
  obtain ⟨cs, h1, h2⟩ := h.row
  have hg := bk_block hb (Array.getElem?_eq_some_iff.1 h2).1
  exact ⟨⟨cs, h1, hg.trans h2⟩, fun i hi hk => atD_keep (memX_bk hb) _ g (i * 5) hg (h.ats i hi hk), bk_tr h.bk hb⟩
theorem CR.put {w wr : World} {g n k : Nat} {ts : List T} (h : CR w wr g n k ts) (hk : k < ts.length) (hn : ts.length = n) (hgw : w.heap.size ≤ g) {op wd : Int} {vl : Nat} {nm : ByteArray} {us : List T} {q : Option Addr} {d : Nat} (ht : ts[k] = .mk op wd vl nm us) (hr : RowD (memX w.heap.size g wr) wr q d us) :
    CR w (put5 wr g (k * 5) (.int .i64 op) (.int .i64 wd) (.int .u64 vl) (.string nm) (.slice q us.length d)) g n (k + 1) ts := by
  obtain ⟨cs, h1, h2⟩ := h.row
  have hks : k * 5 + 5 ≤ cs.size := by rw [h1]; omega
  have hkeep : ∀ j, memX w.heap.size g wr j → (put5 wr g (k * 5) (.int .i64 op) (.int .i64 wd) (.int .u64 vl) (.string nm) (.slice q us.length d)).heap[j]? = wr.heap[j]? ∧ memX w.heap.size g (put5 wr g (k * 5) (.int .i64 op) (.int .i64 wd) (.int .u64 vl) (.string nm) (.slice q us.length d)) j := fun j hj => ⟨put5_other g _ _ _ _ _ _ j hj.2.2, hj.1, by rw [put5_size]; exact hj.2.1, hj.2.2⟩
  refine ⟨⟨_, ?_, put5_cells h2 _ _ _ _ _ _⟩, fun i hi hik => ?_, put5_bk h.bk _ _ _ _ _ _ _ hgw⟩
  · simp [h1]
  · by_cases e : i = k
    · subst e
      rw [ht, atD_mk]
      exact ⟨q, d, put5_at h2 _ hks _ _ _ _ _, hr.keep hkeep⟩
    · have h3 := h.ats i hi (by omega)
      generalize ts[i] = t at *
      cases t with
      | mk op' wd' vl' nm' us' =>
        rw [atD_mk] at h3 ⊢
        obtain ⟨q', d', ⟨a0, a1, a2, a3, a4⟩, h5⟩ := h3
        refine ⟨q', d', ⟨?_, ?_, ?_, ?_, ?_⟩, h5.keep hkeep⟩
        · rw [put5_off h2 _ _ (by omega)]; exact a0
        · rw [put5_off h2 _ _ (by omega)]; exact a1
        · rw [put5_off h2 _ _ (by omega)]; exact a2
        · rw [put5_off h2 _ _ (by omega)]; exact a3
        · rw [put5_off h2 _ _ (by omega)]; exact a4
theorem CR.cell {w wr : World} {g n k : Nat} {ts : List T} (h : CR w wr g n k ts) {j : Nat} (hj : j < n * 5) : (∃ v, wr.cell? ⟨g, j, none⟩ = some v) ∧ wr.frozen? ⟨g, j, none⟩ = false := by
  obtain ⟨cs, h1, h2⟩ := h.row
  exact ⟨⟨cs[j]'(by rw [h1]; exact hj), by rw [cell_of_row wr g j _ 42 (0, 0) h2]; simp [h1, hj]⟩, frozen_of_row wr g j _ 42 h2⟩
set_option maxRecDepth 100000 in
set_option maxHeartbeats 8000000 in
theorem copyall77 (ts : List T) (hl : ts.length ≤ 100000) (ih : ∀ t ∈ ts, ∀ (w : World) p c, RowD (mem 0 w) w p c t.ts → Calls Tryd.prog 62 #[.agg #[.int .i64 t.op, .int .i64 t.wd, .int .u64 t.vl, .string t.nm, .slice p t.ts.length c]] w (CP w t)) (w : World) (p : Option Addr) (c : Nat) (hp : RowD (mem 0 w) w p c ts) :
    Calls Tryd.prog 77 #[.slice p ts.length c] w (CL w ts) := by
  by_cases h0 : ts.length = 0
  · obtain rfl : ts = [] := List.length_eq_zero_iff.1 h0
    clear hp ih hl h0
    unfold CL
    simp only [List.length_nil]
    go_enter Tryd.func77, Tryd.ntmps77
    go_wp2_with fail
    go_ret
    exact ⟨⟨none, 0, rfl, .inl ⟨rfl, fun _ => rfl⟩⟩, BK.refl _⟩
  · have h0' : ((ts.length : Int) == 0) = false := ne_cast (d := 0) h0
    have HP := Lib.hid hp
    have IH := Lib.hid ih
    have HN := Lib.hid (show ts.length ≤ 100000 ∧ 0 < ts.length from by omega)
    have MK := Lib.hid (fun w => make40 ts.length hl w)
    clear hp ih hl h0
    unfold CL
    go_enter Tryd.func77, Tryd.ntmps77
    go_wp2_with fail
    rw [MK.out w]
    simp only [Result.andThen]
    try rw [Oper.upon_value]
    have K3 := Lib.hid (bk_alloc (BK.refl w) (.cells (madeCells zT (ts.length * 5)) 42))
    have C3 := Lib.hid (show CR w (w.alloc (.cells (madeCells zT (ts.length * 5)) 42)) w.heap.size ts.length 0 ts from ⟨⟨_, made_size _, heap_alloc_new w _⟩, fun i _ h => by omega, K3.out⟩)
    generalize w.alloc (.cells (madeCells zT (ts.length * 5)) 42) = w3 at *
    clear h0' MK
    go_wp2_with fail
    go_loopw [14] (fun iv wr => ∃ k : Nat, k ≤ ts.length ∧ iv = .int .i64 (k : Int) ∧ CR w wr w.heap.size ts.length k ts) (fun iv _ => ts.length - (intOf iv).toNat)
    case atStart => exact ⟨0, Nat.zero_le _, rfl, C3.out⟩
    case round =>
      obtain ⟨k, hk, rfl, hcr⟩ := hrel
      have CRR := Lib.hid hcr
      clear hcr
      by_cases e : k = ts.length
      · have hd : decide (k < ts.length) = false := by simp [e]
        have RR := Lib.hid (show RowD (mem w.heap.size wr) wr (some ⟨w.heap.size, 0, none⟩) ts.length ts from by
          obtain ⟨cs, h1, h2⟩ := CRR.out.row
          refine .inr ⟨_, 0, rfl, ⟨Nat.le_refl _, (Array.getElem?_eq_some_iff.1 h2).1⟩, atDL_of fun i hi => ?_, Nat.le_refl _⟩
          rw [Nat.zero_add]
          exact atD_keep (fun j hj => ⟨rfl, hj.1, hj.2.1⟩) _ _ _ rfl (CRR.out.ats i hi (by omega)))
        subst e
        go_wp2_with fail
        go_ret
        exact ⟨⟨_, _, rfl, RR.out⟩, CRR.out.bk⟩
      · have hlt : k < ts.length := by omega
        have hd : decide (k < ts.length) = true := by simpa using hlt
        obtain ⟨b, o, op, wd, vl, nm, us, q, d, rfl, -, he, hc, hrr⟩ := (HP.out.bk CRR.out.bk (Nat.le_refl _)).get hlt
        obtain ⟨z0, z1, z2, z3, z4⟩ := hc
        have KX := Lib.hid (bk_alloc (BK.refl wr) (.cells #[.int .i64 op, .int .i64 wd, .int .u64 vl, .string nm, .slice q us.length d] 42))
        have SX := Lib.hid (sz1 wr (.cells #[.int .i64 op, .int .i64 wd, .int .u64 vl, .string nm, .slice q us.length d] 42))
        have CC := Lib.hid (show Calls Tryd.prog 62 #[.agg #[.int .i64 op, .int .i64 wd, .int .u64 vl, .string nm, .slice q us.length d]] (wr.alloc (.cells #[.int .i64 op, .int .i64 wd, .int .u64 vl, .string nm, .slice q us.length d] 42)) (CP _ (.mk op wd vl nm us)) from by
          have := IH.out ts[k] (List.getElem_mem hlt) (wr.alloc (.cells #[.int .i64 op, .int .i64 wd, .int .u64 vl, .string nm, .slice q us.length d] 42)) q d (by rw [he]; exact hrr.bk KX.out (Nat.le_refl _))
          rw [he] at this
          exact this)
        have HE := Lib.hid he
        have ei : IntKind.i64.wrap ((k : Int) + 1) = (k : Int) + 1 := by have := HN.out; exact IntWalk.i64_in _ (by omega)
        have hki : (k : Int) < (ts.length : Int) := by omega
        have HLT := Lib.hid hlt
        unfold CP at CC
        clear hrr he e
        go_wp2_with fail
        refine CC.out.mono ?_
        rintro e w2 ⟨⟨q2, d2, rfl, hr2⟩, hb2⟩
        have CR2 := Lib.hid (CRR.out.bk' (bk_tr KX.out hb2))
        have LT := Lib.hid (show w.heap.size < wr.heap.size from by obtain ⟨cs, h1, h2⟩ := CRR.out.row; exact (Array.getElem?_eq_some_iff.1 h2).1)
        have PZ := Lib.hid (CR2.out.put HLT.out rfl (Nat.le_refl _) HE.out (hr2.keep fun j hj => ⟨rfl, by have := hj.1; rw [SX.out] at this; have := LT.out; omega, hj.2, by have := hj.1; rw [SX.out] at this; have := LT.out; omega⟩))
        clear hr2 hb2 z0 z1 z2 z3 z4
        obtain ⟨⟨v0, z0⟩, f0⟩ := CR2.out.cell (j := k * 5) (by have := HLT.out; omega)
        obtain ⟨⟨v1, z1⟩, f1⟩ := CR2.out.cell (j := k * 5 + 1) (by have := HLT.out; omega)
        obtain ⟨⟨v2, z2⟩, f2⟩ := CR2.out.cell (j := k * 5 + 2) (by have := HLT.out; omega)
        obtain ⟨⟨v3, z3⟩, f3⟩ := CR2.out.cell (j := k * 5 + 3) (by have := HLT.out; omega)
        obtain ⟨⟨v4, z4⟩, f4⟩ := CR2.out.cell (j := k * 5 + 4) (by have := HLT.out; omega)
        unfold put5 at PZ
        go_wp2_with fail
        go_roundw
        case rel => exact ⟨k + 1, by have := HLT.out; omega, by go_num, PZ.out⟩
        case measure => have := HLT.out; simp [intOf]; omega
theorem copyT (t : T) (hs : smT t) : ∀ (w : World) (p : Option Addr) (c : Nat), RowD (mem 0 w) w p c t.ts → Calls Tryd.prog 62 #[.agg #[.int .i64 t.op, .int .i64 t.wd, .int .u64 t.vl, .string t.nm, .slice p t.ts.length c]] w (CP w t) := by
  induction t using T.ind with
  | h op wd vl nm ts ih =>
    intro w p c hp
    rw [smT_mk] at hs
    exact copy62 op wd vl nm ts (fun w p c h => copyall77 ts hs.1 (fun t ht => ih t ht (smL_iff.1 hs.2 t ht)) w p c h) w p c hp
end Go.Proofs.YtnlpiaejfmdckaaDoor
