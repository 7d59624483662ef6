/- The cost of a tree. -/
import Derived.Test.YtmejiiebeknbjaaDoorC
import Derived.Test.YtmejiiebeknbjaaDoorD
import Derived.Deep.MidRow
namespace Go.Proofs.YtmejiiebeknbjaaDoor
open Go.RowKit
set_option linter.unusedVariables false
set_option linter.unusedSimpArgs false
theorem treeL_drop (cs : List Int) (ts : List T) (k : Nat) (h : k < ts.length) (s : Int) : treeL cs s (ts.drop k) = treeL cs (addC s (treeC cs ts[k])) (ts.drop (k + 1)) := by
  rw [List.drop_eq_getElem_cons h]; rfl
theorem range_ca {w : World} {b : Nat} {cs : List Int} (h : w.heap[b]? = some (.cells (ca cs) 23 (0, 0))) : w.rangeAt b 0 (cs.map (Value.int .i64)) := fun j v hv => by
  rw [cell_of_row w b (0 + j) (ca cs) 23 (0, 0) h, Nat.zero_add]
  simpa [ca] using hv
theorem treeL_end (cs : List Int) (ts : List T) (s : Int) : treeL cs s (ts.drop ts.length) = s := by rw [List.drop_length]; rfl
def P16 (cs : List Int) (t : T) : Prop := ∀ op wd vl nm ts, t = .mk op wd vl nm ts → ∀ (w : World) (p : Option Addr) (c : Nat), Row w p c ts →
  Calls Tryd.prog 16 #[.agg (ca cs), .agg #[.int .i64 op, .int .i64 wd, .int .u64 vl, .string nm, .slice p ts.length c]] w fun e w' => e = .returned (.int .i64 (treeC cs t)) ∧ BK w w'
set_option maxRecDepth 100000 in
set_option maxHeartbeats 1000000 in
theorem tree16 (cs : List Int) (hcs : cs.length = 32) (t : T) : P16 cs t := by
  induction t using T.ind with
  | h op' wd' vl' nm' ts' ih =>
    intro op wd vl nm ts ht w p c hr
    obtain ⟨rfl, rfl, rfl, rfl, rfl⟩ := T.mk.inj ht
    clear ht
    have hlen := hr.len
    unfold maxLen at hlen
    have hx := b5_new (w.alloc (.cells (ca cs) 23)) (.int .i64 op') (.int .i64 wd') (.int .u64 vl') (.string nm') (.slice p ts'.length c) 34
    have hlt := box_lt (w.alloc (.cells (ca cs) 23)) #[.int .i64 op', .int .i64 wd', .int .u64 vl', .string nm', .slice p ts'.length c] 34
    have hk0 := bk_alloc (bk_alloc (BK.refl w) (.cells (ca cs) 23)) (.cells #[.int .i64 op', .int .i64 wd', .int .u64 vl', .string nm', .slice p ts'.length c] 34)
    rw [show (w.alloc (.cells (ca cs) 23)).heap.size = w.heap.size + 1 by simp] at hx hlt
    have hrow : ((w.alloc (.cells (ca cs) 23)).alloc (.cells #[.int .i64 op', .int .i64 wd', .int .u64 vl', .string nm', .slice p ts'.length c] 34)).heap[w.heap.size]? = some (.cells (ca cs) 23 (0, 0)) := by
      rw [heap_alloc_old _ _ (by simp)]; exact heap_alloc_new w _
    have hr0 := hr.keep hk0
    clear hr
    have hspec : treeC cs (.mk op' wd' vl' nm' ts') = treeL cs (nodeC cs op') ts' := by rw [treeC]
    rw [hspec]
    clear hspec
    go_enter Tryd.func16, Tryd.ntmps16
    go_wp2_with (with_reducible refine wpList_load_row rfl 23 _ rfl w.heap.size rfl 23 (ca cs) (0, 0) _ hrow Tryd.underlying23 rfl (by rw [ca_size, hcs]; kernel_rfl) ?_)
    generalize (w.alloc (.cells (ca cs) 23)).alloc (.cells #[.int .i64 op', .int .i64 wd', .int .u64 vl', .string nm', .slice p ts'.length c] 34) = w0 at hx hlt hk0 hrow hr0 ⊢
    have HX := Lib.hid (fun wc (hb : BK w0 wc) => hx.keep hb hlt)
    have HR := Lib.hid (fun wc (hb : BK w0 wc) => hr0.keep hb)
    have hl0 : w.heap.size < w0.heap.size := by omega
    have HROW := Lib.hid (fun wc (hb : BK w0 wc) => ((show Below w0.heap.size w0 wc from hb).block w.heap.size hl0).trans hrow)
    have HK0 := Lib.hid hk0
    have IH := Lib.hid ih
    clear hx hlt hk0 hr0 ih hrow hl0
    refine (node9 cs op' w0 hcs).mono ?_
    rintro e w1 ⟨rfl, hb⟩
    have K1 := Lib.hid hb
    obtain ⟨-, -, -, -, x4⟩ := HX.out _ hb
    clear hb
    generalize hn0 : nodeC cs op' = s0
    have HN := Lib.hid hn0
    clear hn0
    go_wp2_with fail
    clear x4
    go_loopw [5, 15] (fun y x wr => ∃ (k : Nat) (s : Int), k ≤ ts'.length ∧ x = .int .i64 k ∧ y = .int .i64 s ∧ treeL cs s0 ts' = treeL cs s (ts'.drop k) ∧ BK w0 wr) (fun _ x _ => ts'.length - (intOf x).toNat)
    case atStart => exact ⟨0, s0, Nat.zero_le _, rfl, rfl, rfl, K1.out⟩
    case round =>
      obtain ⟨k, s, hk, rfl, rfl, hs, hkw⟩ := hrel
      have HK := Lib.hid hkw
      by_cases hlt : k < ts'.length
      · have HS := Lib.hid (hs.trans (treeL_drop cs ts' k hlt s))
        obtain ⟨b, o, op2, wd2, vl2, nm2, us, q, d, rfl, htk, hc5, hw5, hr5⟩ := (HR.out _ hkw).get hlt
        obtain ⟨c0, c1, c2, c3, c4⟩ := hc5
        have hmem : ts'[k] ∈ ts' := List.getElem_mem hlt
        have HC := Lib.hid (fun wc (hb : BK wr wc) => IH.out _ hmem op2 wd2 vl2 nm2 us htk wc q d (hr5.keep hb))
        clear hkw hmem htk hr5 hw5 hs
        have HM := Lib.hid (show treeC cs ts'[k] = treeC cs ts'[k] from rfl)
        generalize treeC cs ts'[k] = m2 at HC HS HM
        have HROW2 := Lib.hid (HROW.out _ (bk_alloc HK.out (.cells #[.int .i64 op2, .int .i64 wd2, .int .u64 vl2, .string nm2, .slice q us.length d] 34)))
        go_wp2_with (with_reducible refine wpList_load_row rfl 23 _ rfl w.heap.size rfl 23 (ca cs) (0, 0) _ HROW2.out Tryd.underlying23 rfl (by rw [ca_size, hcs]; kernel_rfl) ?_)
        refine (HC.out _ (bk_alloc (BK.refl wr) _)).mono ?_
        rintro e w2 ⟨rfl, hb2⟩
        have H2 := Lib.hid (bk_tr (bk_alloc HK.out (.cells #[.int .i64 op2, .int .i64 wd2, .int .u64 vl2, .string nm2, .slice q us.length d] 34)) hb2)
        clear hb2 c0 c1 c2 c3 c4
        go_wp2_with (go_at_call 11; refine (add11 s m2 _).mono ?_; rintro e w' ⟨rfl, rfl⟩)
        go_roundw
        case rel => exact ⟨k + 1, addC s m2, by omega, by go_num, rfl, HS.out, H2.out⟩
        case measure => simp [intOf]; omega
      · obtain rfl : k = ts'.length := by omega
        have H1 := Lib.hid (hs.trans (treeL_end cs ts' s))
        clear hs hkw
        go_wp2_with fail
        go_ret
        exact ⟨ret_int' (by rw [HN.out, H1.out]), bk_tr HK0.out HK.out⟩
def P17 (cs : List Int) (t : T) : Prop := ∀ op wd vl nm ts, t = .mk op wd vl nm ts → ∀ (w : World) (p : Option Addr) (c : Nat), Row w p c ts →
  Calls Tryd.prog 17 #[.agg (ca cs), .agg #[.int .i64 op, .int .i64 wd, .int .u64 vl, .string nm, .slice p ts.length c]] w fun e w' => e = .returned (.int .i64 (treeC cs t)) ∧ BK w w'
set_option maxRecDepth 100000 in
set_option maxHeartbeats 1000000 in
theorem tree17 (cs : List Int) (hcs : cs.length = 32) (t : T) : P17 cs t := by
  induction t using T.ind with
  | h op' wd' vl' nm' ts' ih =>
    intro op wd vl nm ts ht w p c hr
    obtain ⟨rfl, rfl, rfl, rfl, rfl⟩ := T.mk.inj ht
    clear ht
    have hlen := hr.len
    unfold maxLen at hlen
    have hx := b5_new (w.alloc (.cells (ca cs) 23)) (.int .i64 op') (.int .i64 wd') (.int .u64 vl') (.string nm') (.slice p ts'.length c) 34
    have hlt := box_lt (w.alloc (.cells (ca cs) 23)) #[.int .i64 op', .int .i64 wd', .int .u64 vl', .string nm', .slice p ts'.length c] 34
    have hk0 := bk_alloc (bk_alloc (BK.refl w) (.cells (ca cs) 23)) (.cells #[.int .i64 op', .int .i64 wd', .int .u64 vl', .string nm', .slice p ts'.length c] 34)
    rw [show (w.alloc (.cells (ca cs) 23)).heap.size = w.heap.size + 1 by simp] at hx hlt
    have hrow : ((w.alloc (.cells (ca cs) 23)).alloc (.cells #[.int .i64 op', .int .i64 wd', .int .u64 vl', .string nm', .slice p ts'.length c] 34)).heap[w.heap.size]? = some (.cells (ca cs) 23 (0, 0)) := by
      rw [heap_alloc_old _ _ (by simp)]; exact heap_alloc_new w _
    have hr0 := hr.keep hk0
    clear hr
    have hspec : treeC cs (.mk op' wd' vl' nm' ts') = treeL cs (nodeC cs op') ts' := by rw [treeC]
    rw [hspec]
    clear hspec
    go_enter Tryd.func17, Tryd.ntmps17
    go_wp2_with (with_reducible refine wpList_load_row rfl 23 _ rfl w.heap.size rfl 23 (ca cs) (0, 0) _ hrow Tryd.underlying23 rfl (by rw [ca_size, hcs]; kernel_rfl) ?_)
    generalize (w.alloc (.cells (ca cs) 23)).alloc (.cells #[.int .i64 op', .int .i64 wd', .int .u64 vl', .string nm', .slice p ts'.length c] 34) = w0 at hx hlt hk0 hrow hr0 ⊢
    have HX := Lib.hid (fun wc (hb : BK w0 wc) => hx.keep hb hlt)
    have HR := Lib.hid (fun wc (hb : BK w0 wc) => hr0.keep hb)
    have hl0 : w.heap.size < w0.heap.size := by omega
    have HROW := Lib.hid (fun wc (hb : BK w0 wc) => ((show Below w0.heap.size w0 wc from hb).block w.heap.size hl0).trans hrow)
    have HK0 := Lib.hid hk0
    have IH := Lib.hid ih
    clear hx hlt hk0 hr0 ih hrow hl0
    refine (node10 cs op' w0 hcs).mono ?_
    rintro e w1 ⟨rfl, hb⟩
    have K1 := Lib.hid hb
    obtain ⟨-, -, -, -, x4⟩ := HX.out _ hb
    clear hb
    generalize hn0 : nodeC cs op' = s0
    have HN := Lib.hid hn0
    clear hn0
    go_wp2_with fail
    clear x4
    go_loopw [5, 14] (fun y x wr => ∃ (k : Nat) (s : Int), k ≤ ts'.length ∧ x = .int .i64 k ∧ y = .int .i64 s ∧ treeL cs s0 ts' = treeL cs s (ts'.drop k) ∧ BK w0 wr) (fun _ x _ => ts'.length - (intOf x).toNat)
    case atStart => exact ⟨0, s0, Nat.zero_le _, rfl, rfl, rfl, K1.out⟩
    case round =>
      obtain ⟨k, s, hk, rfl, rfl, hs, hkw⟩ := hrel
      have HK := Lib.hid hkw
      by_cases hlt : k < ts'.length
      · have HS := Lib.hid (hs.trans (treeL_drop cs ts' k hlt s))
        obtain ⟨b, o, op2, wd2, vl2, nm2, us, q, d, rfl, htk, hc5, hw5, hr5⟩ := (HR.out _ hkw).get hlt
        obtain ⟨c0, c1, c2, c3, c4⟩ := hc5
        have hmem : ts'[k] ∈ ts' := List.getElem_mem hlt
        have HC := Lib.hid (fun wc (hb : BK wr wc) => IH.out _ hmem op2 wd2 vl2 nm2 us htk wc q d (hr5.keep hb))
        clear hmem htk hr5 hw5 hs
        have HM := Lib.hid (show treeC cs ts'[k] = treeC cs ts'[k] from rfl)
        generalize treeC cs ts'[k] = m2 at HC HS HM
        have hc5 : C5 wr b (o + k * 5) (.int .i64 op2) (.int .i64 wd2) (.int .u64 vl2) (.string nm2) (.slice q us.length d) := ⟨c0, c1, c2, c3, c4⟩
        have HL := Lib.hid (fun wc (hb : BK w0 wc) => range_ca (cs := cs) (HROW.out _ hb))
        have hu23 := Tryd.underlying23
        have hi23 : (Tryd.prog.info? 23).map (·.size) = some (cs.map (Value.int .i64)).length := by rw [List.length_map, hcs]; kernel_rfl
        unfold ca at HC
        have KS := Lib.hid (fun wc (hb : BK wr wc) => And.intro (HL.out _ (bk_tr HK.out hb)) (And.intro (HX.out _ (bk_tr HK.out hb)).2.2.2.2 (hc5.keep hb)))
        clear hkw c0 c1 c2 c3 c4 hc5
        go_wp2_with fail
        go_region_held3 (fun w' => w'.rangeAt w.heap.size 0 (cs.map (Value.int .i64)) ∧ w'.cell? ⟨w.heap.size + 1, 4, none⟩ = some (.slice (some ⟨b, o, none⟩) ts'.length c) ∧ w'.cell? ⟨b, o + k * 5, none⟩ = some (.int .i64 op2) ∧ w'.cell? ⟨b, o + k * 5 + 1, none⟩ = some (.int .i64 wd2) ∧ w'.cell? ⟨b, o + k * 5 + 2, none⟩ = some (.int .u64 vl2) ∧ w'.cell? ⟨b, o + k * 5 + 3, none⟩ = some (.string nm2) ∧ w'.cell? ⟨b, o + k * 5 + 4, none⟩ = some (.slice q us.length d))
          (exact KS.out _ (by first | assumption | exact bk_drew (BK.refl wr)))
          ((first | (go_at_call 12; with_reducible refine (add12 s m2 _).mono ?_; rintro e w' ⟨rfl, rfl⟩) | (go_at_call 17; with_reducible refine (HC.out _ (bk_drew (BK.refl wr))).mono ?_; rintro e w2 ⟨rfl, hb2⟩; have hk2 := of_drew hb2)))
        all_goals
          have H2 := Lib.hid (bk_tr HK.out hk2)
          clear hk2 hb2
          go_wp2_with fail
          go_roundw
          case rel => exact ⟨k + 1, addC s m2, by omega, by go_num, rfl, HS.out, H2.out⟩
          case measure => simp [intOf]; omega
      · obtain rfl : k = ts'.length := by omega
        have H1 := Lib.hid (hs.trans (treeL_end cs ts' s))
        clear hs hkw
        go_wp2_with fail
        go_ret
        exact ⟨ret_int' (by rw [HN.out, H1.out]), bk_tr HK0.out HK.out⟩
end Go.Proofs.YtmejiiebeknbjaaDoor
