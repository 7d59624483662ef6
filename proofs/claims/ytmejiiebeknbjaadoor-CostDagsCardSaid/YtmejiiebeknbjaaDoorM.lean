/- The laws of the nodes and of the trees, walked. -/
import Derived.Test.YtmejiiebeknbjaaDoorL
import Derived.Deep.MidRow
namespace Go.Proofs.YtmejiiebeknbjaaDoor
open Go.RowKit Go.Maps
set_option linter.unusedVariables false
set_option linter.unusedSimpArgs false
theorem six {w' : World} {a b : Nat} {L : List Value} {x0 x1 x2 x3 x4 : Value} (hr : w'.rangeAt a 0 L) (h : B5 w' b x0 x1 x2 x3 x4) : w'.rangeAt a 0 L ∧ w'.cell? ⟨b, 0, none⟩ = some x0 ∧ w'.cell? ⟨b, 1, none⟩ = some x1 ∧ w'.cell? ⟨b, 2, none⟩ = some x2 ∧ w'.cell? ⟨b, 3, none⟩ = some x3 ∧ w'.cell? ⟨b, 4, none⟩ = some x4 := ⟨hr, h⟩
set_option maxRecDepth 100000 in
set_option maxHeartbeats 2000000 in
theorem trees_law (cs : List Int) (hcs : cs.length = 32) (op wd : Int) (vl : Nat) (nm : ByteArray) (ts : List T) (p : Option Addr) (c : Nat) (w : World) (hr : Row w p c ts) (htb : Tb w) :
    Calls Tryd.prog 4 #[.agg (ca cs), .agg #[.int .i64 op, .int .i64 wd, .int .u64 vl, .string nm, .slice p ts.length c]] w fun e w' => e = .returned (.bool true) ∧ BK w w' := by
  have hx := b5_new (w.alloc (.cells (ca cs) 23)) (.int .i64 op) (.int .i64 wd) (.int .u64 vl) (.string nm) (.slice p ts.length c) 34
  have hlt := box_lt (w.alloc (.cells (ca cs) 23)) #[.int .i64 op, .int .i64 wd, .int .u64 vl, .string nm, .slice p ts.length c] 34
  have hk0 := bk_alloc (bk_alloc (BK.refl w) (.cells (ca cs) 23)) (.cells #[.int .i64 op, .int .i64 wd, .int .u64 vl, .string nm, .slice p ts.length c] 34)
  rw [show (w.alloc (.cells (ca cs) 23)).heap.size = w.heap.size + 1 by simp] at hx hlt
  have hrow : ((w.alloc (.cells (ca cs) 23)).alloc (.cells #[.int .i64 op, .int .i64 wd, .int .u64 vl, .string nm, .slice p ts.length c] 34)).heap[w.heap.size]? = some (.cells (ca cs) 23 (0, 0)) := by
    rw [heap_alloc_old _ _ (by simp)]; exact heap_alloc_new w _
  have hr0 := hr.keep hk0
  have HT := Lib.hid (htb.keep hk0)
  clear hr htb
  go_enter Tryd.func4, Tryd.ntmps4
  go_wp2_with fail
  generalize (w.alloc (.cells (ca cs) 23)).alloc (.cells #[.int .i64 op, .int .i64 wd, .int .u64 vl, .string nm, .slice p ts.length c] 34) = w0 at hx hlt hk0 hrow hr0 HT ⊢
  have HX := Lib.hid (fun wc (hb : BK w0 wc) => hx.keep hb hlt)
  have HR := Lib.hid (fun wc (hb : BK w0 wc) => hr0.keep hb)
  have hl0 : w.heap.size < w0.heap.size := by omega
  have HROW := Lib.hid (fun wc (hb : BK w0 wc) => range_ca (cs := cs) (((show Below w0.heap.size w0 wc from hb).block w.heap.size hl0).trans hrow))
  have HK0 := Lib.hid hk0
  have HT14 := Lib.hid (fun wc (hb : BK w0 wc) => lives14 wc (HT.out.keep hb))
  obtain ⟨x0, x1, x2, x3, x4⟩ := hx
  clear hlt hk0 hr0 hrow hl0
  refine (small15 op wd vl nm ts 60 w0 p c (HR.out _ (BK.refl _)) (by omega) (by omega)).mono ?_
  rintro e w1 ⟨rfl, hb⟩
  have K1 := Lib.hid hb
  clear hb x0 x1 x2 x3 x4
  cases hs : smallB (T.mk op wd vl nm ts) 60 with
  | false =>
    have F := Lib.hid hs
    clear hs
    go_wp2_with fail
    refine (HT14.out _ K1.out).mono ?_
    rintro e w9 ⟨rfl, hb9⟩
    have H9 := Lib.hid (bk_tr K1.out hb9)
    clear hb9
    go_wp2_with fail
    go_ret
    exact ⟨rfl, bk_tr HK0.out H9.out⟩
  | true =>
    have F := Lib.hid hs
    clear hs
    go_wp2_with fail
    have C16 := Lib.hid (fun wc (hb : BK w0 wc) => tree16 cs hcs (T.mk op wd vl nm ts) op wd vl nm ts rfl wc p c (HR.out _ hb))
    have C17 := Lib.hid (fun wc (hb : BK w0 wc) => tree17 cs hcs (T.mk op wd vl nm ts) op wd vl nm ts rfl wc p c (HR.out _ hb))
    unfold ca at C16 C17
    generalize treeC cs (T.mk op wd vl nm ts) = r at C16 C17
    have hu23 := Tryd.underlying23
    have hi23 : (Tryd.prog.info? 23).map (·.size) = some (cs.map (Value.int .i64)).length := by rw [List.length_map, hcs]; kernel_rfl
    refine wp_region_held_drew (S := fun w' => w'.rangeAt w.heap.size 0 (cs.map (Value.int .i64)) ∧ w'.cell? ⟨w.heap.size + 1, 0, none⟩ = some (.int .i64 op) ∧ w'.cell? ⟨w.heap.size + 1, 1, none⟩ = some (.int .i64 wd) ∧ w'.cell? ⟨w.heap.size + 1, 2, none⟩ = some (.int .u64 vl) ∧ w'.cell? ⟨w.heap.size + 1, 3, none⟩ = some (.string nm) ∧ w'.cell? ⟨w.heap.size + 1, 4, none⟩ = some (.slice p ts.length c)) (by kernel_rfl) (six (HROW.out _ (bk_drew K1.out)) (HX.out _ (bk_drew K1.out))) (fun hHeld => ?_)
    refine' wpAnyH_take (i := 0) (v := _) rfl (by kernel_rfl) (by kernel_rfl) (by kernel_rfl) (fun _ _ _ h => h) (yieldsIf_load_mid (by rfl) _ _ rfl _ _ rfl _ _ (fun w hSw => hSw.1) hu23 rfl hi23) hHeld ?_
    try simp only [Act.put, List.setIfInBounds_toArray, List.set_cons_zero, List.set_cons_succ]
    refine wpAnyH_take (i := 1) (v := .agg #[.int .i64 op, .int .i64 wd, .int .u64 vl, .string nm, .slice p ts.length c]) rfl (by kernel_rfl) (by kernel_rfl) (by kernel_rfl) (fun _ _ _ h => h) (Or.inl ⟨by rfl, fun w hSw => by (obtain ⟨hS0, hS1, hS2, hS3, hS4, hS5⟩ := hSw; go_simp)⟩) hHeld ?_
    try simp only [Act.put, List.setIfInBounds_toArray, List.set_cons_zero, List.set_cons_succ]
    refine' wpAnyH_take (i := 3) (v := _) rfl (by kernel_rfl) (by kernel_rfl) (by kernel_rfl) (fun _ _ _ h => h) (yieldsIf_load_mid (by rfl) _ _ rfl _ _ rfl _ _ (fun w hSw => hSw.1) hu23 rfl hi23) hHeld ?_
    try simp only [Act.put, List.setIfInBounds_toArray, List.set_cons_zero, List.set_cons_succ]
    refine wpAnyH_take (i := 4) (v := .agg #[.int .i64 op, .int .i64 wd, .int .u64 vl, .string nm, .slice p ts.length c]) rfl (by kernel_rfl) (by kernel_rfl) (by kernel_rfl) (fun _ _ _ h => h) (Or.inl ⟨by rfl, fun w hSw => by (obtain ⟨hS0, hS1, hS2, hS3, hS4, hS5⟩ := hSw; go_simp)⟩) hHeld ?_
    try simp only [Act.put, List.setIfInBounds_toArray, List.set_cons_zero, List.set_cons_succ]
    refine wpAnyH_ready (rs := [2]) (by kernel_rfl) (by simp) ?_
    refine AllReadyH.cons (o := _) rfl (fun K hK => ?_) AllReadyH.nil
    go_simp
    go_at_call 16; with_reducible refine (C16.out _ (bk_drew K1.out)).mono ?_; rintro e w6 ⟨rfl, hq⟩; have hkA := bk_tr (bk_drew K1.out) hq
    refine hK.out _ _ (six (HROW.out _ (by first | assumption | exact bk_drew K1.out)) (HX.out _ (by first | assumption | exact bk_drew K1.out))) (fun hHeld => ?_)
    clear hK K
    try simp only [Act.put, List.setIfInBounds_toArray, List.set_cons_zero, List.set_cons_succ]
    refine wpAnyH_ready (rs := [5]) (by kernel_rfl) (by simp) ?_
    refine AllReadyH.cons (o := _) rfl (fun K hK => ?_) AllReadyH.nil
    go_simp
    go_at_call 17; with_reducible refine (C17.out _ hkA).mono ?_; rintro e w6 ⟨rfl, hq⟩; have hkB := bk_tr hkA hq
    refine hK.out _ _ (six (HROW.out _ (by first | assumption | exact bk_drew K1.out)) (HX.out _ (by first | assumption | exact bk_drew K1.out))) (fun hHeld => ?_)
    clear hK K
    try simp only [Act.put, List.setIfInBounds_toArray, List.set_cons_zero, List.set_cons_succ]
    refine wpAnyH_take (i := 6) (v := .bool true) rfl (by kernel_rfl) (by kernel_rfl) (by kernel_rfl) (fun _ _ _ h => h) (Or.inl ⟨by rfl, fun w hSw => by (go_simp)⟩) hHeld ?_
    try simp only [Act.put, List.setIfInBounds_toArray, List.set_cons_zero, List.set_cons_succ]
    refine wpAnyH_take (i := 7) (v := .bool true) rfl (by kernel_rfl) (by kernel_rfl) (by kernel_rfl) (fun _ _ _ h => h) (Or.inl ⟨by rfl, fun w hSw => by (go_simp)⟩) hHeld ?_
    try simp only [Act.put, List.setIfInBounds_toArray, List.set_cons_zero, List.set_cons_succ]
    refine wpAnyH_ready (rs := [8]) (by kernel_rfl) (by simp) ?_
    refine AllReadyH.cons (o := _) rfl (fun K hK => ?_) AllReadyH.nil
    go_simp
    go_at_call 14; refine (HT14.out _ hkB).mono ?_; rintro e w6 ⟨rfl, hq⟩; have hkC := bk_tr hkB hq
    refine hK.out _ _ (six (HROW.out _ (by first | assumption | exact bk_drew K1.out)) (HX.out _ (by first | assumption | exact bk_drew K1.out))) (fun hHeld => ?_)
    clear hK K
    try simp only [Act.put, List.setIfInBounds_toArray, List.set_cons_zero, List.set_cons_succ]
    refine wpAnyH_ready (rs := [9]) (by kernel_rfl) (by simp) ?_
    refine AllReadyH.cons (o := _) rfl (fun K hK => ?_) AllReadyH.nil
    go_simp
    refine hK.out _ _ (six (HROW.out _ (by first | assumption | exact bk_drew K1.out)) (HX.out _ (by first | assumption | exact bk_drew K1.out))) (fun hHeld => ?_)
    clear hK K
    try simp only [Act.put, List.setIfInBounds_toArray, List.set_cons_zero, List.set_cons_succ]
    refine wpAnyH_ready (rs := [10]) (by kernel_rfl) (by simp) ?_
    refine AllReadyH.cons (o := _) rfl (fun K hK => ?_) AllReadyH.nil
    go_simp
    refine hK.out _ _ (six (HROW.out _ (by first | assumption | exact bk_drew K1.out)) (HX.out _ (by first | assumption | exact bk_drew K1.out))) (fun hHeld => ?_)
    clear hK K
    try simp only [Act.put, List.setIfInBounds_toArray, List.set_cons_zero, List.set_cons_succ]
    refine wpAnyH_done (by kernel_rfl) ?_ _
    have HC := Lib.hid hkC
    clear hkA hkB hkC
    go_wp2_with fail
    go_ret
    exact ⟨rfl, bk_tr HK0.out HC.out⟩
set_option maxRecDepth 100000 in
set_option maxHeartbeats 2000000 in
theorem nodes_law (cs : List Int) (hcs : cs.length = 32) (op a b : Int) (w : World) (htb : Tb w) :
    Calls Tryd.prog 3 #[.agg (ca cs), .int .i64 op, .agg #[.int .i64 a, .int .i64 b]] w fun e w' => e = .returned (.bool true) ∧ BK w w' := by
  have hk0 := bk_alloc (bk_alloc (BK.refl w) (.cells (ca cs) 23)) (.cells #[.int .i64 a, .int .i64 b] 25)
  have hrow : ((w.alloc (.cells (ca cs) 23)).alloc (.cells #[.int .i64 a, .int .i64 b] 25)).heap[w.heap.size]? = some (.cells (ca cs) 23 (0, 0)) := by
    rw [heap_alloc_old _ _ (by simp)]; exact heap_alloc_new w _
  have hs : (w.alloc (.cells (ca cs) 23)).heap.size = w.heap.size + 1 := by simp
  have hv : ((w.alloc (.cells (ca cs) 23)).alloc (.cells #[.int .i64 a, .int .i64 b] 25)).cell? ⟨w.heap.size + 1, 0, none⟩ = some (.int .i64 a) ∧ ((w.alloc (.cells (ca cs) 23)).alloc (.cells #[.int .i64 a, .int .i64 b] 25)).cell? ⟨w.heap.size + 1, 1, none⟩ = some (.int .i64 b) := by
    rw [← hs]
    exact ⟨by rw [World.cell?_alloc_new]; rfl, by rw [World.cell?_alloc_new]; rfl⟩
  have HT := Lib.hid (htb.keep hk0)
  clear htb hs
  go_enter Tryd.func3, Tryd.ntmps3
  go_wp2_with fail
  generalize (w.alloc (.cells (ca cs) 23)).alloc (.cells #[.int .i64 a, .int .i64 b] 25) = w0 at hk0 hrow hv HT ⊢
  obtain ⟨v0, v1⟩ := hv
  have hl0 : w.heap.size < w0.heap.size := (Array.getElem?_eq_some_iff.1 hrow).1
  have HROW := Lib.hid (fun wc (hb : BK w0 wc) => range_ca (cs := cs) (((show Below w0.heap.size w0 wc from hb).block w.heap.size hl0).trans hrow))
  have HK0 := Lib.hid hk0
  have HT14 := Lib.hid (fun wc (hb : BK w0 wc) => lives14 wc (HT.out.keep hb))
  clear hk0 hrow hl0
  go_quiet (fail)
  have k1 : BK w0 (w0.drewN nq) := bk_drewN (BK.refl w0) nq
  clear v0 v1
  generalize w0.drewN nq = w1 at k1 ⊢
  have K1 := Lib.hid k1
  clear k1
  go_wp2_with fail
  have C9 := Lib.hid (fun wc => node9 cs op wc hcs)
  have C10 := Lib.hid (fun wc => node10 cs op wc hcs)
  have D9 := Lib.hid (fun wc => node9 (uni 26) op wc (uni_len 26))
  rw [uni_node] at D9
  unfold ca at C9 C10
  generalize nodeC cs op = r at C9 C10
  have C11 := Lib.hid (fun wc => add11 a b wc)
  have C12 := Lib.hid (fun wc => add12 a b wc)
  generalize addC a b = s at C11 C12
  have hu23 := Tryd.underlying23
  have hi23 : (Tryd.prog.info? 23).map (·.size) = some (cs.map (Value.int .i64)).length := by rw [List.length_map, hcs]; kernel_rfl
  refine wp_region_held_drew (S := fun w' => w'.rangeAt w.heap.size 0 (cs.map (Value.int .i64)) ∧ True) (by kernel_rfl) (And.intro (HROW.out _ (bk_drew K1.out)) trivial) (fun hHeld => ?_)
  refine' wpAnyH_take (i := 0) (v := _) rfl (by kernel_rfl) (by kernel_rfl) (by kernel_rfl) (fun _ _ _ h => h) (yieldsIf_load_mid (by rfl) _ _ rfl _ _ rfl _ _ (fun w hSw => hSw.1) hu23 rfl hi23) hHeld ?_
  try simp only [Act.put, List.setIfInBounds_toArray, List.set_cons_zero, List.set_cons_succ]
  refine wpAnyH_take (i := 1) (v := .int .i64 op) rfl (by kernel_rfl) (by kernel_rfl) (by kernel_rfl) (fun _ _ _ h => h) (Or.inl ⟨by rfl, fun w hSw => by (go_simp)⟩) hHeld ?_
  try simp only [Act.put, List.setIfInBounds_toArray, List.set_cons_zero, List.set_cons_succ]
  refine' wpAnyH_take (i := 3) (v := _) rfl (by kernel_rfl) (by kernel_rfl) (by kernel_rfl) (fun _ _ _ h => h) (yieldsIf_load_mid (by rfl) _ _ rfl _ _ rfl _ _ (fun w hSw => hSw.1) hu23 rfl hi23) hHeld ?_
  try simp only [Act.put, List.setIfInBounds_toArray, List.set_cons_zero, List.set_cons_succ]
  refine wpAnyH_take (i := 4) (v := .int .i64 op) rfl (by kernel_rfl) (by kernel_rfl) (by kernel_rfl) (fun _ _ _ h => h) (Or.inl ⟨by rfl, fun w hSw => by (go_simp)⟩) hHeld ?_
  try simp only [Act.put, List.setIfInBounds_toArray, List.set_cons_zero, List.set_cons_succ]
  refine wpAnyH_ready (rs := [2]) (by kernel_rfl) (by simp) ?_
  refine AllReadyH.cons (o := _) rfl (fun K hK => ?_) AllReadyH.nil
  go_simp
  go_at_call 9; with_reducible refine (C9.out _).mono ?_; rintro e w6 ⟨rfl, hq⟩; have hkA := bk_tr (bk_drew K1.out) hq
  refine hK.out _ _ (And.intro (HROW.out _ (by first | assumption | exact bk_drew K1.out)) trivial) (fun hHeld => ?_)
  clear hK K
  try simp only [Act.put, List.setIfInBounds_toArray, List.set_cons_zero, List.set_cons_succ]
  refine wpAnyH_ready (rs := [5]) (by kernel_rfl) (by simp) ?_
  refine AllReadyH.cons (o := _) rfl (fun K hK => ?_) AllReadyH.nil
  go_simp
  go_at_call 10; with_reducible refine (C10.out _).mono ?_; rintro e w6 ⟨rfl, hq⟩; have hkB := bk_tr hkA hq
  refine hK.out _ _ (And.intro (HROW.out _ (by first | assumption | exact bk_drew K1.out)) trivial) (fun hHeld => ?_)
  clear hK K
  try simp only [Act.put, List.setIfInBounds_toArray, List.set_cons_zero, List.set_cons_succ]
  refine wpAnyH_take (i := 6) (v := .bool true) rfl (by kernel_rfl) (by kernel_rfl) (by kernel_rfl) (fun _ _ _ h => h) (Or.inl ⟨by rfl, fun w hSw => by (go_simp)⟩) hHeld ?_
  try simp only [Act.put, List.setIfInBounds_toArray, List.set_cons_zero, List.set_cons_succ]
  refine wpAnyH_take (i := 7) (v := .bool true) rfl (by kernel_rfl) (by kernel_rfl) (by kernel_rfl) (fun _ _ _ h => h) (Or.inl ⟨by rfl, fun w hSw => by (go_simp)⟩) hHeld ?_
  try simp only [Act.put, List.setIfInBounds_toArray, List.set_cons_zero, List.set_cons_succ]
  refine wpAnyH_take (i := 8) (v := .int .i64 a) rfl (by kernel_rfl) (by kernel_rfl) (by kernel_rfl) (fun _ _ _ h => h) (Or.inl ⟨by rfl, fun w hSw => by (go_simp)⟩) hHeld ?_
  try simp only [Act.put, List.setIfInBounds_toArray, List.set_cons_zero, List.set_cons_succ]
  refine wpAnyH_take (i := 9) (v := .int .i64 b) rfl (by kernel_rfl) (by kernel_rfl) (by kernel_rfl) (fun _ _ _ h => h) (Or.inl ⟨by rfl, fun w hSw => by (go_simp)⟩) hHeld ?_
  try simp only [Act.put, List.setIfInBounds_toArray, List.set_cons_zero, List.set_cons_succ]
  refine wpAnyH_take (i := 11) (v := .int .i64 a) rfl (by kernel_rfl) (by kernel_rfl) (by kernel_rfl) (fun _ _ _ h => h) (Or.inl ⟨by rfl, fun w hSw => by (go_simp)⟩) hHeld ?_
  try simp only [Act.put, List.setIfInBounds_toArray, List.set_cons_zero, List.set_cons_succ]
  refine wpAnyH_take (i := 12) (v := .int .i64 b) rfl (by kernel_rfl) (by kernel_rfl) (by kernel_rfl) (fun _ _ _ h => h) (Or.inl ⟨by rfl, fun w hSw => by (go_simp)⟩) hHeld ?_
  try simp only [Act.put, List.setIfInBounds_toArray, List.set_cons_zero, List.set_cons_succ]
  refine wpAnyH_ready (rs := [10]) (by kernel_rfl) (by simp) ?_
  refine AllReadyH.cons (o := _) rfl (fun K hK => ?_) AllReadyH.nil
  go_simp
  go_at_call 11; with_reducible refine (C11.out _).mono ?_; rintro e w6 ⟨rfl, rfl⟩
  refine hK.out _ _ (And.intro (HROW.out _ (by first | assumption | exact bk_drew K1.out)) trivial) (fun hHeld => ?_)
  clear hK K
  try simp only [Act.put, List.setIfInBounds_toArray, List.set_cons_zero, List.set_cons_succ]
  refine wpAnyH_ready (rs := [13]) (by kernel_rfl) (by simp) ?_
  refine AllReadyH.cons (o := _) rfl (fun K hK => ?_) AllReadyH.nil
  go_simp
  go_at_call 12; with_reducible refine (C12.out _).mono ?_; rintro e w6 ⟨rfl, rfl⟩
  refine hK.out _ _ (And.intro (HROW.out _ (by first | assumption | exact bk_drew K1.out)) trivial) (fun hHeld => ?_)
  clear hK K
  try simp only [Act.put, List.setIfInBounds_toArray, List.set_cons_zero, List.set_cons_succ]
  refine wpAnyH_take (i := 14) (v := .bool true) rfl (by kernel_rfl) (by kernel_rfl) (by kernel_rfl) (fun _ _ _ h => h) (Or.inl ⟨by rfl, fun w hSw => by (go_simp)⟩) hHeld ?_
  try simp only [Act.put, List.setIfInBounds_toArray, List.set_cons_zero, List.set_cons_succ]
  refine wpAnyH_take (i := 15) (v := .bool true) rfl (by kernel_rfl) (by kernel_rfl) (by kernel_rfl) (fun _ _ _ h => h) (Or.inl ⟨by rfl, fun w hSw => by (go_simp)⟩) hHeld ?_
  try simp only [Act.put, List.setIfInBounds_toArray, List.set_cons_zero, List.set_cons_succ]
  refine wpAnyH_take (i := 16) (v := .bool true) rfl (by kernel_rfl) (by kernel_rfl) (by kernel_rfl) (fun _ _ _ h => h) (Or.inl ⟨by rfl, fun w hSw => by (go_simp)⟩) hHeld ?_
  try simp only [Act.put, List.setIfInBounds_toArray, List.set_cons_zero, List.set_cons_succ]
  refine wpAnyH_take (i := 18) (v := .int .i64 op) rfl (by kernel_rfl) (by kernel_rfl) (by kernel_rfl) (fun _ _ _ h => h) (Or.inl ⟨by rfl, fun w hSw => by (go_simp)⟩) hHeld ?_
  try simp only [Act.put, List.setIfInBounds_toArray, List.set_cons_zero, List.set_cons_succ]
  refine wpAnyH_ready (rs := [17]) (by kernel_rfl) (by simp) ?_
  refine AllReadyH.cons (o := _) rfl (fun K hK => ?_) AllReadyH.nil
  go_simp
  go_at_call 13; refine (uniform13 _).mono ?_; rintro e w6 ⟨rfl, hq⟩; have hkC := bk_tr hkB hq
  refine hK.out _ _ (And.intro (HROW.out _ (by first | assumption | exact bk_drew K1.out)) trivial) (fun hHeld => ?_)
  clear hK K
  try simp only [Act.put, List.setIfInBounds_toArray, List.set_cons_zero, List.set_cons_succ]
  refine wpAnyH_ready (rs := [19]) (by kernel_rfl) (by simp) ?_
  refine AllReadyH.cons (o := _) rfl (fun K hK => ?_) AllReadyH.nil
  go_simp
  go_at_call 9; with_reducible refine (D9.out _).mono ?_; rintro e w6 ⟨rfl, hq⟩; have hkD := bk_tr hkC hq
  refine hK.out _ _ (And.intro (HROW.out _ (by first | assumption | exact bk_drew K1.out)) trivial) (fun hHeld => ?_)
  clear hK K
  try simp only [Act.put, List.setIfInBounds_toArray, List.set_cons_zero, List.set_cons_succ]
  refine wpAnyH_take (i := 20) (v := .bool true) rfl (by kernel_rfl) (by kernel_rfl) (by kernel_rfl) (fun _ _ _ h => h) (Or.inl ⟨by rfl, fun w hSw => by (go_simp)⟩) hHeld ?_
  try simp only [Act.put, List.setIfInBounds_toArray, List.set_cons_zero, List.set_cons_succ]
  refine wpAnyH_take (i := 21) (v := .bool true) rfl (by kernel_rfl) (by kernel_rfl) (by kernel_rfl) (fun _ _ _ h => h) (Or.inl ⟨by rfl, fun w hSw => by (go_simp)⟩) hHeld ?_
  try simp only [Act.put, List.setIfInBounds_toArray, List.set_cons_zero, List.set_cons_succ]
  refine wpAnyH_take (i := 22) (v := .bool true) rfl (by kernel_rfl) (by kernel_rfl) (by kernel_rfl) (fun _ _ _ h => h) (Or.inl ⟨by rfl, fun w hSw => by (go_simp)⟩) hHeld ?_
  try simp only [Act.put, List.setIfInBounds_toArray, List.set_cons_zero, List.set_cons_succ]
  refine wpAnyH_ready (rs := [23]) (by kernel_rfl) (by simp) ?_
  refine AllReadyH.cons (o := _) rfl (fun K hK => ?_) AllReadyH.nil
  go_simp
  go_at_call 14; refine (HT14.out _ hkD).mono ?_; rintro e w6 ⟨rfl, hq⟩; have hkE := bk_tr hkD hq
  refine hK.out _ _ (And.intro (HROW.out _ (by first | assumption | exact bk_drew K1.out)) trivial) (fun hHeld => ?_)
  clear hK K
  try simp only [Act.put, List.setIfInBounds_toArray, List.set_cons_zero, List.set_cons_succ]
  refine wpAnyH_ready (rs := [24]) (by kernel_rfl) (by simp) ?_
  refine AllReadyH.cons (o := _) rfl (fun K hK => ?_) AllReadyH.nil
  go_simp
  refine hK.out _ _ (And.intro (HROW.out _ (by first | assumption | exact bk_drew K1.out)) trivial) (fun hHeld => ?_)
  clear hK K
  try simp only [Act.put, List.setIfInBounds_toArray, List.set_cons_zero, List.set_cons_succ]
  refine wpAnyH_ready (rs := [25]) (by kernel_rfl) (by simp) ?_
  refine AllReadyH.cons (o := _) rfl (fun K hK => ?_) AllReadyH.nil
  go_simp
  refine hK.out _ _ (And.intro (HROW.out _ (by first | assumption | exact bk_drew K1.out)) trivial) (fun hHeld => ?_)
  clear hK K
  try simp only [Act.put, List.setIfInBounds_toArray, List.set_cons_zero, List.set_cons_succ]
  refine wpAnyH_done (by kernel_rfl) ?_ _
  have HE := Lib.hid hkE
  clear hkA hkB hkC hkD hkE
  go_wp2_with fail
  go_ret
  exact ⟨rfl, bk_tr HK0.out HE.out⟩
end Go.Proofs.YtmejiiebeknbjaaDoor
