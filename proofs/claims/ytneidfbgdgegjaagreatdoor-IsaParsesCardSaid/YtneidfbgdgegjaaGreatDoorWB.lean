/- The text of a program. -/
import Derived.Test.YtneidfbgdgegjaaGreatDoorWC
import Derived.Test.YtneidfbgdgegjaaGreatDoorWD
namespace Go.Proofs.YtneidfbgdgegjaaGreatDoor
open Go.RowKit
set_option linter.unusedVariables false
set_option linter.unusedSimpArgs false
theorem tl_le (k : Nat) : ∀ xs : List (List UInt8), (∀ x ∈ xs, x.length ≤ k) → (tl32 xs).length ≤ xs.length * (k + 1)
  | [], _ => by simp [tl32]
  | x :: r, h => by
    have ih := tl_le k r (fun y hy => h y (by simp [hy]))
    have hx := h x (by simp)
    show (32 :: x ++ tl32 r).length ≤ _
    rw [List.length_append, List.length_cons, List.length_cons, Nat.add_mul]
    omega
theorem jn_le (k : Nat) (xs : List (List UInt8)) (h : ∀ x ∈ xs, x.length ≤ k) : (jn xs).length ≤ xs.length * (k + 1) := by
  cases xs with
  | nil => simp [jn]
  | cons x r =>
    have := tl_le k r (fun y hy => h y (by simp [hy]))
    have hx := h x (by simp)
    show (x ++ tl32 r).length ≤ _
    rw [List.length_append, List.length_cons, Nat.add_mul]
    omega
theorem nameL_len (op : Int) : (nameL op).length ≤ 64 := by
  unfold nameL
  split
  · have : ∀ n : Nat, (nmT.getD n []).length ≤ 64 := fun n => by
      by_cases h : n < nmT.length
      · rw [List.getD_eq_getElem?_getD, List.getElem?_eq_getElem h, Option.getD_some]
        have : ∀ x ∈ nmT, x.length ≤ 64 := by decide
        exact this _ (List.getElem_mem h)
      · rw [List.getD_eq_getElem?_getD, List.getElem?_eq_none (by omega)]; simp
    exact this _
  · simp
theorem regT_len {n : Int} (h : In64 n) : (regT n).length ≤ 64 := by
  have := Lib.itoa_length_le n h.1 h.2
  show (114 :: Lib.itoa n).length ≤ 64
  simp; omega
theorem insW_len (i : I6) : (insW i).length ≤ 6 := by
  have := uses_len i
  unfold insW
  simp only [List.length_cons, List.length_append, List.length_map]
  split <;> split <;> simp <;> omega
theorem insW_jn {i : I6} (h : I64 i) : (jn (insW i)).length ≤ 390 := by
  refine Nat.le_trans (jn_le 64 _ ?_) (by have := insW_len i; omega)
  intro x hx
  unfold insW at hx
  rcases List.mem_cons.1 hx with rfl | hx
  · exact nameL_len _
  · rcases List.mem_append.1 hx with hx | hx
    · rcases List.mem_append.1 hx with hx | hx
      · split at hx
        · simp at hx; subst hx; exact regT_len h.d
        · simp at hx
      · split at hx
        · simp at hx; subst hx; exact wrn_len 10 _ (.inl rfl) (by have := h.m1; have := h.m0; omega)
        · simp at hx
    · obtain ⟨y, hy, rfl⟩ := List.mem_map.1 hx
      exact regT_len (uses64 h y hy)
theorem outW_jn (out : List Int) (h : ∀ x ∈ out, In64 x) (hl : out.length ≤ 1000) : (jn (outW out)).length ≤ 65065 := by
  refine Nat.le_trans (jn_le 64 _ ?_) (by unfold outW; simp; omega)
  intro x hx
  unfold outW at hx
  rcases List.mem_cons.1 hx with rfl | hx
  · decide
  · obtain ⟨y, hy, rfl⟩ := List.mem_map.1 hx
    exact regT_len (h y hy)
theorem headW_jn {W R : Int} (h1 : In64 W) (h2 : In64 R) : (jn (headW W R)).length ≤ 260 := by
  refine Nat.le_trans (jn_le 64 _ ?_) (by unfold headW; simp)
  intro x hx
  unfold headW at hx
  have a := Lib.itoa_length_le W h1.1 h1.2
  have b := Lib.itoa_length_le R h2.1 h2.2
  simp at hx
  rcases hx with rfl | rfl | rfl | rfl
  · decide
  · omega
  · decide
  · omega
/-- the lines of the first instructions -/
def insP (l : List I6) : List UInt8 := l.flatMap fun i => lineP (insW i)
theorem insP_len : ∀ l : List I6, (∀ i ∈ l, I64 i) → (insP l).length ≤ l.length * 391
  | [], _ => by simp [insP]
  | i :: r, h => by
    have ih := insP_len r (fun j hj => h j (by simp [hj]))
    have h1 := insW_jn (h i (by simp))
    have h2 : (lineP (insW i)).length = (jn (insW i)).length + 1 := by unfold lineP; simp
    have h3 : (insP (i :: r)).length = (lineP (insW i)).length + (insP r).length := by unfold insP; simp
    rw [h3, h2, List.length_cons, Nat.add_mul]
    generalize (insP r).length = x1 at *
    generalize (jn (insW i)).length = x2 at *
    generalize r.length = x3 at *
    omega
theorem insP_snoc (l : List I6) (k : Nat) (h : k < l.length) : insP (l.take (k + 1)) = insP (l.take k) ++ lineP (insW l[k]) := by
  unfold insP
  rw [List.take_add_one, List.getElem?_eq_getElem h, List.flatMap_append]
  simp
theorem insW_ne (i : I6) : insW i ≠ [] := by unfold insW; simp
theorem outW_ne (o : List Int) : outW o ≠ [] := by unfold outW; simp
theorem A6.low {b : Nat} {w w' : World} {g o : Nat} {i : I6} (h : A6 w g o i) (f : Fr b w w') (hg : g < b) : A6 w' g o i := by
  have e := f.low g (World.block_lt_of_cell? w _ h.1) hg
  obtain ⟨q0, q1, q2, q3, q4, q5⟩ := h
  exact ⟨(cell_at e).trans q0, (cell_at e).trans q1, (cell_at e).trans q2, (cell_at e).trans q3, (cell_at e).trans q4, (cell_at e).trans q5⟩
theorem BU.is {w : World} {b : Nat} {x v : Value} {l : List UInt8} (h : BU w b x v l) (hx : adr b x) : Lib.IsBuilder 64 5 b b (Lib.byteCells l) w := by
  have hat : Lib.BuilderAt 64 5 b b x (Lib.byteCells l) w := ⟨Nat.le_refl _, v, h.h, by rw [Lib.byteCells_length]; exact own_mono h.own (by omega), fun e => by have := (h.own.lt b e).1; omega⟩
  rcases hx with rfl | rfl
  · exact .inl hat
  · exact .inr hat
set_option maxRecDepth 100000 in
set_option maxHeartbeats 4000000 in
theorem print33 (W R : Int) (p q : Option Addr) (pc qc : Nat) (ins : List I6) (out : List Int) (w : World) (ht : Tb w) (hi : RI w p pc ins) (ho : RO w q qc out) (hW : In64 W) (hR : In64 R) (h64 : ∀ i ∈ ins, I64 i) (o64 : ∀ x ∈ out, In64 x) (li : ins.length ≤ 2000) (lo : out.length ≤ 1000) :
    Calls Tryz.prog 33 #[.agg #[.int .i64 W, .int .i64 R, .slice p ins.length pc, .slice q out.length qc]] w fun e w' => e = .returned (.string (sB (printP W R ins out))) ∧ BK w w' := by
  have HT := Lib.hid ht
  have HI := Lib.hid hi
  have HO := Lib.hid ho
  have H64 := Lib.hid h64
  have O64 := Lib.hid o64
  have HW := Lib.hid hW
  have HR := Lib.hid hR
  have HL1 := Lib.hid (headW_jn hW hR)
  have HL2 := Lib.hid (fun k => insP_len (ins.take k) (fun i hi => h64 i (List.mem_of_mem_take hi)))
  have HL3 := Lib.hid (outW_jn out o64 lo)
  have K0 := Lib.hid (bk_alloc (BK.refl w) (.cells #[.int .i64 W, .int .i64 R, .slice p ins.length pc, .slice q out.length qc] 34))
  have N0 := Lib.hid (heap_alloc_new w (.cells #[.int .i64 W, .int .i64 R, .slice p ins.length pc, .slice q out.length qc] 34))
  clear ht hi ho h64 o64 hW hR
  go_enter Tryz.func33, Tryz.ntmps33
  go_upto_region 1 with (fail)
  have LB := Lib.hid (show w.heap.size < (w.alloc (.cells #[.int .i64 W, .int .i64 R, .slice p ins.length pc, .slice q out.length qc] 34)).heap.size from box_lt w _ _)
  generalize w.alloc (.cells #[.int .i64 W, .int .i64 R, .slice p ins.length pc, .slice q out.length qc] 34) = wB at K0 N0 LB ⊢
  have K1 := Lib.hid (bk_alloc (BK.refl wB) (.cells #[.pointer none, .slice none 0 0] 64))
  have N1 := Lib.hid (heap_alloc_new wB (.cells #[.pointer none, .slice none 0 0] 64))
  go_upto_region 2 with (fail)
  have U1 := Lib.hid (show BU (wB.alloc (.cells #[.pointer none, .slice none 0 0] 64)) wB.heap.size (.pointer none) (.slice none 0 0) [] from ⟨N1.out, World.ownsRow_nil _ _ _ _⟩)
  generalize wB.alloc (.cells #[.pointer none, .slice none 0 0] 64) = w1 at K1 U1 ⊢
  clear N1
  have C1 := Lib.hid (show C4 w1 w.heap.size W R (.slice p ins.length pc) (.slice q out.length qc) from (bk_block K1.out LB.out).trans N0.out)
  have F1 := Lib.hid (Fr.bk (b := wB.heap.size) (BK.refl w1))
  generalize hb : wB.heap.size = b at U1 F1 LB ⊢
  generalize w.heap.size = c at C1 LB ⊢
  clear N0
  refine wp_region_held_drew (S := fun W' => C4 W' c W R (.slice p ins.length pc) (.slice q out.length qc)) (by kernel_rfl) (C1.out.keep (bk_drew (BK.refl w1))) (fun hHeld => ?_)
  have C2 := Lib.hid (C1.out.keep (bk_drew (BK.refl w1)))
  have KD := Lib.hid (bk_drew K1.out)
  have U2 := Lib.hid (show BU w1.drew b (.pointer none) (.slice none 0 0) [] from ⟨U1.out.h, own_below U1.out.own (bk_drew (BK.refl w1))⟩)
  have F2 := Lib.hid (Fr.bk (b := b) (bk_drew (BK.refl w1)))
  generalize w1.drew = w2 at hHeld C2 KD U2 F2 ⊢
  clear U1
  refine wpAnyH_take (i := 0) (v := .pointer (some ⟨c, 0, none⟩)) rfl (by kernel_rfl) (by kernel_rfl) (by kernel_rfl) (fun _ _ _ h => h) (Or.inl ⟨by kernel_rfl, fun w hSw => by (go_simp)⟩) hHeld ?_
  try simp only [Act.put, List.setIfInBounds_toArray, List.set_cons_zero, List.set_cons_succ]
  refine wpAnyH_take (i := 3) (v := .pointer (some ⟨c, 1, none⟩)) rfl (by kernel_rfl) (by kernel_rfl) (by kernel_rfl) (fun _ _ _ h => h) (Or.inl ⟨by kernel_rfl, fun w hSw => by (go_simp)⟩) hHeld ?_
  try simp only [Act.put, List.setIfInBounds_toArray, List.set_cons_zero, List.set_cons_succ]
  refine wpAnyH_take (i := 1) (v := .int .i64 W) rfl (by kernel_rfl) (by kernel_rfl) (by kernel_rfl) (fun _ _ _ h => h) (Or.inl ⟨by kernel_rfl, fun w hSw => by (obtain ⟨z0, z1, z2, z3⟩ := C4.b4 hSw; go_simp)⟩) hHeld ?_
  try simp only [Act.put, List.setIfInBounds_toArray, List.set_cons_zero, List.set_cons_succ]
  refine wpAnyH_take (i := 4) (v := .int .i64 R) rfl (by kernel_rfl) (by kernel_rfl) (by kernel_rfl) (fun _ _ _ h => h) (Or.inl ⟨by kernel_rfl, fun w hSw => by (obtain ⟨z0, z1, z2, z3⟩ := C4.b4 hSw; go_simp)⟩) hHeld ?_
  try simp only [Act.put, List.setIfInBounds_toArray, List.set_cons_zero, List.set_cons_succ]
  refine wpAnyH_ready (rs := [2]) (by kernel_rfl) (by simp) ?_
  refine AllReadyH.cons (o := _) rfl (fun K9 hK9 => ?_) AllReadyH.nil
  go_simp
  go_at_call 47
  have CC := int13 W HW.out w2 (HT.out.keep (bk_tr K0.out KD.out))
  refine CC.mono ?_
  clear CC
  rintro e w3 ⟨rfl, b3⟩
  have C3 := Lib.hid (C2.out.keep b3)
  have K3 := Lib.hid (bk_tr KD.out b3)
  have U3 := Lib.hid (show BU w3 b (.pointer none) (.slice none 0 0) [] from ⟨(bk_block b3 (Array.getElem?_eq_some_iff.1 U2.out.h).1).trans U2.out.h, own_below U2.out.own b3⟩)
  have F3 := Lib.hid (F2.out.trans (Fr.bk b3))
  clear b3
  refine hK9.out _ _ C3.out (fun hHeld => ?_)
  clear hK9 K9
  try simp only [Act.put, List.setIfInBounds_toArray, List.set_cons_zero, List.set_cons_succ]
  refine wpAnyH_ready (rs := [5]) (by kernel_rfl) (by simp) ?_
  refine AllReadyH.cons (o := _) rfl (fun K9 hK9 => ?_) AllReadyH.nil
  go_simp
  go_at_call 47
  have CC := int13 R HR.out w3 (HT.out.keep (bk_tr K0.out K3.out))
  refine CC.mono ?_
  clear CC
  rintro e w4 ⟨rfl, b4⟩
  have C4' := Lib.hid (C3.out.keep b4)
  have K4 := Lib.hid (bk_tr K3.out b4)
  have U4 := Lib.hid (show BU w4 b (.pointer none) (.slice none 0 0) [] from ⟨(bk_block b4 (Array.getElem?_eq_some_iff.1 U3.out.h).1).trans U3.out.h, own_below U3.out.own b4⟩)
  have F4 := Lib.hid (F3.out.trans (Fr.bk b4))
  clear b4 C3 K3 U3 F3 C2 KD U2 F2
  refine hK9.out _ _ C4'.out (fun hHeld => ?_)
  clear hK9 K9
  try simp only [Act.put, List.setIfInBounds_toArray, List.set_cons_zero, List.set_cons_succ]
  refine wpAnyH_ready (rs := [6]) (by kernel_rfl) (by simp) ?_
  refine AllReadyH.cons (o := _) rfl (fun K9 hK9 => ?_) AllReadyH.nil
  go_simp
  have EH := Lib.hid (show (strs (headW W R)).toArray = #[.string { data := #[119, 105, 100, 116, 104] }, .string { data := (Lib.itoa W).toArray }, .string { data := #[114, 101, 103, 115] }, .string { data := (Lib.itoa R).toArray }] from rfl)
  have OH := Lib.hid (own_new w4 0 (Nat.zero_le _) (headW W R) (by show 4 ≤ _; omega))
  rw [EH.out] at OH
  have KA := Lib.hid (bk_alloc (BK.refl w4) (.cells #[.string { data := #[119, 105, 100, 116, 104] }, .string { data := (Lib.itoa W).toArray }, .string { data := #[114, 101, 103, 115] }, .string { data := (Lib.itoa R).toArray }] 9))
  have C5 := Lib.hid (C4'.out.keep KA.out)
  refine hK9.out _ _ C5.out (fun hHeld => ?_)
  clear hK9 K9 EH
  try simp only [Act.put, List.setIfInBounds_toArray, List.set_cons_zero, List.set_cons_succ]
  generalize w4.alloc _ = w5 at OH KA C5 hHeld ⊢
  have K5 := Lib.hid (bk_tr K4.out KA.out)
  have U5 := Lib.hid (show BU w5 b (.pointer none) (.slice none 0 0) [] from ⟨(bk_block KA.out (Array.getElem?_eq_some_iff.1 U4.out.h).1).trans U4.out.h, own_below U4.out.own KA.out⟩)
  have F5 := Lib.hid (F4.out.trans (Fr.bk KA.out))
  clear U4 F4 KA K4 C4'
  generalize w4.heap.size = h4 at OH ⊢
  have LL := Lib.hid (show Calls Tryz.prog 46 #[.pointer (some ⟨b, 0, none⟩), .slice (some ⟨h4, 0, none⟩) 4 4] w5 fun e w' => e = .returned (.tuple #[]) ∧ ∃ v', BU w' b (.pointer (some ⟨b, 0, none⟩)) v' ([] ++ lineP (headW W R)) ∧ Fr b w5 w' from line46 (headW W R) (by unfold headW; simp) (by show 4 ≤ _; omega) (by have := HL1.out; omega) (some ⟨h4, 0, none⟩) 4 0 w5 OH.out b _ _ [] U5.out (.inl rfl) (by have := HL1.out; simp; omega))
  refine wpAnyH_ready (rs := [7]) (by kernel_rfl) (by simp) ?_
  refine AllReadyH.cons (o := _) rfl (fun K9 hK9 => ?_) AllReadyH.nil
  go_simp
  go_at_call 46
  refine LL.out.mono ?_
  clear LL
  rintro e w6 ⟨rfl, v6, u6, f6⟩
  have C6 := Lib.hid (show C4 w6 c W R (.slice p ins.length pc) (.slice q out.length qc) from (f6.low c (Array.getElem?_eq_some_iff.1 C5.out).1 LB.out).trans C5.out)
  have U6 := Lib.hid u6
  have F6 := Lib.hid (F5.out.trans f6)
  clear u6 f6 U5 F5 C5 K5 OH
  refine hK9.out _ _ C6.out (fun hHeld => ?_)
  clear hK9 K9
  try simp only [Act.put, List.setIfInBounds_toArray, List.set_cons_zero, List.set_cons_succ]
  refine wpAnyH_done (by kernel_rfl) ?_ _
  clear hHeld
  generalize hWB : lineP (headW W R) = hd at U6
  have HHD := Lib.hid (show hd.length ≤ 261 from by rw [← hWB]; have := HL1.out; unfold lineP; simp; omega)
  have HPP := Lib.hid (show printP W R ins out = (hd ++ insP ins) ++ lineP (outW out) from by rw [← hWB]; rfl)
  rw [List.nil_append] at U6
  clear hWB HL1
  have B6 := Lib.hid (Fr.bk_of (K1.out) F6.out (Nat.le_of_eq hb))
  obtain ⟨z0, z1, z2, z3⟩ := C4.b4 C6.out
  try simp only [Exit.then]
  go_upto_region 4 with (fail)
  clear z0 z1 z2 z3
  have IP0 := Lib.hid (show insP (ins.take 0) = [] from rfl)
  go_loopw [17] (fun x wr => ∃ k v, k ≤ ins.length ∧ x = .int .i64 (k : Int) ∧ BU wr b (.pointer (some ⟨b, 0, none⟩)) v (hd ++ insP (ins.take k)) ∧ Fr b w6 wr) (fun x _ => ins.length - (intOf x).toNat)
  case atStart => exact ⟨0, v6, Nat.zero_le _, rfl, by rw [IP0.out, List.append_nil]; exact U6.out, Fr.refl _ _⟩
  case round =>
    obtain ⟨k, v, hk, rfl, hu, hf⟩ := hrel
    have U7 := Lib.hid hu
    have F7 := Lib.hid (F6.out.trans hf)
    have C7 := Lib.hid (show C4 wr c W R (.slice p ins.length pc) (.slice q out.length qc) from (hf.low c (Array.getElem?_eq_some_iff.1 C6.out).1 LB.out).trans C6.out)
    have F6' := Lib.hid hf
    clear hu hf
    have B7 := Lib.hid (bk_tr K0.out (Fr.bk_of (K1.out) F7.out (Nat.le_of_eq hb)))
    by_cases e : k = ins.length
    · subst e
      have hd' : decide (ins.length < ins.length) = false := by simp
      rw [List.take_length] at U7
      have HIP := Lib.hid (show (hd ++ insP ins).length ≤ 782261 from by have := HHD.out; have := HL2.out ins.length; rw [List.take_length] at this; rw [List.length_append]; omega)
      clear HHD HL2 HI H64 IP0
      generalize hd ++ insP ins = T at U7 HPP HIP
      obtain ⟨z0, z1, z2, z3⟩ := C4.b4 C7.out
      go_upto_region 8 with (fail)
      have OW := Lib.hid (show (wr.alloc (.cells #[.string { data := #[111, 117, 116] }] 9)).ownsRow wr.heap.size 9 1 (.slice (some ⟨wr.heap.size, 0, none⟩) 1 1) [outL].length (strs [outL]) from own_new wr _ (Nat.le_refl _) [outL] (by simp))
      have KA := Lib.hid (bk_alloc (BK.refl wr) (.cells #[.string { data := #[111, 117, 116] }] 9))
      have C8 := Lib.hid (C7.out.keep KA.out)
      have NW := Lib.hid (show wr.heap.size < (wr.alloc (.cells #[.string { data := #[111, 117, 116] }] 9)).heap.size from box_lt wr _ _)
      have ZZ := Lib.hid (show (wr.alloc (.cells #[.string { data := #[111, 117, 116] }] 9)).cell? ⟨c, 3, none⟩ = some (.slice q out.length qc) from (C4.b4 C8.out).2.2.2)
      have RG := Lib.hid (reg49 out (by omega) O64.out (wr.alloc (.cells #[.string { data := #[111, 117, 116] }] 9)) (HT.out.keep (bk_tr B7.out KA.out)) q qc (HO.out.keep (bk_tr B7.out KA.out)))
      clear z0 z1 z2 z3
      have z3 := ZZ.out
      go_wp2_with fail
      generalize wr.alloc (.cells #[.string { data := #[111, 117, 116] }] 9) = w8 at *
      refine RG.out.mono ?_
      rintro e w9 ⟨p9, q9, rfl, o9, b9⟩
      have O9 := Lib.hid (own_below OW.out b9)
      have P9 := Lib.hid o9
      have K9 := Lib.hid (bk_tr KA.out b9)
      clear o9 b9 RG ZZ z3 OW
      go_wp2_with (at_builtin; go_must (refine wpA rfl (.tmp 25) (.tmp 28) rfl wr.heap.size (.slice (some ⟨wr.heap.size, 0, none⟩) 1 1) [outL] rfl O9.out (.slice p9 out.length q9) (regsT out) (by simp [Act.eval, Act.put, regsT]) (by have := SrcS.own P9.out rfl; exact this) ?c1 ?c2 ?_))
      case c1 => simp [regsT]; omega
      case c2 => exact bk_size K9.out
      intro p10 q10 w10 o10 g10
      have K10 := Lib.hid (bk_grown K9.out O9.out (Nat.le_refl _) g10)
      have O10 := Lib.hid (show w10.ownsRow wr.heap.size 9 1 (.slice p10 (1 + (regsT out).length) q10) (outW out).length (strs (outW out)) from by simpa [outW, regsT] using o10)
      clear o10 g10 O9 P9
      have hlo : 1 + (regsT out).length = (outW out).length := by unfold outW regsT; simp; omega
      have U10 := Lib.hid (show BU w10 b (.pointer (some ⟨b, 0, none⟩)) v T from ⟨(bk_block K10.out (Array.getElem?_eq_some_iff.1 U7.out.h).1).trans U7.out.h, own_below U7.out.own K10.out⟩)
      have F10 := Lib.hid (F7.out.trans (Fr.bk K10.out))
      rw [hlo] at O10
      have LL := Lib.hid (line46 (outW out) (outW_ne out) (by unfold outW; simp; omega) (by have := HL3.out; omega) p10 q10 wr.heap.size w10 O10.out b _ v T U10.out (.inr rfl) (by have := HL3.out; have := HIP.out; omega))
      rw [← hlo] at LL
      clear hlo
      go_wp2_with fail
      refine LL.out.mono ?_
      rintro e w11 ⟨rfl, v11, u11, f11⟩
      have U11 := Lib.hid u11
      have F11 := Lib.hid (F10.out.trans f11)
      clear u11 f11 LL O10 U10 F10
      have SS := Lib.hid (Tryz.Builder_String_any b b (T ++ lineP (outW out)) w11 (BU.is U11.out (.inr rfl)) (Nat.le_of_lt (Array.getElem?_eq_some_iff.1 U11.out.h).1))
      go_wp2_with fail
      refine SS.out.mono ?_
      rintro e w12 ⟨rfl, h12⟩
      have B12 := Lib.hid h12
      clear h12
      go_wp2_with fail
      go_ret
      refine ⟨by rw [HPP.out]; rfl, ?_⟩
      have hB : BK wB w11 := Fr.bk_of K1.out F11.out (Nat.le_of_eq hb)
      have hB2 : Below wB.heap.size w11 w12 := by rw [hb]; exact B12.out
      exact bk_tr K0.out (Below.trans hB hB2)
    · have hlt : k < ins.length := by omega
      have hd' : decide (k < ins.length) = true := by simpa using hlt
      obtain ⟨g, o, rfl, hc⟩ := (HI.out.keep B7.out).get k hlt
      obtain ⟨a0, a1, a2, a3, a4, a5⟩ := hc
      have ei : IntKind.i64.wrap ((k : Int) + 1) = (k : Int) + 1 := IntWalk.i64_in _ (by omega)
      have hki : (k : Int) < (ins.length : Int) := by omega
      have HLT := Lib.hid hlt
      have HE := Lib.hid (insP_snoc ins k hlt)
      have FL := Lib.hid (flds48 ins[k] (H64.out _ (List.getElem_mem hlt)))
      have HJ := Lib.hid (insW_jn (H64.out _ (List.getElem_mem hlt)))
      clear e
      generalize ins[k] = i at a0 a1 a2 a3 a4 a5 HE FL HJ
      go_upto_region 6 with (fail)
      have KA := Lib.hid (bk_alloc (BK.refl wr) (.cells #[.int .i64 i.op, .int .i64 i.dst, .int .i64 i.a, .int .i64 i.b, .int .i64 i.c, .int .u64 i.imm] 42))
      have NA := Lib.hid (heap_alloc_new wr (.cells #[.int .i64 i.op, .int .i64 i.dst, .int .i64 i.a, .int .i64 i.b, .int .i64 i.c, .int .u64 i.imm] 42))
      generalize wr.alloc (.cells #[.int .i64 i.op, .int .i64 i.dst, .int .i64 i.a, .int .i64 i.b, .int .i64 i.c, .int .u64 i.imm] 42) = w7 at KA NA ⊢
      clear a0 a1 a2 a3 a4 a5
      generalize wr.heap.size = n7 at NA ⊢
      have a0 := cell_of_row _ n7 0 _ 42 (0, 0) NA.out
      have a1 := cell_of_row _ n7 1 _ 42 (0, 0) NA.out
      have a2 := cell_of_row _ n7 2 _ 42 (0, 0) NA.out
      have a3 := cell_of_row _ n7 3 _ 42 (0, 0) NA.out
      have a4 := cell_of_row _ n7 4 _ 42 (0, 0) NA.out
      have a5 := cell_of_row _ n7 5 _ 42 (0, 0) NA.out
      have C := Lib.hid (FL.out w7 (HT.out.keep (bk_tr B7.out KA.out)))
      go_wp2_with fail
      refine C.out.mono ?_
      rintro e w8 ⟨p8, q8, rfl, o8, b8⟩
      have K8 := Lib.hid (bk_tr KA.out b8)
      have O8 := Lib.hid o8
      have U8 := Lib.hid (show BU w8 b (.pointer (some ⟨b, 0, none⟩)) v (hd ++ insP (ins.take k)) from ⟨(bk_block K8.out (Array.getElem?_eq_some_iff.1 U7.out.h).1).trans U7.out.h, own_below U7.out.own K8.out⟩)
      have F8 := Lib.hid (F6'.out.trans (Fr.bk K8.out))
      clear a0 a1 a2 a3 a4 a5 C o8 b8 KA NA FL
      have HPL := Lib.hid (show (hd ++ insP (ins.take k)).length ≤ 782261 from by have h1 := HHD.out; have h3 := HL2.out k; have h2 : (ins.take k).length ≤ 2000 := (by rw [List.length_take]; omega); rw [List.length_append]; omega)
      have LL := Lib.hid (line46 (insW i) (insW_ne i) (by have := insW_len i; omega) (by have := HJ.out; omega) p8 q8 w7.heap.size w8 O8.out b _ v (hd ++ insP (ins.take k)) U8.out (.inr rfl) (by have := HJ.out; have := HPL.out; omega))
      go_wp2_with fail
      refine LL.out.mono ?_
      rintro e w9 ⟨rfl, v9, u9, f9⟩
      have U9 := Lib.hid u9
      have F9 := Lib.hid (F8.out.trans f9)
      clear u9 f9 LL U8 F8 O8 K8
      go_wp2_with fail
      go_roundw
      case rel => exact ⟨k + 1, v9, by have := HLT.out; omega, by go_num, by rw [HE.out, ← List.append_assoc]; exact U9.out, F9.out⟩
      case measure => have := HLT.out; simp [intOf]; omega
end Go.Proofs.YtneidfbgdgegjaaGreatDoor
