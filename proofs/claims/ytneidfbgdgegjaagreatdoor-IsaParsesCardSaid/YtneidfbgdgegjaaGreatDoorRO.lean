/- The reader: the last line. -/
import Derived.Test.YtneidfbgdgegjaaGreatDoorRC
import Derived.Test.YtneidfbgdgegjaaGreatDoorLB
namespace Go.Proofs.YtneidfbgdgegjaaGreatDoor
open Go.RowKit
set_option linter.unusedVariables false
set_option linter.unusedSimpArgs false
theorem info3 : (Tryz.prog.info? 3).map (fun i => (i.zero, i.size, i.bytes)) = some (some (.int .i64 0), 1, 8) := by kernel_rfl
/-- the blocks of a reader, a code and a row -/
def thr (r c : Nat) (g : Option Nat) : Nat → Prop := fun k => k = r ∨ k = c ∨ g = some k
theorem St.tr {F F' : Nat → Prop} {a b c : World} (h : St F a b) (k : St F' b c) (hs : ∀ i, i < a.heap.size → F' i → F i) : St F a c :=
  ⟨k.os.trans h.os, k.tape.trans h.tape, k.output.trans h.output, Nat.le_trans h.size k.size, fun i hi hn => (k.block i (Nat.lt_of_lt_of_le hi h.size) (fun hf => hn (hs i hi hf))).trans (h.block i hi hn)⟩
theorem st_grow {w w' : World} {v : Value} (h : w.grownBy w' v.ownBlock) : St (fun k => v.ownBlock = some k) w w' :=
  ⟨h.os, h.tape, h.output, h.size, fun k hk hn => h.block k hk (fun e => hn e.symm)⟩
theorem own_no9 {w : World} {B e sz n : Nat} {v : Value} {xs : List Value} (o : w.ownsRow B e sz v n xs) (he : e ≠ 9 := by decide) : ∀ k cs, w.heap[k]? = some (.cells cs 9 (0, 0)) → ¬ v.ownBlock = some k := by
  intro k cs hk e'
  obtain ⟨cur, hc⟩ := own_tag o e'
  rw [hc] at hk
  simp only [Option.some.injEq, Obj.cells.injEq] at hk
  exact he hk.2.1
theorem own_noC {w : World} {B e sz n c : Nat} {v : Value} {xs : List Value} (o : w.ownsRow B e sz v n xs) {x0 x1 : Int} {vi vo : Value} (hc : C4 w c x0 x1 vi vo) (he : e ≠ 34) : ∀ k, v.ownBlock = some k → k ≠ c := by
  intro k e' hk
  subst hk
  obtain ⟨cur, h⟩ := own_tag o e'
  unfold C4 at hc
  rw [h] at hc
  simp only [Option.some.injEq, Obj.cells.injEq] at hc
  exact he hc.2.1
theorem own_noR {w : World} {B e sz n r : Nat} {v : Value} {xs : List Value} (o : w.ownsRow B e sz v n xs) {ts : List ByteArray} {bad : Bool} (hr : RS w r ts bad) (he : e ≠ 105) : ∀ k, v.ownBlock = some k → k ≠ r := by
  intro k e' hk
  subst hk
  obtain ⟨cur, h⟩ := own_tag o e'
  obtain ⟨p, c, _, hr⟩ := hr
  have := hr.blk
  rw [h] at this
  simp only [Option.some.injEq, Obj.cells.injEq] at this
  exact he this.2.1
/-- how many fields are left -/
def lnOf (r : Nat) (w : World) : Nat := match w.cell? ⟨r, 0, none⟩ with | some (.slice _ n _) => n | _ => 0
theorem lnOf_rs {w : World} {r : Nat} {ts : List ByteArray} {bad : Bool} (h : RS w r ts bad) : lnOf r w = ts.length := by
  obtain ⟨p, c, _, h⟩ := h
  unfold lnOf
  rw [cell_of_row w r 0 _ 105 _ h.blk]
  rfl
theorem regsO_snoc : ∀ (l : List (List UInt8)) (x : List UInt8), regsO (l ++ [x]) = match regsO l with | none => none | some a => match regO x with | none => none | some n => some (a ++ [n])
  | [], x => by
    show (match regO x with | none => none | some n => match regsO [] with | none => none | some l => some (n :: l)) = _
    cases regO x <;> rfl
  | y :: l, x => by
    have ih := regsO_snoc l x
    show (match regO y with | none => none | some n => match regsO (l ++ [x]) with | none => none | some l => some (n :: l)) = _
    rw [ih]
    show _ = (match (match regO y with | none => none | some n => match regsO l with | none => none | some l => some (n :: l)) with | none => none | some a => match regO x with | none => none | some n => some (a ++ [n]))
    cases regO y with
    | none => rfl
    | some n =>
      cases regsO l with
      | none => rfl
      | some a =>
        cases regO x with
        | none => rfl
        | some k => rfl
/-- what has been read so far -/
structure PrO (all : List ByteArray) (badS : Bool) (acc0 : List Int) (ts' : List ByteArray) (bad' : Bool) (acc : List Int) : Prop where
  pre : ∃ pre : List ByteArray, all = pre ++ ts' ∧ bad' = (badS || (regsO (pre.map bl)).isNone) ∧ ∀ l, regsO (pre.map bl) = some l → acc = acc0 ++ l
  len : acc.length + ts'.length ≤ acc0.length + all.length
theorem PrO.step {all : List ByteArray} {badS : Bool} {acc0 : List Int} {x : ByteArray} {ts' : List ByteArray} {bad' : Bool} {acc : List Int} (h : PrO all badS acc0 (x :: ts') bad' acc) {n : Int} (hn : ∀ m, regO (bl x) = some m → n = m) :
    PrO all badS acc0 ts' (bad' || (regO (bl x)).isNone) (acc ++ [n]) := by
  obtain ⟨⟨pre, h1, h2, h3⟩, h4⟩ := h
  refine ⟨⟨pre ++ [x], by rw [h1]; simp, ?_, ?_⟩, by simp at h4 ⊢; omega⟩
  · rw [List.map_append, List.map_cons, List.map_nil, regsO_snoc, h2]
    cases regsO (pre.map bl) with
    | none => simp
    | some a => cases regO (bl x) <;> simp
  · intro l hl
    rw [List.map_append, List.map_cons, List.map_nil, regsO_snoc] at hl
    cases hp : regsO (pre.map bl) with
    | none => rw [hp] at hl; cases hl
    | some a =>
      rw [hp] at hl
      cases hx : regO (bl x) with
      | none => rw [hx] at hl; cases hl
      | some m =>
        rw [hx] at hl
        cases hl
        rw [h3 a hp, hn m hx, List.append_assoc]
/-- between two rounds -/
def OR (B r c : Nat) (w0 : World) (x0 x1 : Int) (vi : Value) (g0 : Option Nat) (all : List ByteArray) (badS : Bool) (acc0 : List Int) (wr : World) : Prop :=
  ∃ (ts' : List ByteArray) (bad' : Bool) (acc : List Int) (v : Value), RS wr r ts' bad' ∧ C4 wr c x0 x1 vi v ∧ wr.ownsRow B 3 1 v acc.length (ints acc) ∧ St (thr r c g0) w0 wr ∧ (∀ g, v.ownBlock = some g → g0 = some g ∨ w0.heap.size ≤ g) ∧ PrO all badS acc0 ts' bad' acc
theorem ints_snoc (zs : List Int) (n : Int) : ints (zs ++ [n]) = ints zs ++ [.int .i64 n] := by simp [ints]
theorem outrel {B r c : Nat} {w0 w3 wB : World} {x0 x1 : Int} {vi v : Value} {g0 : Option Nat} {all : List ByteArray} {badS : Bool} {acc0 : List Int} {x : ByteArray} {ts' : List ByteArray} {bad' : Bool} {acc : List Int} {n : Int} {g3 c3 m : Nat} {vo : Value}
    (hrc : r ≠ c) (pr : PrO all badS acc0 (x :: ts') bad' acc) (hB : B ≤ w0.heap.size) (hr : RS w3 r ts' (bad' || (regO (bl x)).isNone)) (hc : C4 w3 c x0 x1 vi vo)
    (ho : w3.ownsRow B 3 1 (.slice (some ⟨g3, 0, none⟩) (m + 1) c3) (m + 1) (ints acc ++ [.int .i64 n])) (hz : St (thr r c g0) w0 w3) (hg : v.ownBlock = some g3 ∨ g3 = wB.heap.size) (hzs : w0.heap.size ≤ wB.heap.size)
    (hgv : ∀ g, v.ownBlock = some g → g0 = some g ∨ w0.heap.size ≤ g) (hn : ∀ m, regO (bl x) = some m → n = m) :
    OR B r c w0 x0 x1 vi g0 all badS acc0 (w3.setCell ⟨c, 3, none⟩ (.slice (some ⟨g3, 0, none⟩) (m + 1) c3)) := by
  have hlen : acc.length = m := by have := ho.1; simp [ints] at this; omega
  refine ⟨ts', _, acc ++ [n], _, hr.code hrc hc 3 _, hc.set3 _, ?_, St.tr hz (st_set w3 c 3 _) (fun k _ e => .inr (.inl e)), ?_, pr.step hn⟩
  · rw [ints_snoc, List.length_append, hlen]
    exact own_at ho (fun k hk => heap_setCell_other w3 ⟨c, 3, none⟩ k _ (fun e => own_noC ho hc (by decide) k hk e))
  · intro g e
    have e : g3 = g := by simpa [Value.ownBlock] using e
    subst e
    rcases hg with h | h
    · exact hgv _ h
    · exact .inr (by omega)
def OutP (B r c : Nat) (w0 : World) (ts : List ByteArray) (bad : Bool) (x0 x1 : Int) (vi : Value) (g0 : Option Nat) (acc0 : List Int) (e : Ending) (w' : World) : Prop :=
  e = .returned (.tuple #[]) ∧ ∃ (acc : List Int) (v : Value), RS w' r [] (bad || !((hdB ts).toList == [111, 117, 116]) || (regsO (ts.tail.map bl)).isNone) ∧ C4 w' c x0 x1 vi v ∧ w'.ownsRow B 3 1 v acc.length (ints acc) ∧ St (thr r c g0) w0 w' ∧ (∀ g, v.ownBlock = some g → g0 = some g ∨ w0.heap.size ≤ g) ∧ (∀ l, regsO (ts.tail.map bl) = some l → acc = acc0 ++ l) ∧ acc.length ≤ acc0.length + ts.length
theorem or_end {B r c : Nat} {w0 wr : World} {x0 x1 : Int} {vi v : Value} {g0 : Option Nat} {ts : List ByteArray} {bad : Bool} {acc0 acc : List Int} {bad' : Bool} (pr : PrO ts.tail (bad || !((hdB ts).toList == [111, 117, 116])) acc0 [] bad' acc)
    (hr : RS wr r [] bad') (hc : C4 wr c x0 x1 vi v) (ho : wr.ownsRow B 3 1 v acc.length (ints acc)) (hz : St (thr r c g0) w0 wr) (hg : ∀ g, v.ownBlock = some g → g0 = some g ∨ w0.heap.size ≤ g) : OutP B r c w0 ts bad x0 x1 vi g0 acc0 (.returned (.tuple #[])) wr := by
  obtain ⟨⟨pre, h1, h2, h3⟩, h4⟩ := pr
  rw [List.append_nil] at h1
  rw [← h1] at h2 h3
  refine ⟨rfl, acc, v, by rw [← h2]; exact hr, hc, ho, hz, hg, h3, ?_⟩
  simp only [List.length_nil, Nat.add_zero, List.length_tail] at h4
  omega
set_option maxRecDepth 100000 in
set_option maxHeartbeats 4000000 in
theorem out79 (w : World) (r c B : Nat) (ts : List ByteArray) (bad : Bool) (h : RS w r ts bad) (hs : Sm ts) (hl : ts.length ≤ 1000000) (hr : 9 ≤ r) (hc9 : 9 ≤ c) (hrc : r ≠ c) (ht : Tb w) (x0 x1 : Int) (vi vo : Value) (hc : C4 w c x0 x1 vi vo) (acc0 : List Int) (hla : acc0.length ≤ 1000000) (hB9 : 9 ≤ B) (hB : B ≤ w.heap.size) (ho : w.ownsRow B 3 1 vo acc0.length (ints acc0)) :
    Calls Tryz.prog 79 #[.pointer (some ⟨r, 0, none⟩), .pointer (some ⟨c, 0, none⟩)] w (OutP B r c w ts bad x0 x1 vi vo.ownBlock acc0) := by
  have HN := Lib.hid (one_ne hrc)
  have HRC := Lib.hid hrc
  have HR9 := Lib.hid hr
  have HT := Lib.hid ht
  have HC := Lib.hid hc
  have HO := Lib.hid ho
  have H := Lib.hid h
  have HBW := Lib.hid hB
  have HL := Lib.hid (show acc0.length + ts.length ≤ 2000000 by omega)
  have HSM := Lib.hid hs
  have HF3 := Lib.hid (show ∀ k, k < 9 → ¬ thr r c vo.ownBlock k from fun k hk e => by
    rcases e with e | e | e
    · omega
    · omega
    · have := (ho.lt k e).1; omega)
  have N1 := Lib.hid (fun (W : World) (b : Bool) (h : RS W r ts b) => next96 W r ts b h)
  clear h hs hl hr hc9 hrc ht hc hla hB9 hB ho
  go_enter Tryz.func79, Tryz.ntmps79
  go_wp2_with fail
  have C := N1.out w bad H.out
  refine C.mono ?_
  clear C
  rintro e w1 ⟨rfl, r1, s1⟩
  have R1 := Lib.hid r1
  have Z1 := Lib.hid s1
  clear r1 s1
  go_wp2_with fail
  have C := require78 w1 r ts.tail bad R1.out ((hdB ts).toList == [111, 117, 116])
  refine C.mono ?_
  clear C
  rintro e w2 ⟨rfl, r2, s2⟩
  have R2 := Lib.hid r2
  have Z2 := Lib.hid (Z1.out.trans s2)
  clear r2 s2
  have C2 := Lib.hid (HC.out.st Z2.out HN.out)
  have O2 := Lib.hid (own_at HO.out (fun k hk => Z2.out.block k (HO.out.lt k hk).2 (fun e => own_noR HO.out H.out (by decide) k hk e)))
  have P2 := Lib.hid (show PrO ts.tail (bad || !((hdB ts).toList == [111, 117, 116])) acc0 ts.tail (bad || !((hdB ts).toList == [111, 117, 116])) acc0 from ⟨⟨[], rfl, by simp [regsO], fun l e => by cases e; simp⟩, Nat.le_refl _⟩)
  have ZZ2 := Lib.hid (Z2.out.mono (fun k (e : isB r k) => show thr r c vo.ownBlock k from .inl e))
  have END := Lib.hid (fun (wr : World) (v : Value) (acc : List Int) (bad' : Bool) => or_end (B := B) (r := r) (c := c) (w0 := w) (wr := wr) (x0 := x0) (x1 := x1) (vi := vi) (v := v) (g0 := vo.ownBlock) (ts := ts) (bad := bad) (acc0 := acc0) (acc := acc) (bad' := bad'))
  have HSM2 := Lib.hid (show Sm ts.tail from HSM.out.tl)
  have HL2 := Lib.hid (show acc0.length + ts.tail.length ≤ 2000000 by have := HL.out; simp; omega)
  clear Z1 R1 N1
  generalize hBS : (bad || !((hdB ts).toList == [111, 117, 116])) = badS at R2 P2
  have HBS := Lib.hid hBS
  clear hBS
  generalize hTL : ts.tail = all at R2 P2 HSM2 HL2
  have HTL := Lib.hid hTL
  clear hTL
  generalize hg0 : vo.ownBlock = g0 at *
  have HG0 := Lib.hid hg0
  clear hg0
  go_wp2_with fail
  go_loopw [] (fun wr => OR B r c w x0 x1 vi g0 all badS acc0 wr) (fun wr => lnOf r wr)
  case atStart => exact ⟨_, _, _, _, R2.out, C2.out, O2.out, ZZ2.out, (fun g e => .inl (HG0.out.symm.trans e)), P2.out⟩
  case round =>
    obtain ⟨ts', bad', acc, v, r0, c0, o0, z0, g0v, pr⟩ := hrel
    have R0 := Lib.hid r0
    have C0 := Lib.hid c0
    have O0 := Lib.hid o0
    have Z0 := Lib.hid z0
    have HGV := Lib.hid g0v
    have PR := Lib.hid pr
    obtain ⟨p0, c00, hc0, rd0⟩ := r0
    have k0 := cell_of_row wr r 0 _ 105 (0, 0) rd0.blk
    clear c0 o0 z0 g0v pr rd0 hc0
    cases ts' with
    | nil =>
      go_wp2_with fail
      go_end0
      have P := PR.out
      rw [← HTL.out, ← HBS.out] at P
      exact END.out _ _ _ _ P R0.out C0.out O0.out Z0.out HGV.out
    | cons x ts' =>
      have hlen : (0 : Int) < ((ts'.length + 1 : Nat) : Int) := by omega
      have HLM := Lib.hid (show acc.length ≤ 2000000 by have := PR.out.len; have := HL2.out; simp at *; omega)
      have HSX := Lib.hid (show Sm (x :: ts') from fun t ht => by
        obtain ⟨⟨pre, h1, _⟩, _⟩ := PR.out
        exact HSM2.out t (by rw [h1]; exact List.mem_append_right _ ht))
      have OWR := Lib.hid (own_noR O0.out R0.out (by decide))
      have OWC := Lib.hid (own_noC O0.out C0.out (by decide))
      have OWB := Lib.hid (show ∀ k, k < w.heap.size → v.ownBlock = some k → thr r c g0 k from fun k hk e => by
        rcases HGV.out k e with h | h
        · exact .inr (.inr h)
        · omega)
      obtain ⟨m, hm⟩ : ∃ m, m = acc.length := ⟨_, rfl⟩
      rw [← hm] at O0 HLM
      obtain ⟨pv, cv, hv⟩ := own_shape O0.out
      have HVV := Lib.hid hv
      clear hm hv
      go_upto_region 2 with (fail)
      clear k0 hlen
      refine wp_region_held_drew (S := fun _ => True) (by kernel_rfl) trivial (fun hHeld => ?_)
      have R1 := Lib.hid (R0.out.keep (bk_drew (BK.refl wr)))
      have C1 := Lib.hid (C0.out.keep (bk_drew (BK.refl wr)))
      have O1 := Lib.hid (own_below O0.out (bk_drew (BK.refl wr)))
      have Z1 := Lib.hid (St.tr Z0.out (St.bk (F := fun _ => False) (bk_drew (BK.refl wr))) (fun k _ e => e.elim))
      generalize wr.drew = wI at hHeld R1 C1 O1 Z1 ⊢
      refine wpAnyH_take (i := 0) (v := .pointer (some ⟨c, 0, none⟩)) rfl (by kernel_rfl) (by kernel_rfl) (by kernel_rfl) (fun _ _ _ h => h) (Or.inl ⟨by kernel_rfl, fun w hSw => by (go_simp)⟩) hHeld ?_
      try simp only [Act.put, List.setIfInBounds_toArray, List.set_cons_zero, List.set_cons_succ]
      refine wpAnyH_take (i := 1) (v := .pointer (some ⟨c, 0, none⟩)) rfl (by kernel_rfl) (by kernel_rfl) (by kernel_rfl) (fun _ _ _ h => h) (Or.inl ⟨by kernel_rfl, fun w hSw => by (go_simp)⟩) hHeld ?_
      try simp only [Act.put, List.setIfInBounds_toArray, List.set_cons_zero, List.set_cons_succ]
      refine wpAnyH_take (i := 2) (v := .pointer (some ⟨c, 0, none⟩)) rfl (by kernel_rfl) (by kernel_rfl) (by kernel_rfl) (fun _ _ _ h => h) (Or.inl ⟨by kernel_rfl, fun w hSw => by (go_simp)⟩) hHeld ?_
      try simp only [Act.put, List.setIfInBounds_toArray, List.set_cons_zero, List.set_cons_succ]
      refine wpAnyH_take (i := 3) (v := .pointer (some ⟨c, 3, none⟩)) rfl (by kernel_rfl) (by kernel_rfl) (by kernel_rfl) (fun _ _ _ h => h) (Or.inl ⟨by kernel_rfl, fun w hSw => by (go_simp)⟩) hHeld ?_
      try simp only [Act.put, List.setIfInBounds_toArray, List.set_cons_zero, List.set_cons_succ]
      refine wpAnyH_take (i := 5) (v := .pointer (some ⟨r, 0, none⟩)) rfl (by kernel_rfl) (by kernel_rfl) (by kernel_rfl) (fun _ _ _ h => h) (Or.inl ⟨by kernel_rfl, fun w hSw => by (go_simp)⟩) hHeld ?_
      try simp only [Act.put, List.setIfInBounds_toArray, List.set_cons_zero, List.set_cons_succ]
      refine wpAnyH_ready (rs := [4, 6]) (by kernel_rfl) (by simp) ?_
      refine AllReadyH.cons (o := _) rfl (fun K9 hK9 => ?_) (AllReadyH.cons (o := _) rfl (fun K9 hK9 => ?_) AllReadyH.nil)
      · have z1 := cell_of_row wI c 3 _ 34 (0, 0) C1.out
        go_simp
        refine hK9.out _ _ trivial (fun hHeld => ?_)
        clear hK9 K9
        try simp only [Act.put, List.setIfInBounds_toArray, List.set_cons_zero, List.set_cons_succ]
        clear z1
        refine wpAnyH_ready (rs := [6]) (by kernel_rfl) (by simp) ?_
        refine AllReadyH.cons (o := _) rfl (fun K9 hK9 => ?_) AllReadyH.nil
        go_simp
        go_at_call 98
        have CC := register98 wI r (x :: ts') bad' R1.out HSX.out HR9.out (HT.out.st Z1.out HF3.out)
        refine CC.mono ?_
        clear CC
        rintro e wA ⟨n9, rfl, i9, m9, r9, s9⟩
        have R2 := Lib.hid r9
        have HM9 := Lib.hid m9
        have C2 := Lib.hid (C1.out.st s9 HN.out)
        have O2 := Lib.hid (own_at O1.out (fun k hk => s9.block k (O1.out.lt k hk).2 (fun e => OWR.out k hk e)))
        have Z2 := Lib.hid (St.tr Z1.out s9 (fun k _ e => .inl e))
        clear m9 r9 s9 i9
        
        refine hK9.out _ _ trivial (fun hHeld => ?_)
        clear hK9 K9
        try simp only [Act.put, List.setIfInBounds_toArray, List.set_cons_zero, List.set_cons_succ]
        refine wpAnyH_ready (rs := [7]) (by kernel_rfl) (by simp) ?_
        refine AllReadyH.cons (o := _) rfl (fun K9 hK9 => ?_) AllReadyH.nil
        go_simp
        refine hK9.out _ _ trivial (fun hHeld => ?_)
        clear hK9 K9
        try simp only [Act.put, List.setIfInBounds_toArray, List.set_cons_zero, List.set_cons_succ]
        have C3 := Lib.hid (C2.out.keep (bk_alloc (BK.refl wA) (.cells #[.int .i64 n9] 3)))
        have R3 := Lib.hid (R2.out.keep (bk_alloc (BK.refl wA) (.cells #[.int .i64 n9] 3)))
        have O3 := Lib.hid (own_below O2.out (bk_alloc (BK.refl wA) (.cells #[.int .i64 n9] 3)))
        have Z3 := Lib.hid (St.tr Z2.out (St.bk (F := fun _ => False) (bk_alloc (BK.refl wA) (.cells #[.int .i64 n9] 3))) (fun k _ e => e.elim))
        have SRC := Lib.hid (World.news_of_block (heap_alloc_new wA (.cells #[.int .i64 n9] 3)))
        generalize hsg : wA.heap.size = sg at *
        generalize wA.alloc (.cells #[.int .i64 n9] 3) = wB at C3 R3 O3 Z3 SRC ⊢
        clear hsg
        refine wpAnyH_ready (rs := [8]) (by kernel_rfl) (by simp) ?_
        refine AllReadyH.cons (o := _) rfl (fun K9 hK9 => ?_) AllReadyH.nil
        obtain ⟨i0, hi, hz0, hz1, hz2⟩ := info_parts info3
        refine wp_append_lies wB _ _ 32 rfl B 3 i0 (.int .i64 0) 1 8 Tryz.underlying32 hi hz0 hz1 hz2 rfl (by decide) v m (ints acc) rfl O3.out ⟨sg, 0, none⟩ 1 1 [.int .i64 n9] rfl rfl SRC.out (by intro u hu; simp at hu; subst hu; rfl) (by omega) (by have := HLM.out; unfold maxLen; omega) (by have := HLM.out; omega) (by have := Z3.out.size; have := HBW.out; omega) _ rfl ?_
        intro g3 c3 w3 ho3 hg3 hl3 hlt3
        have CX := Lib.hid (C4.st C3.out (st_grow hg3) (fun e => OWC.out _ e rfl))
        have RX := Lib.hid (RS.st R3.out (st_grow hg3) (fun e => OWR.out _ e rfl) (own_no9 O3.out))
        have OX := Lib.hid ho3
        have ZX := Lib.hid (St.tr Z3.out (st_grow hg3) (fun k hk e => OWB.out k hk e))
        have GX := Lib.hid hl3
        have ZS := Lib.hid Z3.out.size
        clear ho3 hg3 hl3 hlt3 hi hz0 hz1 hz2
        refine hK9.out _ _ trivial (fun hHeld => ?_)
        clear hK9 K9
        try simp only [Act.put, List.setIfInBounds_toArray, List.set_cons_zero, List.set_cons_succ]
        refine wpAnyH_take (i := 9) (v := .pointer (some ⟨c, 0, none⟩)) rfl (by kernel_rfl) (by kernel_rfl) (by kernel_rfl) (fun _ _ _ h => h) (Or.inl ⟨by kernel_rfl, fun w hSw => by (go_simp)⟩) hHeld ?_
        try simp only [Act.put, List.setIfInBounds_toArray, List.set_cons_zero, List.set_cons_succ]
        refine wpAnyH_take (i := 10) (v := .pointer (some ⟨c, 3, none⟩)) rfl (by kernel_rfl) (by kernel_rfl) (by kernel_rfl) (fun _ _ _ h => h) (Or.inl ⟨by kernel_rfl, fun w hSw => by (go_simp)⟩) hHeld ?_
        try simp only [Act.put, List.setIfInBounds_toArray, List.set_cons_zero, List.set_cons_succ]
        have y3 := cell_of_row w3 c 3 _ 34 (0, 0) CX.out
        have f3 := frozen_of_row w3 c 3 _ 34 CX.out
        refine wpAnyH_ready (rs := [11]) (by kernel_rfl) (by simp) ?_
        refine AllReadyH.cons (o := _) rfl (fun K9 hK9 => ?_) AllReadyH.nil
        go_simp
        refine hK9.out _ _ trivial (fun hHeld => ?_)
        clear hK9 K9
        try simp only [Act.put, List.setIfInBounds_toArray, List.set_cons_zero, List.set_cons_succ]
        refine wpAnyH_done (by kernel_rfl) ?_ _
        clear y3 f3 hHeld
        go_wp2_with fail
        go_roundw
        case rel =>
          exact outrel HRC.out PR.out HBW.out RX.out CX.out OX.out ZX.out GX.out ZS.out HGV.out HM9.out
        case measure =>
          rw [lnOf_rs (RX.out.code HRC.out CX.out 3 _)]
          have e1 := lnOf_rs R0.out
          rw [e1]
          exact Nat.lt_succ_self _
      · go_simp
        go_at_call 98
        have CC := register98 wI r (x :: ts') bad' R1.out HSX.out HR9.out (HT.out.st Z1.out HF3.out)
        refine CC.mono ?_
        clear CC
        rintro e wA ⟨n9, rfl, i9, m9, r9, s9⟩
        have R2 := Lib.hid r9
        have HM9 := Lib.hid m9
        have C2 := Lib.hid (C1.out.st s9 HN.out)
        have O2 := Lib.hid (own_at O1.out (fun k hk => s9.block k (O1.out.lt k hk).2 (fun e => OWR.out k hk e)))
        have Z2 := Lib.hid (St.tr Z1.out s9 (fun k _ e => .inl e))
        clear m9 r9 s9 i9
        
        refine hK9.out _ _ trivial (fun hHeld => ?_)
        clear hK9 K9
        try simp only [Act.put, List.setIfInBounds_toArray, List.set_cons_zero, List.set_cons_succ]
        refine wpAnyH_ready (rs := [4, 7]) (by kernel_rfl) (by simp) ?_
        refine AllReadyH.cons (o := _) rfl (fun K9 hK9 => ?_) (AllReadyH.cons (o := _) rfl (fun K9 hK9 => ?_) AllReadyH.nil)
        · have z2 := cell_of_row wA c 3 _ 34 (0, 0) C2.out
          go_simp
          refine hK9.out _ _ trivial (fun hHeld => ?_)
          clear hK9 K9
          try simp only [Act.put, List.setIfInBounds_toArray, List.set_cons_zero, List.set_cons_succ]
          clear z2
          refine wpAnyH_ready (rs := [7]) (by kernel_rfl) (by simp) ?_
          refine AllReadyH.cons (o := _) rfl (fun K9 hK9 => ?_) AllReadyH.nil
          go_simp
          refine hK9.out _ _ trivial (fun hHeld => ?_)
          clear hK9 K9
          try simp only [Act.put, List.setIfInBounds_toArray, List.set_cons_zero, List.set_cons_succ]
          have C3 := Lib.hid (C2.out.keep (bk_alloc (BK.refl wA) (.cells #[.int .i64 n9] 3)))
          have R3 := Lib.hid (R2.out.keep (bk_alloc (BK.refl wA) (.cells #[.int .i64 n9] 3)))
          have O3 := Lib.hid (own_below O2.out (bk_alloc (BK.refl wA) (.cells #[.int .i64 n9] 3)))
          have Z3 := Lib.hid (St.tr Z2.out (St.bk (F := fun _ => False) (bk_alloc (BK.refl wA) (.cells #[.int .i64 n9] 3))) (fun k _ e => e.elim))
          have SRC := Lib.hid (World.news_of_block (heap_alloc_new wA (.cells #[.int .i64 n9] 3)))
          generalize hsg : wA.heap.size = sg at *
          generalize wA.alloc (.cells #[.int .i64 n9] 3) = wB at C3 R3 O3 Z3 SRC ⊢
          clear hsg
          refine wpAnyH_ready (rs := [8]) (by kernel_rfl) (by simp) ?_
          refine AllReadyH.cons (o := _) rfl (fun K9 hK9 => ?_) AllReadyH.nil
          obtain ⟨i0, hi, hz0, hz1, hz2⟩ := info_parts info3
          refine wp_append_lies wB _ _ 32 rfl B 3 i0 (.int .i64 0) 1 8 Tryz.underlying32 hi hz0 hz1 hz2 rfl (by decide) v m (ints acc) rfl O3.out ⟨sg, 0, none⟩ 1 1 [.int .i64 n9] rfl rfl SRC.out (by intro u hu; simp at hu; subst hu; rfl) (by omega) (by have := HLM.out; unfold maxLen; omega) (by have := HLM.out; omega) (by have := Z3.out.size; have := HBW.out; omega) _ rfl ?_
          intro g3 c3 w3 ho3 hg3 hl3 hlt3
          have CX := Lib.hid (C4.st C3.out (st_grow hg3) (fun e => OWC.out _ e rfl))
          have RX := Lib.hid (RS.st R3.out (st_grow hg3) (fun e => OWR.out _ e rfl) (own_no9 O3.out))
          have OX := Lib.hid ho3
          have ZX := Lib.hid (St.tr Z3.out (st_grow hg3) (fun k hk e => OWB.out k hk e))
          have GX := Lib.hid hl3
          have ZS := Lib.hid Z3.out.size
          clear ho3 hg3 hl3 hlt3 hi hz0 hz1 hz2
          refine hK9.out _ _ trivial (fun hHeld => ?_)
          clear hK9 K9
          try simp only [Act.put, List.setIfInBounds_toArray, List.set_cons_zero, List.set_cons_succ]
          refine wpAnyH_take (i := 9) (v := .pointer (some ⟨c, 0, none⟩)) rfl (by kernel_rfl) (by kernel_rfl) (by kernel_rfl) (fun _ _ _ h => h) (Or.inl ⟨by kernel_rfl, fun w hSw => by (go_simp)⟩) hHeld ?_
          try simp only [Act.put, List.setIfInBounds_toArray, List.set_cons_zero, List.set_cons_succ]
          refine wpAnyH_take (i := 10) (v := .pointer (some ⟨c, 3, none⟩)) rfl (by kernel_rfl) (by kernel_rfl) (by kernel_rfl) (fun _ _ _ h => h) (Or.inl ⟨by kernel_rfl, fun w hSw => by (go_simp)⟩) hHeld ?_
          try simp only [Act.put, List.setIfInBounds_toArray, List.set_cons_zero, List.set_cons_succ]
          have y3 := cell_of_row w3 c 3 _ 34 (0, 0) CX.out
          have f3 := frozen_of_row w3 c 3 _ 34 CX.out
          refine wpAnyH_ready (rs := [11]) (by kernel_rfl) (by simp) ?_
          refine AllReadyH.cons (o := _) rfl (fun K9 hK9 => ?_) AllReadyH.nil
          go_simp
          refine hK9.out _ _ trivial (fun hHeld => ?_)
          clear hK9 K9
          try simp only [Act.put, List.setIfInBounds_toArray, List.set_cons_zero, List.set_cons_succ]
          refine wpAnyH_done (by kernel_rfl) ?_ _
          clear y3 f3 hHeld
          go_wp2_with fail
          go_roundw
          case rel =>
            exact outrel HRC.out PR.out HBW.out RX.out CX.out OX.out ZX.out GX.out ZS.out HGV.out HM9.out
          case measure =>
            rw [lnOf_rs (RX.out.code HRC.out CX.out 3 _)]
            have e1 := lnOf_rs R0.out
            rw [e1]
            exact Nat.lt_succ_self _
        · go_simp
          refine hK9.out _ _ trivial (fun hHeld => ?_)
          clear hK9 K9
          try simp only [Act.put, List.setIfInBounds_toArray, List.set_cons_zero, List.set_cons_succ]
          have C3 := Lib.hid (C2.out.keep (bk_alloc (BK.refl wA) (.cells #[.int .i64 n9] 3)))
          have R3 := Lib.hid (R2.out.keep (bk_alloc (BK.refl wA) (.cells #[.int .i64 n9] 3)))
          have O3 := Lib.hid (own_below O2.out (bk_alloc (BK.refl wA) (.cells #[.int .i64 n9] 3)))
          have Z3 := Lib.hid (St.tr Z2.out (St.bk (F := fun _ => False) (bk_alloc (BK.refl wA) (.cells #[.int .i64 n9] 3))) (fun k _ e => e.elim))
          have SRC := Lib.hid (World.news_of_block (heap_alloc_new wA (.cells #[.int .i64 n9] 3)))
          generalize hsg : wA.heap.size = sg at *
          generalize wA.alloc (.cells #[.int .i64 n9] 3) = wB at C3 R3 O3 Z3 SRC ⊢
          clear hsg
          refine wpAnyH_ready (rs := [4]) (by kernel_rfl) (by simp) ?_
          refine AllReadyH.cons (o := _) rfl (fun K9 hK9 => ?_) AllReadyH.nil
          have z3 := cell_of_row wB c 3 _ 34 (0, 0) C3.out
          go_simp
          refine hK9.out _ _ trivial (fun hHeld => ?_)
          clear hK9 K9
          try simp only [Act.put, List.setIfInBounds_toArray, List.set_cons_zero, List.set_cons_succ]
          clear z3
          refine wpAnyH_ready (rs := [8]) (by kernel_rfl) (by simp) ?_
          refine AllReadyH.cons (o := _) rfl (fun K9 hK9 => ?_) AllReadyH.nil
          obtain ⟨i0, hi, hz0, hz1, hz2⟩ := info_parts info3
          refine wp_append_lies wB _ _ 32 rfl B 3 i0 (.int .i64 0) 1 8 Tryz.underlying32 hi hz0 hz1 hz2 rfl (by decide) v m (ints acc) rfl O3.out ⟨sg, 0, none⟩ 1 1 [.int .i64 n9] rfl rfl SRC.out (by intro u hu; simp at hu; subst hu; rfl) (by omega) (by have := HLM.out; unfold maxLen; omega) (by have := HLM.out; omega) (by have := Z3.out.size; have := HBW.out; omega) _ rfl ?_
          intro g3 c3 w3 ho3 hg3 hl3 hlt3
          have CX := Lib.hid (C4.st C3.out (st_grow hg3) (fun e => OWC.out _ e rfl))
          have RX := Lib.hid (RS.st R3.out (st_grow hg3) (fun e => OWR.out _ e rfl) (own_no9 O3.out))
          have OX := Lib.hid ho3
          have ZX := Lib.hid (St.tr Z3.out (st_grow hg3) (fun k hk e => OWB.out k hk e))
          have GX := Lib.hid hl3
          have ZS := Lib.hid Z3.out.size
          clear ho3 hg3 hl3 hlt3 hi hz0 hz1 hz2
          refine hK9.out _ _ trivial (fun hHeld => ?_)
          clear hK9 K9
          try simp only [Act.put, List.setIfInBounds_toArray, List.set_cons_zero, List.set_cons_succ]
          refine wpAnyH_take (i := 9) (v := .pointer (some ⟨c, 0, none⟩)) rfl (by kernel_rfl) (by kernel_rfl) (by kernel_rfl) (fun _ _ _ h => h) (Or.inl ⟨by kernel_rfl, fun w hSw => by (go_simp)⟩) hHeld ?_
          try simp only [Act.put, List.setIfInBounds_toArray, List.set_cons_zero, List.set_cons_succ]
          refine wpAnyH_take (i := 10) (v := .pointer (some ⟨c, 3, none⟩)) rfl (by kernel_rfl) (by kernel_rfl) (by kernel_rfl) (fun _ _ _ h => h) (Or.inl ⟨by kernel_rfl, fun w hSw => by (go_simp)⟩) hHeld ?_
          try simp only [Act.put, List.setIfInBounds_toArray, List.set_cons_zero, List.set_cons_succ]
          have y3 := cell_of_row w3 c 3 _ 34 (0, 0) CX.out
          have f3 := frozen_of_row w3 c 3 _ 34 CX.out
          refine wpAnyH_ready (rs := [11]) (by kernel_rfl) (by simp) ?_
          refine AllReadyH.cons (o := _) rfl (fun K9 hK9 => ?_) AllReadyH.nil
          go_simp
          refine hK9.out _ _ trivial (fun hHeld => ?_)
          clear hK9 K9
          try simp only [Act.put, List.setIfInBounds_toArray, List.set_cons_zero, List.set_cons_succ]
          refine wpAnyH_done (by kernel_rfl) ?_ _
          clear y3 f3 hHeld
          go_wp2_with fail
          go_roundw
          case rel =>
            exact outrel HRC.out PR.out HBW.out RX.out CX.out OX.out ZX.out GX.out ZS.out HGV.out HM9.out
          case measure =>
            rw [lnOf_rs (RX.out.code HRC.out CX.out 3 _)]
            have e1 := lnOf_rs R0.out
            rw [e1]
            exact Nat.lt_succ_self _
end Go.Proofs.YtneidfbgdgegjaaGreatDoor
