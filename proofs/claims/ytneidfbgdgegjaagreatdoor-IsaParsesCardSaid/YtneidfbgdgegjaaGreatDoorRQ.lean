/- read: what a round leaves. -/
import Derived.Test.YtneidfbgdgegjaaGreatDoorRR
namespace Go.Proofs.YtneidfbgdgegjaaGreatDoor
open Go.RowKit Go.Shelf
set_option linter.unusedVariables false
set_option linter.unusedSimpArgs false
/-- the blocks that a round may turn -/
def GG (n0 : Nat) (vi vo : Value) : Nat → Prop := fun k => k = n0 ∨ k = n0 + 1 ∨ k = n0 + 2 ∨ vi.ownBlock = some k ∨ vo.ownBlock = some k
theorem RM.keep {w X X' : World} {N0 : Nat} {W R : Int} {vi vo : Value} {acc : List I6} {out : List Int} {line : Nat} {ended : Bool} (h : RM w X N0 W R vi vo acc out line ended) (hb : BK X X') : RM w X' N0 W R vi vo acc out line ended :=
  ⟨h.c.keep hb, (bk_block hb (Array.getElem?_eq_some_iff.1 h.ln).1).trans h.ln, (bk_block hb (Array.getElem?_eq_some_iff.1 h.en).1).trans h.en, own_below h.ri hb, own_below h.ro hb, bk_tr h.bk hb⟩
theorem RM.setL {w X : World} {N0 : Nat} {W R : Int} {vi vo : Value} {acc : List I6} {out : List Int} {line : Nat} {ended : Bool} (h : RM w X N0 W R vi vo acc out line ended) (hN : w.heap.size + 3 < N0) (n : Nat) : RM w (X.setCell ⟨w.heap.size + 1, 0, none⟩ (.int .i64 (n : Int))) N0 W R vi vo acc out n ended := by
  have hs := st_set X (w.heap.size + 1) 0 (.int .i64 (n : Int))
  refine ⟨h.c.st hs (fun e => by have e : w.heap.size = w.heap.size + 1 := e; omega), by rw [heap_setCell_same X _ 0 _ 3 _ h.ln]; rfl, st_blk h.en hs (fun e => by have e : w.heap.size + 2 = w.heap.size + 1 := e; omega), own_at h.ri (fun k hk => hs.block k (h.ri.lt k hk).2 (fun e => by have := (h.ri.lt k hk).1; have e : k = w.heap.size + 1 := e; omega)), own_at h.ro (fun k hk => hs.block k (h.ro.lt k hk).2 (fun e => by have := (h.ro.lt k hk).1; have e : k = w.heap.size + 1 := e; omega)), bk_set h.bk _ _ (by show w.heap.size ≤ w.heap.size + 1; omega)⟩
theorem RM.setE {w X : World} {N0 : Nat} {W R : Int} {vi vo : Value} {acc : List I6} {out : List Int} {line : Nat} {ended : Bool} (h : RM w X N0 W R vi vo acc out line ended) (hN : w.heap.size + 3 < N0) (b : Bool) : RM w (X.setCell ⟨w.heap.size + 2, 0, none⟩ (.bool b)) N0 W R vi vo acc out line b := by
  have hs := st_set X (w.heap.size + 2) 0 (.bool b)
  refine ⟨h.c.st hs (fun e => by have e : w.heap.size = w.heap.size + 2 := e; omega), st_blk h.ln hs (fun e => by have e : w.heap.size + 1 = w.heap.size + 2 := e; omega), by rw [heap_setCell_same X _ 0 _ 4 _ h.en]; rfl, own_at h.ri (fun k hk => hs.block k (h.ri.lt k hk).2 (fun e => by have := (h.ri.lt k hk).1; have e : k = w.heap.size + 2 := e; omega)), own_at h.ro (fun k hk => hs.block k (h.ro.lt k hk).2 (fun e => by have := (h.ro.lt k hk).1; have e : k = w.heap.size + 2 := e; omega)), bk_set h.bk _ _ (by show w.heap.size ≤ w.heap.size + 2; omega)⟩
/-- blocks of the code and new ones are turned -/
theorem RM.far {F : Nat → Prop} {w X X' : World} {N0 : Nat} {W R W' R' : Int} {vi vo : Value} {acc : List I6} {out : List Int} {line : Nat} {ended : Bool} (h : RM w X N0 W R vi vo acc out line ended) (hN : w.heap.size + 3 < N0) (s : St F X X') (hF : ∀ k, F k → k = w.heap.size ∨ (w.heap.size + 2 < k ∧ vi.ownBlock ≠ some k ∧ vo.ownBlock ≠ some k)) (hc : C4 X' w.heap.size W' R' vi vo) : RM w X' N0 W' R' vi vo acc out line ended := by
  have l1 := (Array.getElem?_eq_some_iff.1 h.ln).1
  have l2 := (Array.getElem?_eq_some_iff.1 h.en).1
  refine ⟨hc, st_blk h.ln s (fun e => by have := hF _ e; omega), st_blk h.en s (fun e => by have := hF _ e; omega), own_at h.ri (fun k hk => s.block k (h.ri.lt k hk).2 (fun e => by
    rcases hF _ e with e | ⟨_, e, _⟩
    · have := h.ri.lt k hk; omega
    · exact e hk)), own_at h.ro (fun k hk => s.block k (h.ro.lt k hk).2 (fun e => by
    rcases hF _ e with e | ⟨_, _, e⟩
    · have := h.ro.lt k hk; omega
    · exact e hk)), bk_st h.bk s (fun k e => by have := hF _ e; omega)⟩
/-- the last line is read: the row of registers is turned -/
theorem RM.outs {w X X' : World} {N0 r : Nat} {W R : Int} {vi vo vo' : Value} {acc : List I6} {out out' : List Int} {line : Nat} {ended : Bool} (h : RM w X N0 W R vi vo acc out line ended) (hN : w.heap.size + 3 < N0) (hr : w.heap.size + 3 < r) (hrn : vi.ownBlock ≠ some r) (s : St (thr r w.heap.size vo.ownBlock) X X') (hc : C4 X' w.heap.size W R vi vo') (ho : X'.ownsRow N0 3 1 vo' out'.length (ints out')) : RM w X' N0 W R vi vo' acc out' line ended := by
  have l1 := (Array.getElem?_eq_some_iff.1 h.ln).1
  have l2 := (Array.getElem?_eq_some_iff.1 h.en).1
  have hv : ∀ k, vo.ownBlock = some k → N0 ≤ k := fun k hk => (h.ro.lt k hk).1
  refine ⟨hc, st_blk h.ln s ?_, st_blk h.en s ?_, own_at h.ri (fun k hk => s.block k (h.ri.lt k hk).2 ?_), ho, bk_st h.bk s ?_⟩
  · rintro (e | e | e)
    · omega
    · omega
    · have := hv _ e; omega
  · rintro (e | e | e)
    · omega
    · omega
    · have := hv _ e; omega
  · rintro (e | e | e)
    · subst e; exact hrn hk
    · have := (h.ri.lt k hk).1; omega
    · obtain ⟨c1, t1⟩ := own_tag h.ri hk
      obtain ⟨c2, t2⟩ := own_tag h.ro e
      rw [t1] at t2
      simp at t2
  · rintro k (e | e | e)
    · omega
    · omega
    · have := hv _ e; omega
/-- an instruction is appended -/
theorem RM.inss {w X X' : World} {N0 : Nat} {W R : Int} {vi vo vi' : Value} {acc acc' : List I6} {out : List Int} {line : Nat} {ended : Bool} (h : RM w X N0 W R vi vo acc out line ended) (hN : w.heap.size + 3 < N0) (s : St (fun k => k = w.heap.size ∨ vi.ownBlock = some k) X X') (hc : C4 X' w.heap.size W R vi' vo) (ho : X'.ownsRow N0 42 6 vi' acc'.length (flat6 acc')) : RM w X' N0 W R vi' vo acc' out line ended := by
  have hv : ∀ k, vi.ownBlock = some k → N0 ≤ k := fun k hk => (h.ri.lt k hk).1
  refine ⟨hc, st_blk h.ln s ?_, st_blk h.en s ?_, ho, own_at h.ro (fun k hk => s.block k (h.ro.lt k hk).2 ?_), bk_st h.bk s ?_⟩
  · rintro (e | e)
    · omega
    · have := hv _ e; omega
  · rintro (e | e)
    · omega
    · have := hv _ e; omega
  · rintro (e | e)
    · have := (h.ro.lt k hk).1; omega
    · obtain ⟨c1, t1⟩ := own_tag h.ro hk
      obtain ⟨c2, t2⟩ := own_tag h.ri e
      rw [t1] at t2
      simp at t2
  · rintro k (e | e)
    · omega
    · have := hv _ e; omega
theorem keeps_gg {w X X' : World} {N0 : Nat} {W R : Int} {vi vo : Value} {acc : List I6} {out : List Int} {line : Nat} {ended : Bool} (h : RM w X N0 W R vi vo acc out line ended) (hN : w.heap.size + 3 < N0) (s : St (GG w.heap.size vi vo) X X') : KeepsFrom N0 X X' := by
  refine ⟨s.size, fun k o hk ho hc => (s.block k (Array.getElem?_eq_some_iff.1 ho).1 ?_).trans ho⟩
  rintro (e | e | e | e | e)
  · omega
  · omega
  · omega
  · obtain ⟨cur, ht⟩ := own_tag h.ri e
    rw [ho] at ht; cases ht; cases hc
  · obtain ⟨cur, ht⟩ := own_tag h.ro e
    rw [ho] at ht; cases ht; cases hc
theorem k1_gg {w X X' : World} {N0 b2 : Nat} {W R : Int} {vi vo : Value} {acc : List I6} {out : List Int} {line : Nat} {ended : Bool} (h : RM w X N0 W R vi vo acc out line ended) (hb : b2 = w.heap.size + 3) (hN : b2 < N0) (hl : b2 < X.heap.size) (s : St (GG w.heap.size vi vo) X X') : K1 b2 X X' := by
  refine s.block b2 hl ?_
  rintro (e | e | e | e | e)
  · omega
  · omega
  · omega
  · have := (h.ri.lt _ e).1; omega
  · have := (h.ro.lt _ e).1; omega
/-- the end of a round that goes on -/
theorem norm_close {w X Y : World} {N0 b2 : Nat} {W R W' R' : Int} {vi vo vi' vo' : Value} {acc acc' : List I6} {out out' : List Int} {line : Nat} {en en' : Bool} {pre : List BA} {x : BA}
    (h : RM w X N0 W R vi vo acc out line en) (hb : b2 = w.heap.size + 3) (hN : b2 < N0) (hl : b2 < X.heap.size) (s : St (GG w.heap.size vi vo) X Y) (hm : RM w Y N0 W' R' vi' vo' acc' out' (pre.length + 1) en') (hi : RdI (lsX (pre ++ [x])) en' W' R' acc' out') (ha : acc'.length ≤ pre.length + 1) (ho : out'.length ≤ 200000) :
    KeepsFrom N0 X Y ∧ K1 b2 X Y ∧ IVr w N0 (pre ++ [x]) Y :=
  ⟨keeps_gg h (by omega) s, k1_gg h hb hN hl s, W', R', vi', vo', acc', out', en', by rw [List.length_append]; exact hm, hi, by rw [List.length_append]; exact ha, ho⟩
/-- the end of a round that does not -/
theorem ret_close {w X Y : World} {N0 : Nat} {W R W' R' : Int} {vi vo : Value} {acc : List I6} {out : List Int} {line : Nat} {en : Bool} {pre : List BA} {x : BA} {pi po : Option Addr} {ni ci no co : Nat}
    (h : RM w X N0 W R vi vo acc out line en) (hN : w.heap.size + 3 < N0) (s : St (GG w.heap.size vi vo) X Y) (hc : C4 Y w.heap.size W' R' (.slice pi ni ci) (.slice po no co)) (hl : Y.heap[w.heap.size + 1]? = some (.cells #[.int .i64 ((pre.length : Int) + 1)] 3 (0, 0))) (hb : BK w Y) (hi : BadI (lsX (pre ++ [x]))) :
    KeepsFrom N0 X Y ∧ Code.ret = Code.ret ∧ IXr w (pre ++ [x]) Y :=
  ⟨keeps_gg h hN s, rfl, ⟨W', R', pi, po, ni, ci, no, co, hc⟩, by rw [List.length_append]; exact hl, hb, hi⟩
/-- c and the line are stored where they stand -/
def retW (Y : World) (n0 : Nat) (W R : Int) (vi vo : Value) (line : Int) : World := ((((Y.setCell ⟨n0, 0, none⟩ (.int .i64 W)).setCell ⟨n0, 1, none⟩ (.int .i64 R)).setCell ⟨n0, 2, none⟩ vi).setCell ⟨n0, 3, none⟩ vo).setCell ⟨n0 + 1, 0, none⟩ (.int .i64 line)
theorem retW_plain {w X Y : World} {W R : Int} {vi vo vi' vo' : Value} {line0 line : Int} (hc : C4 Y w.heap.size W R vi' vo') (hl : Y.heap[w.heap.size + 1]? = some (.cells #[.int .i64 line0] 3 (0, 0))) (hb : BK w Y) (s : St (GG w.heap.size vi vo) X Y) :
    C4 (retW Y w.heap.size W R vi' vo' line) w.heap.size W R vi' vo' ∧ (retW Y w.heap.size W R vi' vo' line).heap[w.heap.size + 1]? = some (.cells #[.int .i64 line] 3 (0, 0)) ∧ BK w (retW Y w.heap.size W R vi' vo' line) ∧ St (GG w.heap.size vi vo) X (retW Y w.heap.size W R vi' vo' line) := by
  have c4 := (((hc.set0 W).set1 R).set2 vi').set3 vo'
  have s4 := St.tr (St.tr (St.tr (St.tr s (st_set Y w.heap.size 0 (.int .i64 W)) (fun k _ e => .inl e)) (st_set _ w.heap.size 1 (.int .i64 R)) (fun k _ e => .inl e)) (st_set _ w.heap.size 2 vi') (fun k _ e => .inl e)) (st_set _ w.heap.size 3 vo') (fun k _ e => .inl e)
  have f : ∀ (Z : World) (j : Nat) (v : Value), Z.heap[w.heap.size + 1]? = some (.cells #[.int .i64 line0] 3 (0, 0)) → (Z.setCell ⟨w.heap.size, j, none⟩ v).heap[w.heap.size + 1]? = some (.cells #[.int .i64 line0] 3 (0, 0)) := fun Z j v h => (heap_setCell_other Z ⟨w.heap.size, j, none⟩ _ v (fun e => by have e : w.heap.size + 1 = w.heap.size := e; omega)).trans h
  have l4 := f _ 3 vo' (f _ 2 vi' (f _ 1 (.int .i64 R) (f _ 0 (.int .i64 W) hl)))
  have b4 := bk_set (bk_set (bk_set (bk_set hb ⟨w.heap.size, 0, none⟩ (.int .i64 W) (Nat.le_refl _)) ⟨w.heap.size, 1, none⟩ (.int .i64 R) (Nat.le_refl _)) ⟨w.heap.size, 2, none⟩ vi' (Nat.le_refl _)) ⟨w.heap.size, 3, none⟩ vo' (Nat.le_refl _)
  have c5 : C4 (retW Y w.heap.size W R vi' vo' line) w.heap.size W R vi' vo' := c4.st (st_set _ (w.heap.size + 1) 0 _) (fun e => by have e : w.heap.size = w.heap.size + 1 := e; omega)
  have l5 : (retW Y w.heap.size W R vi' vo' line).heap[w.heap.size + 1]? = some (.cells #[.int .i64 line] 3 (0, 0)) := by
    unfold retW
    rw [heap_setCell_same _ _ 0 _ 3 _ l4]; rfl
  have b5 : BK w (retW Y w.heap.size W R vi' vo' line) := bk_set b4 ⟨w.heap.size + 1, 0, none⟩ (.int .i64 line) (by show w.heap.size ≤ w.heap.size + 1; omega)
  have s5 : St (GG w.heap.size vi vo) X (retW Y w.heap.size W R vi' vo' line) := St.tr s4 (st_set _ (w.heap.size + 1) 0 (.int .i64 line)) (fun k _ e => .inr (.inl e))
  exact ⟨c5, l5, b5, s5⟩
theorem retW_all {w X Y : World} {W R : Int} {vi vo vi' vo' : Value} {line0 line : Int} (hc : C4 Y w.heap.size W R vi' vo') (hl : Y.heap[w.heap.size + 1]? = some (.cells #[.int .i64 line0] 3 (0, 0))) (hb : BK w Y) (s : St (GG w.heap.size vi vo) X Y) :
    C4 (retW Y w.heap.size W R vi' vo' line).drew w.heap.size W R vi' vo' ∧ (retW Y w.heap.size W R vi' vo' line).drew.heap[w.heap.size + 1]? = some (.cells #[.int .i64 line] 3 (0, 0)) ∧ BK w (retW Y w.heap.size W R vi' vo' line).drew ∧ St (GG w.heap.size vi vo) X (retW Y w.heap.size W R vi' vo' line).drew := by
  obtain ⟨c5, l5, b5, s5⟩ := retW_plain (line := line) hc hl hb s
  generalize retW Y w.heap.size W R vi' vo' line = Z at c5 l5 b5 s5 ⊢
  have kq := bk_drew (BK.refl Z)
  exact ⟨c5.keep kq, (bk_block kq (Array.getElem?_eq_some_iff.1 l5).1).trans l5, bk_drew b5, s5.trans (St.bk kq)⟩
theorem rows_ret {w X : World} {N0 : Nat} {W R : Int} {vi vo : Value} {acc : List I6} {out : List Int} {l0 : Nat} {en : Bool} {line : Int} (h : RM w X N0 W R vi vo acc out l0 en) (hN : w.heap.size + 3 < N0) :
    (retW X w.heap.size W R vi vo line).ownsRow N0 42 6 vi acc.length (flat6 acc) ∧ (retW X w.heap.size W R vi vo line).ownsRow N0 3 1 vo out.length (ints out) := by
  have e : ∀ k, N0 ≤ k → (retW X w.heap.size W R vi vo line).heap[k]? = X.heap[k]? := fun k hk => by
    unfold retW
    rw [heap_setCell_other _ ⟨w.heap.size + 1, 0, none⟩ k _ (fun e => by have e : k = w.heap.size + 1 := e; omega), heap_setCell_other _ ⟨w.heap.size, 3, none⟩ k _ (fun e => by have e : k = w.heap.size := e; omega), heap_setCell_other _ ⟨w.heap.size, 2, none⟩ k _ (fun e => by have e : k = w.heap.size := e; omega), heap_setCell_other _ ⟨w.heap.size, 1, none⟩ k _ (fun e => by have e : k = w.heap.size := e; omega), heap_setCell_other _ ⟨w.heap.size, 0, none⟩ k _ (fun e => by have e : k = w.heap.size := e; omega)]
  exact ⟨own_at h.ri (fun k hk => e k (h.ri.lt k hk).1), own_at h.ro (fun k hk => e k (h.ro.lt k hk).1)⟩
theorem lnT_len (l : List UInt8) : (lnT l).length ≤ l.length := by
  have := congrArg List.length (trm_lns l)
  rw [List.length_map] at this
  rw [this]; exact lns_len l
theorem trim_trm (l : List UInt8) : Lib.trimSuffix l [10] = trm l := by
  unfold Lib.trimSuffix trm Lib.hasSuffix
  rcases List.eq_nil_or_concat l with rfl | ⟨l', c, rfl⟩
  · rfl
  · by_cases h : c = 10
    · subst h
      simp [List.isSuffixOf]
    · have h2 : ¬ (10 : UInt8) = c := fun e => h e.symm
      simp [List.isSuffixOf, h, h2]
theorem trim76 (x : ByteArray) (hx : x.size ≤ 1000000) (w : World) : Calls Tryz.prog 76 #[.string x, .string ⟨#[10]⟩] w fun e w' => e = .returned (.string ⟨(trm (bl x)).toArray⟩) ∧ w = w' := by
  refine (Tryz.strings_TrimSuffix x ⟨#[10]⟩ w (by omega)).mono fun e w' ⟨h1, h2⟩ => ⟨?_, h2.symm⟩
  rw [h1]
  show Ending.returned (Value.string ⟨(Lib.trimSuffix (bl x) [10]).toArray⟩) = _
  rw [trim_trm]
theorem body_pos : ∀ (l : List (List UInt8)) (ln : Nat) (acc : List I6) (n : Nat), bodyP ln acc l = .bad n → ln + 1 ≤ n
  | [], ln, acc, n, h => by
    have h : PR.bad (ln + 1) = .bad n := h
    cases h; exact Nat.le_refl _
  | x :: r, ln, acc, n, h => by
    rw [body_cons] at h
    split at h
    · split at h
      · cases h; exact Nat.le_refl _
      · split at h
        · cases h
        · cases h; omega
    · split at h
      · cases h; exact Nat.le_refl _
      · have := body_pos r _ _ n h; omega
theorem prog_pos {l : List (List UInt8)} {n : Nat} (h : progP l = .bad n) : 1 ≤ n := by
  cases l with
  | nil => cases h; exact Nat.le_refl _
  | cons x r =>
    have h : (match headO (sp x) with | none => PC.bad 1 | some p => match bodyP 1 [] r with | .bad n => .bad n | .ok ins out => .ok p.1 p.2 ins out) = .bad n := h
    split at h
    · cases h; exact Nat.le_refl _
    · cases hb : bodyP 1 [] r with
      | bad k =>
        rw [hb] at h
        cases h
        have := body_pos r 1 [] _ hb
        omega
      | ok i o => rw [hb] at h; cases h
end Go.Proofs.YtneidfbgdgegjaaGreatDoor
