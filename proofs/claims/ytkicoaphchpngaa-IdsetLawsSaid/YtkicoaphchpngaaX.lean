/- The closures of choose. -/
import Derived.Test.YtkicoaphchpngaaW
import Derived.OneCell
namespace Go.Proofs.Ytkicoaphchpngaa
open Go.RowKit Go.Lib Go.Sort
set_option linter.unusedVariables false
set_option linter.unusedSimpArgs false
theorem keep_union (a b : Bool) (w : World) : Calls Try.prog 45 #[.bool a, .bool b] w fun e w' => e = .returned (.bool (a || b)) ∧ w = w' := by
  go_enter Try.func45, Try.ntmps45
  cases a <;> cases b <;> (go_wp2_with fail; go_ret; exact ⟨rfl, rfl⟩)
theorem keep_meet (a b : Bool) (w : World) : Calls Try.prog 46 #[.bool a, .bool b] w fun e w' => e = .returned (.bool (a && b)) ∧ w = w' := by
  go_enter Try.func46, Try.ntmps46
  cases a <;> cases b <;> (go_wp2_with fail; go_ret; exact ⟨rfl, rfl⟩)
theorem keep_minus (a b : Bool) (w : World) : Calls Try.prog 48 #[.bool a, .bool b] w fun e w' => e = .returned (.bool (a && !b)) ∧ w = w' := by
  go_enter Try.func48, Try.ntmps48
  cases a <;> cases b <;> (go_wp2_with fail; go_ret; exact ⟨rfl, rfl⟩)
/-- the chosen numbers so far, and what chooses -/
structure CH (w : World) (B pc kb : Nat) (kv v : Value) (out : List Int) : Prop where
  blk : w.heap[pc]? = some (.cells #[v] 22 (0, 0))
  keep : w.heap[kb]? = some (.cells #[kv] 47 (0, 0))
  row : w.ownsRow B 3 1 v out.length (nums out)
  pcB : pc < B
  kbB : kb < B
  size : B ≤ w.heap.size
structure FrC (B pc : Nat) (w w' : World) : Prop where
  os : w'.os = w.os
  tape : w'.tape = w.tape
  output : w'.output = w.output
  size : w.heap.size ≤ w'.heap.size
  block : ∀ k, k < B → k ≠ pc → w'.heap[k]? = w.heap[k]?
theorem FrC.refl (B pc : Nat) (w : World) : FrC B pc w w := ⟨rfl, rfl, rfl, Nat.le_refl _, fun _ _ _ => rfl⟩
theorem FrC.trans {B pc : Nat} {a b c : World} (h : FrC B pc a b) (k : FrC B pc b c) : FrC B pc a c :=
  ⟨k.os.trans h.os, k.tape.trans h.tape, k.output.trans h.output, Nat.le_trans h.size k.size, fun j h1 h2 => (k.block j h1 h2).trans (h.block j h1 h2)⟩
theorem CH.ne {w : World} {B pc kb : Nat} {kv v : Value} {out : List Int} (h : CH w B pc kb kv v out) : kb ≠ pc := by
  intro e; have := h.keep; rw [e, h.blk] at this; simp at this
theorem CH.push {w w' : World} {B pc kb : Nat} {kv v v' : Value} {out : List Int} {x : Int} (h : CH w B pc kb kv v out) (hb : Below B w w') (hr : w'.ownsRow B 3 1 v' (out.length + 1) (nums (out ++ [x]))) :
    CH (w'.setCell ⟨pc, 0, none⟩ v') B pc kb kv v' (out ++ [x]) ∧ FrC B pc w (w'.setCell ⟨pc, 0, none⟩ v') := by
  have e1 : w'.heap[pc]? = some (.cells #[v] 22 (0, 0)) := (hb.block pc h.pcB).trans h.blk
  have e2 := one_setCell (u := v') e1
  have hne := h.ne
  have e3 : ∀ k, k ≠ pc → (w'.setCell ⟨pc, 0, none⟩ v').heap[k]? = w'.heap[k]? := fun k hk => heap_setCell_other w' ⟨pc, 0, none⟩ k v' hk
  refine ⟨⟨e2, (e3 kb hne).trans ((hb.block kb h.kbB).trans h.keep), ?_, h.pcB, h.kbB, ?_⟩, ?_⟩
  · have := ownsRow_setCell_other hr (a := ⟨pc, 0, none⟩) (fun e => by have := (World.ownsRow.lt hr pc e).1; have := h.pcB; omega) v'
    simpa using this
  · have : (w'.setCell ⟨pc, 0, none⟩ v').heap.size = w'.heap.size := by simp
    rw [this]; exact Nat.le_trans h.size hb.size
  · exact ⟨hb.os, hb.tape, hb.output, by simpa using hb.size, fun k h1 h2 => (e3 k h2).trans (hb.block k h1)⟩
def VPost (w : World) (B pc kb : Nat) (kv : Value) (out : List Int) (w' : World) : Prop := ∃ v', CH w' B pc kb kv v' out ∧ FrC B pc w w'
set_option maxHeartbeats 1000000 in
theorem visit_45 (B pc kb : Nat) (v : Value) (out : List Int) (x : Int) (a b : Bool) (w : World) (h : CH w B pc kb (.func (.func 45) #[] #[]) v out) (hs : out.length ≤ 2000) :
    Calls Try.prog 63 #[.int .i64 x, .bool a, .bool b, .pointer (some ⟨kb, 0, none⟩), .pointer (some ⟨pc, 0, none⟩)] w fun e w' => e = .returned (.bool true) ∧ VPost w B pc kb (.func (.func 45) #[] #[]) (if (a || b) = true then out ++ [x] else out) w' := by
  have c1 := cell_of_one h.blk
  have c2 := cell_of_one h.keep
  have f1 := free_of_one h.blk
  have hk := Lib.hid (keep_union a b w)
  have hsz := h.size
  have hpc := h.pcB
  have h' := Lib.hid h
  clear h
  cases hd : (a || b)
  · rw [hd] at hk
    go_enter Try.func63, Try.ntmps63
    go_wp2_with (go_at_call 45; refine hk.out.mono ?_; rintro e w' ⟨rfl, rfl⟩)
    go_ret
    exact ⟨rfl, v, h'.out, FrC.refl _ _ _⟩
  · rw [hd] at hk
    have cx := Lib.hid (show (w.alloc (.cells #[.int .i64 x] 3)).cell? ⟨pc, 0, none⟩ = some v from ((below_alloc w _).cell (p := ⟨pc, 0, none⟩) (lt_of_block h'.out.blk)).trans c1)
    go_enter Try.func63, Try.ntmps63
    go_wp2_with (first
      | (go_at_call 45; refine hk.out.mono ?_; rintro e w' ⟨rfl, rfl⟩)
      | (at_builtin; refine wpList_append_src rfl (.tmp 13) (.tmp 15) rfl B v out.length out (by simp [Act.eval, Act.put]) (h'.out.row.alloc _) _ [x] (by simp [Act.eval, Act.put]) (src_one w x) (by simp; omega) (Nat.le_trans hsz (below_alloc _ _).size) ?_; intro v2 w2 ho2 hb2; have hB2 := Lib.hid ((below_alloc w _).mono hsz |>.trans hb2); have ho2c := (own_cast ho2 (by simp) rfl : w2.ownsRow B 3 1 v2 (out.length + 1) (nums (out ++ [x]))); obtain ⟨g2, cap2, hv2⟩ := Joins.ownsRow_form ho2c (by omega); subst hv2; have ho2' := Lib.hid ho2c; clear ho2c; have hblk := (hB2.out.block pc hpc).trans h'.out.blk; have c3 := cell_of_one hblk; have f3 := free_of_one hblk; clear ho2 hb2 hblk c1 f1 c2))
    go_ret
    exact ⟨rfl, _, (h'.out.push hB2.out ho2'.out).1, (h'.out.push hB2.out ho2'.out).2⟩
set_option maxHeartbeats 1000000 in
theorem visit_46 (B pc kb : Nat) (v : Value) (out : List Int) (x : Int) (a b : Bool) (w : World) (h : CH w B pc kb (.func (.func 46) #[] #[]) v out) (hs : out.length ≤ 2000) :
    Calls Try.prog 63 #[.int .i64 x, .bool a, .bool b, .pointer (some ⟨kb, 0, none⟩), .pointer (some ⟨pc, 0, none⟩)] w fun e w' => e = .returned (.bool true) ∧ VPost w B pc kb (.func (.func 46) #[] #[]) (if (a && b) = true then out ++ [x] else out) w' := by
  have c1 := cell_of_one h.blk
  have c2 := cell_of_one h.keep
  have f1 := free_of_one h.blk
  have hk := Lib.hid (keep_meet a b w)
  have hsz := h.size
  have hpc := h.pcB
  have h' := Lib.hid h
  clear h
  cases hd : (a && b)
  · rw [hd] at hk
    go_enter Try.func63, Try.ntmps63
    go_wp2_with (go_at_call 46; refine hk.out.mono ?_; rintro e w' ⟨rfl, rfl⟩)
    go_ret
    exact ⟨rfl, v, h'.out, FrC.refl _ _ _⟩
  · rw [hd] at hk
    have cx := Lib.hid (show (w.alloc (.cells #[.int .i64 x] 3)).cell? ⟨pc, 0, none⟩ = some v from ((below_alloc w _).cell (p := ⟨pc, 0, none⟩) (lt_of_block h'.out.blk)).trans c1)
    go_enter Try.func63, Try.ntmps63
    go_wp2_with (first
      | (go_at_call 46; refine hk.out.mono ?_; rintro e w' ⟨rfl, rfl⟩)
      | (at_builtin; refine wpList_append_src rfl (.tmp 13) (.tmp 15) rfl B v out.length out (by simp [Act.eval, Act.put]) (h'.out.row.alloc _) _ [x] (by simp [Act.eval, Act.put]) (src_one w x) (by simp; omega) (Nat.le_trans hsz (below_alloc _ _).size) ?_; intro v2 w2 ho2 hb2; have hB2 := Lib.hid ((below_alloc w _).mono hsz |>.trans hb2); have ho2c := (own_cast ho2 (by simp) rfl : w2.ownsRow B 3 1 v2 (out.length + 1) (nums (out ++ [x]))); obtain ⟨g2, cap2, hv2⟩ := Joins.ownsRow_form ho2c (by omega); subst hv2; have ho2' := Lib.hid ho2c; clear ho2c; have hblk := (hB2.out.block pc hpc).trans h'.out.blk; have c3 := cell_of_one hblk; have f3 := free_of_one hblk; clear ho2 hb2 hblk c1 f1 c2))
    go_ret
    exact ⟨rfl, _, (h'.out.push hB2.out ho2'.out).1, (h'.out.push hB2.out ho2'.out).2⟩
set_option maxHeartbeats 1000000 in
theorem visit_48 (B pc kb : Nat) (v : Value) (out : List Int) (x : Int) (a b : Bool) (w : World) (h : CH w B pc kb (.func (.func 48) #[] #[]) v out) (hs : out.length ≤ 2000) :
    Calls Try.prog 63 #[.int .i64 x, .bool a, .bool b, .pointer (some ⟨kb, 0, none⟩), .pointer (some ⟨pc, 0, none⟩)] w fun e w' => e = .returned (.bool true) ∧ VPost w B pc kb (.func (.func 48) #[] #[]) (if (a && !b) = true then out ++ [x] else out) w' := by
  have c1 := cell_of_one h.blk
  have c2 := cell_of_one h.keep
  have f1 := free_of_one h.blk
  have hk := Lib.hid (keep_minus a b w)
  have hsz := h.size
  have hpc := h.pcB
  have h' := Lib.hid h
  clear h
  cases hd : (a && !b)
  · rw [hd] at hk
    go_enter Try.func63, Try.ntmps63
    go_wp2_with (go_at_call 48; refine hk.out.mono ?_; rintro e w' ⟨rfl, rfl⟩)
    go_ret
    exact ⟨rfl, v, h'.out, FrC.refl _ _ _⟩
  · rw [hd] at hk
    have cx := Lib.hid (show (w.alloc (.cells #[.int .i64 x] 3)).cell? ⟨pc, 0, none⟩ = some v from ((below_alloc w _).cell (p := ⟨pc, 0, none⟩) (lt_of_block h'.out.blk)).trans c1)
    go_enter Try.func63, Try.ntmps63
    go_wp2_with (first
      | (go_at_call 48; refine hk.out.mono ?_; rintro e w' ⟨rfl, rfl⟩)
      | (at_builtin; refine wpList_append_src rfl (.tmp 13) (.tmp 15) rfl B v out.length out (by simp [Act.eval, Act.put]) (h'.out.row.alloc _) _ [x] (by simp [Act.eval, Act.put]) (src_one w x) (by simp; omega) (Nat.le_trans hsz (below_alloc _ _).size) ?_; intro v2 w2 ho2 hb2; have hB2 := Lib.hid ((below_alloc w _).mono hsz |>.trans hb2); have ho2c := (own_cast ho2 (by simp) rfl : w2.ownsRow B 3 1 v2 (out.length + 1) (nums (out ++ [x]))); obtain ⟨g2, cap2, hv2⟩ := Joins.ownsRow_form ho2c (by omega); subst hv2; have ho2' := Lib.hid ho2c; clear ho2c; have hblk := (hB2.out.block pc hpc).trans h'.out.blk; have c3 := cell_of_one hblk; have f3 := free_of_one hblk; clear ho2 hb2 hblk c1 f1 c2))
    go_ret
    exact ⟨rfl, _, (h'.out.push hB2.out ho2'.out).1, (h'.out.push hB2.out ho2'.out).2⟩
end Go.Proofs.Ytkicoaphchpngaa
