/- strings.SplitSeq at a blank. -/
import Derived.Test.YtkdpbmbkpepelaaDoorO
namespace Go.Proofs.YtkdpbmbkpepelaaDoor
open Go.RowKit Go.Shelf
set_option linter.unusedVariables false
set_option linter.unusedSimpArgs false
attribute [local go_sem] Oper.semAt_some
theorem idxb (c : UInt8) : ∀ l : List UInt8, (Lib.indexByte l c = -1 ∧ ∀ x ∈ l, x ≠ c) ∨ ∃ i : Nat, Lib.indexByte l c = (i : Int) ∧ i < l.length ∧ l = l.take i ++ c :: l.drop (i + 1) ∧ ∀ x ∈ l.take i, x ≠ c
  | [] => .inl ⟨rfl, by simp⟩
  | b :: l => by
    by_cases hb : b = c
    · subst hb
      right
      exact ⟨0, by simp [Lib.indexByte], by simp, by simp, by simp⟩
    · have hb' : (b == c) = false := by simpa using hb
      rcases idxb c l with ⟨h1, h2⟩ | ⟨i, h1, h2, h3, h4⟩
      · left
        refine ⟨by simp [Lib.indexByte, hb', h1], ?_⟩
        intro x hx
        rcases List.mem_cons.1 hx with rfl | hx
        · exact hb
        · exact h2 x hx
      · right
        refine ⟨i + 1, ?_, by simp; omega, ?_, ?_⟩
        · have : ((i : Int) == -1) = false := by rw [beq_eq_false_iff_ne]; omega
          simp [Lib.indexByte, hb', h1]
        · show b :: l = b :: (l.take i ++ c :: l.drop (i + 1))
          exact congrArg _ h3
        · intro x hx
          rcases List.mem_cons.1 (show x ∈ b :: l.take i from hx) with rfl | hx
          · exact hb
          · exact h4 x hx
theorem sp_at {l : List UInt8} {i : Nat} (h : l = l.take i ++ 32 :: l.drop (i + 1)) (h2 : ∀ x ∈ l.take i, x ≠ 32) : sp l = l.take i :: sp (l.drop (i + 1)) := by
  conv => lhs; rw [h]
  exact sp_cut _ h2
/-- what a round keeps: the iterator's own boxes -/
def Kb (b1 b2 b3 : Nat) (A B : World) : Prop := B.heap[b1]? = A.heap[b1]? ∧ B.heap[b2]? = A.heap[b2]? ∧ B.heap[b3]? = A.heap[b3]?
theorem Kb.trans {b1 b2 b3 : Nat} {A B C : World} (h : Kb b1 b2 b3 A B) (k : Kb b1 b2 b3 B C) : Kb b1 b2 b3 A C := ⟨k.1.trans h.1, k.2.1.trans h.2.1, k.2.2.trans h.2.2⟩
theorem Kb.put {b1 b2 b3 n : Nat} (h1 : b1 < n) (h2 : b2 < n) (h3 : b3 < n) (W : World) (l : Nat) (o : Obj) (hl : n ≤ l) : Kb b1 b2 b3 W (W.putObj l o) :=
  ⟨World.putObj_heap_other (by omega), World.putObj_heap_other (by omega), World.putObj_heap_other (by omega)⟩
theorem bx_set {W : World} {b b' : Nat} {t : TypeId} {v x : Value} (h : Boxed W b t v) (hn : b ≠ b') : Boxed (W.setCell ⟨b', 0, none⟩ x) b t v := (heap_setCell_other W ⟨b', 0, none⟩ b x (fun e => hn e)).trans h
def szOf (b : Nat) (w : World) : Nat := match w.cell? ⟨b, 0, none⟩ with | some (.string t) => t.size | _ => 0
theorem szOf_eq {b : Nat} {w : World} {t : ByteArray} (h : Boxed w b 9 (.string t)) : szOf b w = t.size := by unfold szOf; rw [h.cell]
/-- a piece, of a size that can be spoken of -/
abbrev BA := { x : ByteArray // x.size ≤ 1000000 }
def encB (x : BA) : Array Value := #[.string x.1]
def bls (xs : List BA) : List (List UInt8) := xs.map fun x => bl x.1
theorem bls_snoc (xs : List BA) (x : BA) : bls (xs ++ [x]) = bls xs ++ [bl x.1] := by simp [bls]
theorem bls_len (xs : List BA) : (bls xs).length = xs.length := by simp [bls]
set_option maxRecDepth 100000 in
set_option maxHeartbeats 4000000 in
theorem spl59 (l b1 b2 b3 : Nat) (h12 : b1 ≠ b2) (h32 : b3 ≠ b2) (s : ByteArray) (hs : s.size ≤ 1000000) (J Jx : List BA → World → Prop)
    (hJ : ∀ pre A v, J pre A → J pre (A.setCell ⟨b2, 0, none⟩ v))
    (hY : ∀ pre x A, J pre A → pre.length < (sp (bl s)).length → YieldAt Fence.wide 4 Tryd.prog l (encB x) A fun e B =>
      (e = .returned (.bool true) ∧ J (pre ++ [x]) B ∧ Kb b1 b2 b3 A B) ∨ (e = .returned (.bool false) ∧ Jx (pre ++ [x]) B))
    (W : World) (k1 : Boxed W b1 9 (.string ⟨#[32]⟩)) (k2 : Boxed W b2 9 (.string s)) (k3 : Boxed W b3 3 (.int .i64 0)) (h0 : J [] W) :
    CallsIn Fence.wide 5 Tryd.prog 59 #[.func (.yield l) #[] #[], .pointer (some ⟨b1, 0, none⟩), .pointer (some ⟨b2, 0, none⟩), .pointer (some ⟨b3, 0, none⟩)] W fun e B => (∃ v, e = .returned v) ∧
      ((∃ xs : List BA, bls xs = sp (bl s) ∧ J xs B) ∨ (∃ pre, (∃ rest, bls pre ++ rest = sp (bl s)) ∧ Jx pre B)) := by
  have c1 := k1.cell
  have K1 := Lib.hid k1
  have K2 := Lib.hid k2
  have K3 := Lib.hid k3
  clear k1 k2 k3
  refine callsIn_of_wp Tryd.func59 rfl trivial ?_ rfl
  simp only [Tryd.ntmps59, List.size_toArray, List.length_cons, List.length_nil, Nat.reduceAdd, Nat.reduceSub, Array.replicate_succ, Array.replicate_zero, List.push_toArray, List.append_toArray, List.nil_append, List.cons_append]
  gi_wp2
  clear c1
  gi_loopw [] (fun wr => ∃ (pre : List BA) (t : ByteArray), (Boxed wr b1 9 (.string ⟨#[32]⟩) ∧ Boxed wr b2 9 (.string t) ∧ Boxed wr b3 3 (.int .i64 0)) ∧ J pre wr ∧ Hid (bls pre ++ sp (bl t) = sp (bl s)) ∧ t.size ≤ s.size) (fun wr => szOf b2 wr)
  case atStart => exact ⟨[], s, ⟨K1.out, K2.out, K3.out⟩, h0, Lib.hid rfl, Nat.le_refl _⟩
  case round =>
    obtain ⟨pre, t, ⟨k1, k2, k3⟩, hj, hp, ht⟩ := hrel
    have M1 := Lib.hid k1
    have M2 := Lib.hid k2
    have M3 := Lib.hid k3
    have c1 := k1.cell
    have c2 := k2.cell
    have c3 := k3.cell
    have f2 := k2.frozen
    have HLEN := Lib.hid (show pre.length < (sp (bl s)).length by
      rw [← hp.out, List.length_append, bls_len]
      have := List.length_pos_iff.2 (sp_ne (bl t))
      omega)
    have hI := fun w => Tryd.strings_Index_one t 32 w
    rw [show t.data.toList = bl t from rfl] at hI
    clear k1 k2 k3
    rcases idxb 32 (bl t) with ⟨hi1, hi2⟩ | ⟨i, hi1, hi2, hi3, hi4⟩
    · rw [hi1] at hI
      obtain ⟨fn, tmps, assign, body, hy, hR⟩ := hY pre ⟨t, by omega⟩ wr hj HLEN.out
      unfold encB at hy
      dsimp only at hy
      have HS := Lib.hid (show bls (pre ++ [⟨t, by omega⟩]) = sp (bl s) by rw [← hp.out, sp_plain hi2, bls_snoc])
      clear hi2 hi1
      gi_wp2_with (refine ⟨trivial, ?_⟩; gi_at_call 61; refine (callsIn_wide.2 (hI _)).mono ?_; rintro e w' ⟨rfl, rfl⟩)
      refine hR.mono ?_
      rintro e W3 (⟨rfl, hJ3, hk3⟩ | ⟨rfl, hJx3⟩)
      · gi_wp2
        go_end0
        exact ⟨⟨_, rfl⟩, .inl ⟨_, HS.out, hJ3⟩⟩
      · gi_wp2
        go_end0
        exact ⟨⟨_, rfl⟩, .inr ⟨_, ⟨[], by rw [List.append_nil]; exact HS.out⟩, hJx3⟩⟩
    · rw [hi1] at hI
      have hit : i < t.size := by rwa [bl_len] at hi2
      have hIn := Lib.hid (sp_at hi3 hi4)
      clear hi1 hi2 hi3 hi4
      obtain ⟨fn, tmps, assign, body, hy, hR⟩ := hY pre ⟨t.extract 0 i, Nat.le_trans (ext_size _ _ _) (by omega)⟩ wr hj HLEN.out
      unfold encB at hy
      dsimp only at hy
      gi_wp2_with (refine ⟨trivial, ?_⟩; gi_at_call 61; refine (callsIn_wide.2 (hI _)).mono ?_; rintro e w' ⟨rfl, rfl⟩)
      refine hR.mono ?_
      rintro e W3 (⟨rfl, hJ3, hk3⟩ | ⟨rfl, hJx3⟩)
      · have m1 : Boxed W3 b1 9 (.string ⟨#[32]⟩) := hk3.1.trans M1.out
        have m2 : Boxed W3 b2 9 (.string t) := hk3.2.1.trans M2.out
        have m3 : Boxed W3 b3 3 (.int .i64 0) := hk3.2.2.trans M3.out
        have N1 := Lib.hid m1
        have N2 := Lib.hid m2
        have N3 := Lib.hid m3
        have d1 := m1.cell
        have d2 := m2.cell
        have g2 := m2.frozen
        clear hk3 m1 m2 m3 c1 c2 c3 f2
        gi_wp2
        go_roundw
        case rel => 
          refine ⟨_, t.extract (i + 1) t.size, ⟨bx_set N1.out h12, N2.out.set _, bx_set N3.out h32⟩, hJ _ _ _ hJ3, Lib.hid ?_, Nat.le_trans (ext_size _ _ _) ht⟩
          rw [← hp.out, hIn.out, bls_snoc, ext_head, ext_tail _ _ _ (Nat.le_refl _)]
          simp
        case measure =>
          rw [szOf_eq (N2.out.set _), szOf_eq M2.out, ← bl_len, ext_tail _ _ _ (Nat.le_refl _), List.length_drop, bl_len]
          omega
      · gi_wp2
        refine bodyPost_ret (results_none rfl _ _ _) rfl ?_
        exact ⟨⟨_, rfl⟩, .inr ⟨_, ⟨sp ((bl t).drop (i + 1)), by rw [bls_snoc, ← hp.out, hIn.out, ext_head]; simp⟩, hJx3⟩⟩
theorem spl_st (b1 b2 b3 : Nat) (h12 : b1 ≠ b2) (h32 : b3 ≠ b2) (s : ByteArray) (hs : s.size ≤ 1000000) (w : World) (k1 : Boxed w b1 9 (.string ⟨#[32]⟩)) (k2 : Boxed w b2 9 (.string s)) (k3 : Boxed w b3 3 (.int .i64 0)) :
    SeqSt Fence.wide 5 Tryd.prog 59 #[.pointer (some ⟨b1, 0, none⟩), .pointer (some ⟨b2, 0, none⟩), .pointer (some ⟨b3, 0, none⟩)] encB (Kb b1 b2 b3) (fun A B => ∃ v, B = A.setCell ⟨b2, 0, none⟩ v) (fun xs => bls xs = sp (bl s)) (fun pre => ∃ rest, bls pre ++ rest = sp (bl s)) (sp (bl s)).length w :=
  fun l J Jx W hW hJ hY h0 => spl59 l b1 b2 b3 h12 h32 s hs J Jx (fun pre A v h => hJ pre A _ h ⟨v, rfl⟩) hY W ((bk_block hW k1.lt).trans k1) ((bk_block hW k2.lt).trans k2) ((bk_block hW k3.lt).trans k3) h0
set_option maxHeartbeats 1000000 in
theorem spl44 (s p : ByteArray) (w : World) : Calls Tryd.prog 44 #[.string s, .string p, .int .i64 0] w fun e w' => e = .returned (.func (.func 59) #[] #[.pointer (some ⟨w.heap.size + 1, 0, none⟩), .pointer (some ⟨w.heap.size, 0, none⟩), .pointer (some ⟨w.heap.size + 1 + 1, 0, none⟩)]) ∧ w' = ((w.alloc (.cells #[.string s] 9)).alloc (.cells #[.string p] 9)).alloc (.cells #[.int .i64 0] 3) := by
  go_enter Tryd.func44, Tryd.ntmps44
  go_wp2_with fail
  go_ret
  exact ⟨rfl, rfl⟩
set_option maxHeartbeats 1000000 in
theorem spl35 (s p : ByteArray) (w : World) : Calls Tryd.prog 35 #[.string s, .string p] w fun e w' => e = .returned (.func (.func 59) #[] #[.pointer (some ⟨w.heap.size + 1, 0, none⟩), .pointer (some ⟨w.heap.size, 0, none⟩), .pointer (some ⟨w.heap.size + 1 + 1, 0, none⟩)]) ∧ w' = ((w.alloc (.cells #[.string s] 9)).alloc (.cells #[.string p] 9)).alloc (.cells #[.int .i64 0] 3) := by
  go_enter Tryd.func35, Tryd.ntmps35
  go_wp2_with (go_at_call 44; refine (spl44 s p _).mono ?_; rintro e w' ⟨rfl, rfl⟩)
  go_ret
  exact ⟨rfl, rfl⟩
end Go.Proofs.YtkdpbmbkpepelaaDoor
