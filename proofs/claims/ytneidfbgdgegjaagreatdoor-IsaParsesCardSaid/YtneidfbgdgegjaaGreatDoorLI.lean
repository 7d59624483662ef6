/- A region that draws its order, within a round; strings.Lines. -/
import Derived.Test.YtneidfbgdgegjaaGreatDoorDQ
import Derived.Test.YtneidfbgdgegjaaGreatDoorRA
import Derived.Test.YtneidfbgdgegjaaGreatDoorShelf
import Derived.OrdersIn
namespace Go.Proofs.YtneidfbgdgegjaaGreatDoor
open Go.RowKit Go.Shelf
set_option linter.unusedVariables false
set_option linter.unusedSimpArgs false
theorem wpIn_of_wp {P : Program} {o : Oper} {a : Act} {w : World} {K : Act → World → Prop} {Q : Exit → Act → World → Prop} {l n : Nat} (ho : ∀ c, o.op ≠ .defer c) (h : o.wp P a w K Q) : o.wpIn (Fence.wide.inRound l) n P a w K Q := by
  refine ⟨fun _ _ => trivial, ?_⟩
  rw [Oper.semAt_plain _ _ _ ho]
  unfold Oper.wp at h
  generalize (execOp a.eval o).run P w = r at *
  cases r with
  | ok x w' =>
    cases x <;> simp only [Oper.upon, Oper.uponIn] at h ⊢ <;> first
      | exact h
      | exact ⟨fun e => (by cases e), callsIn_wide.2 h⟩
      | exact ⟨fun e => (by cases e), fun c cs _ => let ⟨v, w'', r, s⟩ := h c cs; ⟨v, w'', r, stepsIn_wide.2 s⟩⟩
      | exact h.elim
  | halt x w' => cases x <;> simp only [Oper.upon, Oper.uponIn] at h ⊢ <;> exact h
def onlyN (K : Act → World → Prop) : Exit → Act → World → Prop
  | .normal, a, w => K a w
  | _, _, _ => False
theorem wpAnyIn_of_wpAny {P : Program} {ops : Array Oper} {K : Act → World → Prop} {md : Region.Mode} {l n : Nat} (ho : ∀ (i : Nat) (o : Oper), ops[i]? = some o → ∀ c, o.op ≠ .defer c) : ∀ (fuel : Nat) (listed : Array Bool) (a : Act) (w : World), wpAny P md ops (onlyN K) fuel listed a w → wpAnyIn (Fence.wide.inRound l) n P md ops (onlyN K) fuel listed a w
  | 0, _, _, _, h => h
  | fuel + 1, listed, a, w, h => ⟨h.1, fun i hi => by
    have hh := h.2 i hi
    unfold wpOp at hh
    unfold wpOpIn
    cases hi2 : ops[i]? with
    | none =>
      rw [hi2] at hh
      exact wpAnyIn_of_wpAny ho fuel _ _ _ hh
    | some o =>
      rw [hi2] at hh
      dsimp only at hh ⊢
      by_cases hw : Region.wanted o (yielded ops a.tmps) = true
      · rw [if_pos hw] at hh ⊢
        rcases hh with hh | ⟨_, _, _, hh⟩
        · exact Oper.wpIn_mono (fun a' w' h' => wpAnyIn_of_wpAny ho fuel _ a' w' h') (wpIn_of_wp (ho i o hi2) hh)
        · exact hh.elim
      · rw [if_neg hw] at hh ⊢
        exact ⟨fun _ _ => trivial, wpAnyIn_of_wpAny ho fuel _ _ _ hh⟩⟩
theorem region_in {P : Program} {ops : Array Oper} {Q : Exit → Act → World → Prop} {l n id : Nat} {a : Act} {w : World} {S : World → Prop} (hm : P.follows .mixedOrders = true) (ho : (ops.all fun o => match o.op with | .defer _ => false | _ => true) = true) (hS : S w.drew)
    (h : S w.drew → wpAnyH P .any ops (onlyN (Q .normal)) S ops.size (Array.replicate ops.size false) a w.drew) : (Code.region id ops true).wpIn (Fence.wide.inRound l) n P Q a w :=
  wpIn_mono (wpIn_region_any hm (wpAnyIn_of_wpAny (fun i o hi c hc => by
    have := Array.all_eq_true.1 ho i (Array.getElem?_eq_some_iff.1 hi).1
    rw [(Array.getElem?_eq_some_iff.1 hi).2, hc] at this
    cases this) _ _ _ _ (wpAny_of_held _ _ _ _ (h hS)))) (fun e a w h => by cases e <;> first | exact h | exact h.elim)
/-! strings.Lines -/
/-- what a round keeps: the iterator's own box -/
def K1 (b : Nat) (A B : World) : Prop := B.heap[b]? = A.heap[b]?
theorem K1.trans {b : Nat} {A B C : World} (h : K1 b A B) (k : K1 b B C) : K1 b A C := Eq.trans k h
theorem lnT_at {l : List UInt8} {i : Nat} (h : l = l.take i ++ 10 :: l.drop (i + 1)) (h2 : ∀ x ∈ l.take i, x ≠ 10) : lnT l = l.take (i + 1) :: lnT (l.drop (i + 1)) := by
  have e : l.take (i + 1) = l.take i ++ [10] := by
    have hl : i < l.length := by
      have := congrArg List.length h
      simp at this; omega
    rw [List.take_succ_eq_append_getElem hl]
    congr 2
    have h3 : l[i]? = some 10 := by
      rw [h, List.getElem?_append_right (by simp; omega)]
      simp; rw [show i - min i l.length = 0 by omega]; rfl
    rw [List.getElem?_eq_getElem hl] at h3
    simpa using h3
  rw [e]
  conv => lhs; rw [h]
  exact lnT_cut _ h2
theorem ext_all (t : ByteArray) : t.extract 0 t.size = t := by
  apply bl_inj; rw [ext_head, List.take_of_length_le (by rw [bl_len]; exact Nat.le_refl _)]
set_option maxRecDepth 100000 in
set_option maxHeartbeats 4000000 in
theorem lin92 (l b2 : Nat) (s : ByteArray) (hs : s.size ≤ 100000) (J Jx : List BA → World → Prop)
    (hJ : ∀ pre A v, J pre A → J pre (A.setCell ⟨b2, 0, none⟩ v)) (hD : ∀ pre A, J pre A → J pre A.drew)
    (hY : ∀ pre x A, J pre A → pre.length < (lnT (bl s)).length → YieldAt Fence.wide 4 Tryz.prog l (encB x) A fun e B =>
      (e = .returned (.bool true) ∧ J (pre ++ [x]) B ∧ K1 b2 A B) ∨ (e = .returned (.bool false) ∧ Jx (pre ++ [x]) B))
    (W : World) (k2 : Boxed W b2 9 (.string s)) (h0 : J [] W) :
    CallsIn Fence.wide 5 Tryz.prog 92 #[.func (.yield l) #[] #[], .pointer (some ⟨b2, 0, none⟩)] W fun e B => (∃ v, e = .returned v) ∧
      ((∃ xs : List BA, bls xs = lnT (bl s) ∧ J xs B) ∨ (∃ pre, (∃ rest, bls pre ++ rest = lnT (bl s)) ∧ Jx pre B)) := by
  have K2 := Lib.hid k2
  clear k2
  refine callsIn_of_wp Tryz.func92 rfl trivial ?_ rfl
  simp only [Tryz.ntmps92, List.size_toArray, List.length_cons, List.length_nil, Nat.reduceAdd, Nat.reduceSub, Array.replicate_succ, Array.replicate_zero, List.push_toArray, List.append_toArray, List.nil_append, List.cons_append]
  gi_wp2
  gi_loopw [] (fun wr => ∃ (pre : List BA) (t : ByteArray), Boxed wr b2 9 (.string t) ∧ J pre wr ∧ Hid (bls pre ++ lnT (bl t) = lnT (bl s)) ∧ t.size ≤ s.size) (fun wr => szOf b2 wr)
  case atStart => exact ⟨[], s, K2.out, h0, Lib.hid rfl, Nat.le_refl _⟩
  case round =>
    obtain ⟨pre, t, k2, hj, hp, ht⟩ := hrel
    have M2 := Lib.hid k2
    have c2 := k2.cell
    have f2 := k2.frozen
    clear k2
    by_cases h0 : t.size = 0
    · have HE := Lib.hid (show bls pre = lnT (bl s) by
        have : bl t = [] := List.eq_nil_of_length_eq_zero (by rw [bl_len]; exact h0)
        rw [← hp.out, this]; simp [lnT])
      have hg : ¬ (0 : Int) < (t.size : Int) := by omega
      clear h0
      gi_wp2
      go_end0
      exact ⟨⟨_, rfl⟩, .inl ⟨_, HE.out, hj⟩⟩
    · have hg : (0 : Int) < (t.size : Int) := by omega
      have hne : bl t ≠ [] := fun e => h0 (by rw [← bl_len, e]; rfl)
      have HLEN := Lib.hid (show pre.length < (lnT (bl s)).length by
        rw [← hp.out, List.length_append, bls_len]
        have : lnT (bl t) ≠ [] := by
          cases hb : bl t with
          | nil => exact absurd hb hne
          | cons c r =>
            unfold lnT; split
            · simp
            · split <;> simp
        have := List.length_pos_iff.2 this
        omega)
      have hI : ∀ w, Calls Tryz.prog 93 #[.string t, .int .u8 10] w fun e w' => e = .returned (.int .i64 (Lib.indexByte (bl t) 10)) ∧ w' = w := fun w => Tryz.strings_IndexByte t 10 w
      clear hne h0
      rcases idxb 10 (bl t) with ⟨hi1, hi2⟩ | ⟨i, hi1, hi2, hi3, hi4⟩
      · rw [hi1] at hI
        obtain ⟨fn, tmps, assign, body, hy, hR⟩ := hY pre ⟨t, by omega⟩ _ (hJ pre wr (.string ⟨#[]⟩) hj) HLEN.out
        unfold encB at hy
        dsimp only at hy
        have HS := Lib.hid (show bls (pre ++ [⟨t, by omega⟩]) = lnT (bl s) by
          rw [← hp.out, lnT_end (by intro e; rw [← bl_len, e] at hg; simp at hg) hi2, bls_snoc])
        have N2 := Lib.hid (M2.out.set (.string ⟨#[]⟩))
        clear hi2 hi1
        gi_wp2_with (refine ⟨trivial, ?_⟩; gi_at_call 93; refine (callsIn_wide.2 (hI _)).mono ?_; rintro e w' ⟨rfl, rfl⟩)
        refine hR.mono ?_
        rintro e W3 (⟨rfl, hJ3, hk3⟩ | ⟨rfl, hJx3⟩)
        · have m2 : Boxed W3 b2 9 (.string ⟨#[]⟩) := Eq.trans hk3 N2.out
          have N3 := Lib.hid m2
          clear hk3 m2 c2 f2 hy hR
          gi_wp2
          go_roundw
          case rel => exact ⟨_, ⟨#[]⟩, N3.out, hJ3, Lib.hid (by rw [HS.out]; simp [bl, lnT]), Nat.zero_le _⟩
          case measure =>
            rw [szOf_eq N3.out, szOf_eq M2.out]
            show 0 < t.size
            omega
        · clear hy hR c2 f2
          gi_wp2
          refine bodyPost_ret (results_none rfl _ _ _) rfl ?_
          exact ⟨⟨_, rfl⟩, .inr ⟨_, ⟨[], by rw [List.append_nil]; exact HS.out⟩, hJx3⟩⟩
      · rw [hi1] at hI
        have hit : i < t.size := by rwa [bl_len] at hi2
        have HIN := Lib.hid (lnT_at hi3 hi4)
        clear hi1 hi2 hi3 hi4
        obtain ⟨fn, tmps, assign, body, hy, hR⟩ := hY pre ⟨t.extract 0 (i + 1), Nat.le_trans (ext_size _ _ _) (by omega)⟩ _ (hD pre _ (hJ pre wr (.string (t.extract (i + 1) t.size)) hj)) HLEN.out
        unfold encB at hy
        dsimp only at hy
        have N2 := Lib.hid (show Boxed (wr.setCell ⟨b2, 0, none⟩ (.string (t.extract (i + 1) t.size))).drew b2 9 (.string (t.extract (i + 1) t.size)) from M2.out.set (.string (t.extract (i + 1) t.size)))
        have hii : IntKind.i64.wrap ((i : Int) + 1) = (i : Int) + 1 := IntWalk.i64_in _ (by omega)
        have hit2 : (i : Int) + 1 ≤ (t.size : Int) := by omega
        have hi0 : (0 : Int) ≤ (i : Int) + 1 := by omega
        have hi3 : (0 : Int) ≤ (i : Int) := by omega
        have hit3 : ((i : Int) + 1).toNat = i + 1 := by omega
        gi_wp2_with (refine ⟨trivial, ?_⟩; gi_at_call 93; refine (callsIn_wide.2 (hI _)).mono ?_; rintro e w' ⟨rfl, rfl⟩)
        gi_region
        clear hii hit2 hi0 hi3 hit3 hI
        gi_wp2
        refine hR.mono ?_
        rintro e W3 (⟨rfl, hJ3, hk3⟩ | ⟨rfl, hJx3⟩)
        · have m2 : Boxed W3 b2 9 (.string (t.extract (i + 1) t.size)) := Eq.trans hk3 N2.out
          have N3 := Lib.hid m2
          clear hk3 m2 c2 f2 hy hR
          gi_wp2
          go_roundw
          case rel => exact ⟨_, _, N3.out, hJ3, Lib.hid (by rw [← hp.out, HIN.out, bls_snoc, ext_head, ext_tail _ _ _ (Nat.le_refl _)]; simp), Nat.le_trans (ext_size _ _ _) ht⟩
          case measure =>
            rw [szOf_eq N3.out, szOf_eq M2.out, ← bl_len, ext_tail _ _ _ (Nat.le_refl _), List.length_drop, bl_len]
            omega
        · clear hy hR c2 f2
          gi_wp2
          refine bodyPost_ret (results_none rfl _ _ _) rfl ?_
          exact ⟨⟨_, rfl⟩, .inr ⟨_, ⟨lnT ((bl t).drop (i + 1)), by rw [bls_snoc, ← hp.out, HIN.out, ext_head]; simp⟩, hJx3⟩⟩
/-- what the iterator does by itself -/
def Sl (b : Nat) (A B : World) : Prop := B = A.drew ∨ ∃ v, B = A.setCell ⟨b, 0, none⟩ v
theorem lin_st (b2 : Nat) (s : ByteArray) (hs : s.size ≤ 100000) (w : World) (k2 : Boxed w b2 9 (.string s)) :
    SeqSt Fence.wide 5 Tryz.prog 92 #[.pointer (some ⟨b2, 0, none⟩)] encB (K1 b2) (Sl b2) (fun xs => bls xs = lnT (bl s)) (fun pre => ∃ rest, bls pre ++ rest = lnT (bl s)) (lnT (bl s)).length w :=
  fun l J Jx W hW hJ hY h0 => lin92 l b2 s hs J Jx (fun pre A v h => hJ pre A _ h (.inr ⟨v, rfl⟩)) (fun pre A h => hJ pre A _ h (.inl rfl)) hY W ((bk_block hW k2.lt).trans k2) h0
set_option maxHeartbeats 1000000 in
theorem lin74 (s : ByteArray) (w : World) : Calls Tryz.prog 74 #[.string s] w fun e w' => e = .returned (.func (.func 92) #[] #[.pointer (some ⟨w.heap.size, 0, none⟩)]) ∧ w' = w.alloc (.cells #[.string s] 9) := by
  go_enter Tryz.func74, Tryz.ntmps74
  go_wp2_with fail
  go_ret
  exact ⟨rfl, rfl⟩
end Go.Proofs.YtneidfbgdgegjaaGreatDoor
