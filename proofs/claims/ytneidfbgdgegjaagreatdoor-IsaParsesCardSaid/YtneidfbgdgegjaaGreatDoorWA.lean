/- Rows of fields: registers, fieldsOf. -/
import Derived.Test.YtneidfbgdgegjaaGreatDoorBB
import Derived.Test.YtneidfbgdgegjaaGreatDoorOF
import Derived.Test.YtneidfbgdgegjaaGreatDoorDF
namespace Go.Proofs.YtneidfbgdgegjaaGreatDoor
open Go.RowKit
set_option linter.unusedVariables false
set_option linter.unusedSimpArgs false
def sB (l : List UInt8) : ByteArray := ⟨l.toArray⟩
def strs (l : List (List UInt8)) : List Value := l.map fun x => .string (sB x)
theorem strs_len (l : List (List UInt8)) : (strs l).length = l.length := by simp [strs]
theorem strs_app (l m : List (List UInt8)) : strs (l ++ m) = strs l ++ strs m := by simp [strs]
/-- what an append takes: nothing, or a row that lies there -/
def SrcS (w : World) (sx : Value) (ys : List (List UInt8)) : Prop :=
  (sx = .slice none 0 0 ∧ ys = []) ∨ ∃ ad c, sx = .slice (some ad) ys.length c ∧ ∀ j u, (strs ys)[j]? = some u → w.cell? (ad.add j) = some u
theorem SrcS.own {w : World} {B n : Nat} {v : Value} {ys : List (List UInt8)} (h : w.ownsRow B 9 1 v n (strs ys)) (hn : n = ys.length) : SrcS w v ys := by
  subst hn
  rcases Joins.ownsRow_forms h with ⟨hv, h0⟩ | ⟨g, cap, hv⟩
  · exact .inl ⟨hv, List.eq_nil_of_length_eq_zero h0⟩
  · subst hv
    refine .inr ⟨⟨g, 0, none⟩, cap, rfl, fun j u hu => ?_⟩
    have hj : j < ys.length := by
      have := (List.getElem?_eq_some_iff.1 hu).1
      rw [strs_len] at this; exact this
    rw [Go.WideShapes.add_plain, Nat.zero_add, World.ownsRow.cellAt h j (by omega)]
    exact hu
theorem src_alloc1 (w : World) (x : List UInt8) : SrcS (w.alloc (.cells #[.string (sB x)] 9)) (.slice (some ⟨w.heap.size, 0, none⟩) 1 1) [x] :=
  .inr ⟨⟨w.heap.size, 0, none⟩, 1, rfl, fun j u hj => by
    match j, hj with
    | 0, hj => simp [strs] at hj; subst hj; simp [Addr.add]⟩
theorem info9 : (Tryz.prog.info? 9).map (fun i => (i.zero, i.size, i.bytes)) = some (some (.string ⟨#[]⟩), 1, 16) := by kernel_rfl
theorem wpA {ops : Array Oper} {rest : List Oper} {o : Oper} {a : Act} {w : World} {Q : Exit → Act → World → Prop} (hgd : o.guard = none) (s x : Operand)
    (ho : o.op = .call { callee := .builtin .append, args := #[s, x], argTypes := #[57, 57] }) (base : Nat) (v : Value) (xs : List (List UInt8)) (hs : a.eval s = v) (hown : w.ownsRow base 9 1 v xs.length (strs xs))
    (sx : Value) (ys : List (List UInt8)) (hx : a.eval x = sx) (hsrc : SrcS w sx ys) (hsm : xs.length + ys.length ≤ 2000000) (hbase : base ≤ w.heap.size)
    (h : ∀ p' c' w', w'.ownsRow base 9 1 (.slice p' (xs.length + ys.length) c') (xs ++ ys).length (strs (xs ++ ys)) → w.grownBy w' v.ownBlock ∨ w' = w → wpList Tryz.prog ops Q rest (a.put o.dst (.slice p' (xs.length + ys.length) c')) w') : wpList Tryz.prog ops Q (o :: rest) a w := by
  obtain ⟨i0, hi, hz0, hz1, hz2⟩ := info_parts info9
  rcases hsrc with ⟨rfl, rfl⟩ | ⟨ad, c, rfl, hc⟩
  · obtain ⟨p', c', rfl⟩ := own_shape hown
    exact wpList_append_own_none hgd s x 57 ho base 9 i0 1 Tryz.underlying57 hi _ xs.length (strs xs) hs hown hx (h p' c' w (by simpa using hown) (.inr rfl))
  · refine wpList_append_own w hgd s x 57 ho base 9 i0 (.string ⟨#[]⟩) 1 16 Tryz.underlying57 hi hz0 hz1 hz2 rfl (by decide) v xs.length (strs xs) hs hown ad ys.length c (strs ys) hx (by simp [strs]) hc (fun u hu => by unfold strs at hu; obtain ⟨z, _, rfl⟩ := List.mem_map.1 hu; rfl) (by unfold maxLen; omega) (by omega) hbase ?_
    intro v' w' hown' hgrow _
    have hown'' := hown'
    rw [← strs_app] at hown''
    obtain ⟨p', c', rfl⟩ := own_shape hown'
    exact h p' c' w' (by rw [List.length_append]; exact hown'') (.inl hgrow)
theorem bk_grown {w0 w w' : World} {v : Value} {B n : Nat} {xs : List Value} (hb : BK w0 w) (ho : w.ownsRow B 9 1 v n xs) (hB : w0.heap.size ≤ B) (h : w.grownBy w' v.ownBlock ∨ w' = w) : BK w0 w' := by
  rcases h with h | rfl
  · exact Below.grown hb h hb.bl.size (fun j hj => Nat.le_trans hB (ho.lt j hj).1)
  · exact hb
def regsT (l : List Int) : List (List UInt8) := l.map regT
theorem str_reg (n : Int) : (⟨#[114]⟩ : ByteArray) ++ ⟨(Lib.itoa n).toArray⟩ = sB (regT n) := by
  apply bl_inj; rw [bl_app]; rfl
set_option maxRecDepth 100000 in
set_option maxHeartbeats 4000000 in
theorem reg49 (l : List Int) (hl : l.length ≤ 1000000) (h64 : ∀ x ∈ l, In64 x) (w : World) (ht : Tb w) (p : Option Addr) (c : Nat) (hr : RO w p c l) : Calls Tryz.prog 49 #[.slice p l.length c] w fun e w' => ∃ p' c', e = .returned (.slice p' l.length c') ∧ w'.ownsRow w.heap.size 9 1 (.slice p' l.length c') (regsT l).length (strs (regsT l)) ∧ BK w w' := by
  have HR := Lib.hid hr
  have HT := Lib.hid ht
  have H64 := Lib.hid h64
  clear hr ht h64
  go_enter Tryz.func49, Tryz.ntmps49
  go_wp2_with fail
  go_loopw [3, 8] (fun v i wr => ∃ k p' c', k ≤ l.length ∧ i = .int .i64 (k : Int) ∧ v = .slice p' k c' ∧ wr.ownsRow w.heap.size 9 1 (.slice p' k c') (regsT (l.take k)).length (strs (regsT (l.take k))) ∧ BK w wr) (fun _ i _ => l.length - (intOf i).toNat)
  case atStart => exact ⟨0, none, 0, Nat.zero_le _, rfl, rfl, World.ownsRow_nil _ _ _ _, BK.refl _⟩
  case round =>
    obtain ⟨k, p', c', hk, rfl, rfl, ho, hb⟩ := hrel
    have HB := Lib.hid hb
    have HO := Lib.hid ho
    clear ho hb
    by_cases e : k = l.length
    · subst e
      have hd : decide (l.length < l.length) = false := by simp
      rw [List.take_length] at HO
      go_wp2_with fail
      go_ret
      exact ⟨_, _, rfl, HO.out, HB.out⟩
    · have hlt : k < l.length := by omega
      have hd : decide (k < l.length) = true := by simpa using hlt
      obtain ⟨b, o, rfl, hc⟩ := (HR.out.keep HB.out).get k hlt
      have ei : IntKind.i64.wrap ((k : Int) + 1) = (k : Int) + 1 := IntWalk.i64_in _ (by omega)
      have hki : (k : Int) < (l.length : Int) := by omega
      have HLT := Lib.hid hlt
      have HE := Lib.hid (show regsT (l.take (k + 1)) = regsT (l.take k) ++ [regT l[k]] from by unfold regsT; rw [List.take_add_one, List.getElem?_eq_getElem hlt, List.map_append]; rfl)
      have HL := Lib.hid (show (regsT (l.take k)).length = k from by simp [regsT]; omega)
      have C := Lib.hid (int13 l[k] (H64.out _ (List.getElem_mem hlt)) wr (HT.out.keep HB.out))
      have ES := Lib.hid (str_reg l[k])
      have hcat : ¬ 9223372036854775807 < 1 + (Lib.itoa l[k]).length := by have := Lib.itoa_length_le l[k] (H64.out _ (List.getElem_mem hlt)).1 (H64.out _ (List.getElem_mem hlt)).2; omega
      clear e
      generalize l[k] = x at hc HE C ES hcat
      generalize regsT (l.take k) = xs at HO HE HL
      go_wp2_with fail
      refine C.out.mono ?_
      rintro e w1 ⟨rfl, hb1⟩
      have K1 := Lib.hid (bk_tr HB.out hb1)
      have O1 := Lib.hid (own_below HO.out hb1)
      clear hb1 hc
      obtain rfl : k = xs.length := HL.out.symm
      go_wp2_with (at_builtin; go_must (refine wpA rfl (.tmp 12) (.tmp 16) rfl w.heap.size (.slice p' xs.length c') xs rfl (own_below O1.out (bk_alloc (BK.refl w1) _)) (.slice (some ⟨w1.heap.size, 0, none⟩) 1 1) [regT x] rfl ?c1 ?c2 ?c3 ?_))
      case c1 =>
        rw [ES.out]; exact src_alloc1 w1 (regT x)
      case c2 => simp; omega
      case c3 => have := bk_size K1.out; simp; omega
      intro p2 c2 w2 ho2 hg2
      have K2 := Lib.hid (bk_grown (bk_alloc K1.out _) (own_below O1.out (bk_alloc (BK.refl w1) _)) (Nat.le_refl _) hg2)
      have O2 := Lib.hid ho2
      clear ho2 hg2
      go_wp2_with fail
      go_roundw
      case rel => exact ⟨xs.length + 1, p2, c2, by have := HLT.out; omega, by go_num, rfl, by rw [HE.out, List.length_append]; exact O2.out, K2.out⟩
      case measure => have := HLT.out; simp [intOf]; omega
end Go.Proofs.YtneidfbgdgegjaaGreatDoor
