/- The reference's operations on sets, and idset's asSet and Index. -/
import Derived.Test.YtkicoaphchpngaaM
namespace Go.Proofs.Ytkicoaphchpngaa
open Go.RowKit Go.Lib Go.Sort
set_option linter.unusedVariables false
set_option linter.unusedSimpArgs false
theorem ofL_valid {zs : List Int} (h : validB zs = true) : ofL zs = zs := ss_ext _ _ (ss_ofL _) (of_decide_eq_true h) (fun y => mem_ofL zs y)
/-- a slice of another's that reads as the set of a list -/
def AsPost (w : World) (zs : List Int) (e : Ending) (w' : World) : Prop := ∃ v, e = .returned v ∧ Rd w' v (ofL zs) ∧ Below w.heap.size w w'
set_option maxHeartbeats 1000000 in
theorem as_any (sv : Value) (zs : List Int) (w : World) (h : Rd w sv zs) (hl : zs.length ≤ 100000) : Calls Try.prog 43 #[sv] w (AsPost w zs) := by
  have hv := valid_any sv zs w h hl
  cases hb : validB zs
  · rw [hb] at hv
    have hv' := Lib.hid hv
    have h' := Lib.hid h
    clear hv h hb
    go_enter Try.func43, Try.ntmps43
    go_wp2_with (first
      | (go_at_call 14; refine hv'.out.mono ?_; rintro e w1 ⟨rfl, hd⟩; have hb1 := Lib.hid (drawn_below hd); clear hd)
      | (go_at_call 12; refine (of_any sv zs w1 (h'.out.below hb1.out) hl).mono ?_; rintro e w2 ⟨v, rfl, hown, hb2⟩; have ho := Lib.hid hown; clear hown))
    go_ret
    exact ⟨_, rfl, Rd.own ho.out, below_up hb1.out hb2⟩
  · have he := Lib.hid (ofL_valid hb)
    rw [hb] at hv
    have hv' := Lib.hid hv
    have h' := Lib.hid h
    clear hv h hb
    go_enter Try.func43, Try.ntmps43
    go_wp2_with (first
      | (go_at_call 14; refine hv'.out.mono ?_; rintro e w1 ⟨rfl, hd⟩; have hb1 := Lib.hid (drawn_below hd); clear hd))
    go_ret
    exact ⟨_, rfl, by rw [he.out]; exact h'.out.below hb1.out, hb1.out⟩
/-- a nil slice has no room -/
def Pr (sv : Value) : Prop := ∀ c, sv = .slice none 0 c → c = 0
theorem src_rd {w : World} {sv : Value} {zs : List Int} (h : Rd w sv zs) (p : Pr sv) : Src w sv (nums zs) := by
  rcases h with ⟨a, cap, rfl, rfl⟩ | ⟨b, off, cap, rfl, _, _, _, h4⟩
  · cases a with
    | none => obtain rfl := p cap rfl; exact Or.inl ⟨rfl, rfl⟩
    | some a => exact src_end w a cap
  · refine Or.inr ⟨⟨b, off, none⟩, cap, by simp [nums], fun j u hu => ?_⟩
    rw [show (⟨b, off, none⟩ : Addr).add j = ⟨b, off + j, none⟩ from Go.WideShapes.add_plain _ _ _]
    by_cases hj : j < zs.length
    · rw [h4 j hj]
      simp [nums, hj] at hu
      rw [← hu]; simp [hj]
    · simp [nums] at hu; obtain ⟨z, h1, _⟩ := hu; rw [List.getElem?_eq_none (by omega)] at h1; cases h1
theorem OfPost.up {w w1 : World} {zs : List Int} {e : Ending} {w' : World} (hb : Below w.heap.size w w1) (h : OfPost w1 zs e w') : OfPost w zs e w' := by
  obtain ⟨v, h1, h2, h3⟩ := h
  exact ⟨v, h1, own_weak h2 hb.size, below_up hb h3⟩
set_option maxHeartbeats 1000000 in
theorem radd_any (sv : Value) (x : Int) (zs : List Int) (w : World) (h : Rd w sv zs) (p : Pr sv) (hl : zs.length ≤ 1000) : Calls Try.prog 21 #[sv, .int .i64 x] w (OfPost w (ofL (zs ++ [x]))) := by
  have hs := Lib.hid (src_rd h p)
  clear h
  go_enter Try.func21, Try.ntmps21
  go_wp2_with (first
    | (at_builtin; refine wpList_append_src rfl (.tmp 6) (.tmp 7) rfl w.heap.size (.slice none 0 0) 0 [] (by simp [Act.eval, Act.put]) (World.ownsRow_nil _ _ _ _) sv zs (by simp [Act.eval, Act.put]) hs.out (by simp; omega) (Nat.le_refl _) ?_; intro v1 w1 ho1 hb1; have ho1' := Lib.hid (own_cast ho1 (m := zs.length) (ys := nums zs) (by simp) (by simp)); have hs1 := hb1.size; clear ho1)
    | (at_builtin; refine wpList_append_src rfl (.tmp 9) (.tmp 11) rfl w.heap.size v1 zs.length zs (by simp [Act.eval, Act.put]) (ho1'.out.alloc _) _ [x] (by simp [Act.eval, Act.put]) (src_one w1 x) (by simp; omega) (Nat.le_trans hs1 (below_alloc _ _).size) ?_; intro v2 w2 ho2 hb2; have hB2 := Lib.hid ((hb1.alloc hs1 _).trans hb2); have hrf := Lib.hid (rof_any v2 (zs ++ [x]) w2 (Rd.own (own_cast ho2 (by simp) rfl)) (by simp; omega)); clear ho2)
    | (go_at_call 13; refine hrf.out.mono ?_; rintro e w3 ⟨v3, rfl, ho3, hb3⟩; have ho3' := Lib.hid ho3; clear ho3))
  go_ret
  exact OfPost.up hB2.out ⟨_, rfl, ho3'.out, hb3⟩
set_option maxHeartbeats 1000000 in
theorem runion_any (sv su : Value) (zs us : List Int) (w : World) (h : Rd w sv zs) (p : Pr sv) (h' : Rd w su us) (p' : Pr su) (hl : zs.length ≤ 1000) (hl' : us.length ≤ 1000) : Calls Try.prog 25 #[sv, su] w (OfPost w (ofL (zs ++ us))) := by
  have hs := Lib.hid (src_rd h p)
  have hu := Lib.hid h'
  clear h h'
  go_enter Try.func25, Try.ntmps25
  go_wp2_with (first
    | (at_builtin; refine wpList_append_src rfl (.tmp 6) (.tmp 7) rfl w.heap.size (.slice none 0 0) 0 [] (by simp [Act.eval, Act.put]) (World.ownsRow_nil _ _ _ _) sv zs (by simp [Act.eval, Act.put]) hs.out (by simp; omega) (Nat.le_refl _) ?_; intro v1 w1 ho1 hb1; have ho1' := Lib.hid (own_cast ho1 (m := zs.length) (ys := nums zs) (by simp) (by simp)); have hs1 := hb1.size; clear ho1)
    | (at_builtin; refine wpList_append_src rfl (.tmp 9) (.tmp 10) rfl w.heap.size v1 zs.length zs (by simp [Act.eval, Act.put]) ho1'.out su us (by simp [Act.eval, Act.put]) (src_rd (hu.out.below hb1) p') (by omega) hs1 ?_; intro v2 w2 ho2 hb2; have hB2 := Lib.hid (hb1.trans hb2); have hrf := Lib.hid (rof_any v2 (zs ++ us) w2 (Rd.own (own_cast ho2 (by simp) rfl)) (by simp; omega)); clear ho2)
    | (go_at_call 13; refine hrf.out.mono ?_; rintro e w3 ⟨v3, rfl, ho3, hb3⟩; have ho3' := Lib.hid ho3; clear ho3))
  go_ret
  exact OfPost.up hB2.out ⟨_, rfl, ho3'.out, hb3⟩
end Go.Proofs.Ytkicoaphchpngaa
