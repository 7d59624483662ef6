/- Undo of the last link. -/
import Derived.Test.YtpnjmkmobdaefaaL
namespace Go.Proofs.Ytpnjmkmobdaefaa
open Go.RowKit Go.Maps
set_option linter.unusedVariables false
set_option linter.unusedSimpArgs false
theorem own_take {w : World} {B e sz g n cap m : Nat} {xs : List Value} (o : w.ownsRow B e sz (.slice (some ⟨g, 0, none⟩) n cap) n xs) (hm : m ≤ n) : w.ownsRow B e sz (.slice (some ⟨g, 0, none⟩) m cap) m (xs.take (m * sz)) := by
  have hle : m * sz ≤ n * sz := Nat.mul_le_mul_right _ hm
  refine ⟨by rw [List.length_take, o.1]; omega, .inr ?_⟩
  rcases o.2 with ⟨h, _⟩ | ⟨g', cap', cur, hv, hb, hg, hn, hc, hs, ht⟩
  · cases h
  · cases hv
    exact ⟨g, cap, cur, rfl, hb, hg, by omega, hc, hs, by rw [← ht, List.take_take, Nat.min_eq_left hle]⟩
theorem flat3_take (M : List L3) (l : L3) : (flat3 (M ++ [l])).take (M.length * 3) = flat3 M := by
  rw [flat3_app, List.take_append_of_le_length (by rw [flat3_len]; omega), List.take_of_length_le (by rw [flat3_len]; omega)]
theorem ints_take (C : List Int) (c : Int) : (ints (C ++ [c])).take (C.length * 1) = ints C := by
  rw [ints_snoc, Nat.mul_one, List.take_append_of_le_length (by simp [ints]), List.take_of_length_le (by simp [ints])]
/-- the two rows cut -/
theorem FB.cut {w : World} {B : Nat} {o : FO} {M : List L3} {N : Nat} {l : L3} {c : Int} {C : List Int} {g g2 c1 c2 : Nat} (h : FB w B o (M ++ [l]) N) (hC : o.C = C ++ [c]) (hl : C.length = M.length) (e1 : o.lv = .slice (some ⟨g, 0, none⟩) (M.length + 1) c1) (e2 : o.sv = .slice (some ⟨g2, 0, none⟩) (M.length + 1) c2) :
    FB ((w.setCell ⟨o.f, 5, none⟩ (.slice (some ⟨g2, 0, none⟩) M.length c2)).setCell ⟨o.f, 1, none⟩ (.slice (some ⟨g, 0, none⟩) M.length c1)) B { o with lv := .slice (some ⟨g, 0, none⟩) M.length c1, sv := .slice (some ⟨g2, 0, none⟩) M.length c2, C := C } M N ∧
    Step w ((w.setCell ⟨o.f, 5, none⟩ (.slice (some ⟨g2, 0, none⟩) M.length c2)).setCell ⟨o.f, 1, none⟩ (.slice (some ⟨g, 0, none⟩) M.length c1)) o.foot (FO.foot { o with lv := .slice (some ⟨g, 0, none⟩) M.length c1, sv := .slice (some ⟨g2, 0, none⟩) M.length c2, C := C }) := by
  obtain ⟨t1, t2, t3⟩ := h.tags
  obtain ⟨a1, a2, a3⟩ := h.apart (.inl rfl)
  obtain ⟨b1, b2, b3⟩ := h.apart (.inr (.inl rfl))
  obtain ⟨d1, d2, d3⟩ := h.apart (.inr (.inr rfl))
  have hfl : o.f < w.heap.size := h.lt _ (.inl rfl)
  have hw : ∀ k, k ≠ o.f → ((w.setCell ⟨o.f, 5, none⟩ (.slice (some ⟨g2, 0, none⟩) M.length c2)).setCell ⟨o.f, 1, none⟩ (.slice (some ⟨g, 0, none⟩) M.length c1)).heap[k]? = w.heap[k]? := fun k hk => by
    rw [heap_setCell_other _ ⟨o.f, 1, none⟩ k _ (fun e => hk e), heap_setCell_other _ ⟨o.f, 5, none⟩ k _ (fun e => hk e)]
  have q1 : ∀ (n : Nat) (cc : Nat), (Value.slice (some ⟨g, 0, none⟩) n cc).ownBlock = some g := fun _ _ => rfl
  have q2 : ∀ (n : Nat) (cc : Nat), (Value.slice (some ⟨g2, 0, none⟩) n cc).ownBlock = some g2 := fun _ _ => rfl
  have hgf : g ≠ o.f := fun e => t1 (by rw [e1, q1, e])
  have hgf2 : g2 ≠ o.f := fun e => t2 (by rw [e2, q2, e])
  refine ⟨⟨?_, ?_, ?_, h.mup.at (hw _ a1.symm), h.mov.at (hw _ b1.symm), h.mbl.at (hw _ d1.symm), h.n1, h.n2, h.n3, h.l0, h.l1, h.l2, h.l3, fun m hm => h.ok m (List.mem_append_left _ hm), fun x hx => h.okc x (by rw [hC]; exact List.mem_append_left _ hx)⟩, ⟨rfl, rfl, rfl, by simp [World.setCell], fun k hk hn => hw k (fun e => hn (.inl e)), fun k hk => ?_⟩⟩
  · show (World.setCell _ ⟨o.f, 1, none⟩ _).heap[o.f]? = _
    rw [heap_setCell_same _ o.f 1 _ 52 _ (heap_setCell_same w o.f 5 _ 52 _ h.blk), fields_set5, fields_set1]
  · have hr := h.links
    rw [e1, List.length_append] at hr
    have := own_take hr (m := M.length) (by simp)
    rw [flat3_take] at this
    exact own_at this fun k hk => hw k (fun e => hgf (by
      have : g = k := by simpa [Value.ownBlock] using hk
      rw [this, e]))
  · have hr := h.lost
    rw [e2, hC, List.length_append, hl] at hr
    have := own_take hr (m := M.length) (by simp)
    rw [← hl, ints_take] at this
    rw [hl] at this
    show World.ownsRow _ B 3 1 (.slice (some ⟨g2, 0, none⟩) M.length c2) C.length (ints C)
    rw [hl]
    exact own_at this fun k hk => hw k (fun e => hgf2 (by
      have : g2 = k := by simpa [Value.ownBlock] using hk
      rw [this, e]))
  · rcases hk with e | e | e | e | e | e
    · exact .inl (.inl e)
    · exact .inl (.inr (.inl e))
    · exact .inl (.inr (.inr (.inl e)))
    · exact .inl (.inr (.inr (.inr (.inl e))))
    · exact .inl (.inr (.inr (.inr (.inr (.inl (by rw [e1]; exact e))))))
    · exact .inl (.inr (.inr (.inr (.inr (.inr (by rw [e2]; exact e))))))
/-- what the last link was -/
theorem FS.last {w : World} {B : Nat} {o : FO} {M : List L3} {N : Nat} {l : L3} (h : FS w B o (M ++ [l]) N) : ∃ C c r, o.C = C ++ [c] ∧ C.length = M.length ∧ o.ov c = some r ∧ OV M.reverse C.reverse (put1 o.ov c none) := by
  have hv := h.v
  rw [List.reverse_append] at hv
  have hv : OV (l :: M.reverse) o.C.reverse o.ov := hv
  cases hC : o.C.reverse with
  | nil => rw [hC] at hv; exact hv.elim
  | cons c C =>
    rw [hC] at hv
    obtain ⟨r, o', h1, h2, h3, h4, h5, h6⟩ := hv
    have hlen := ov_len h1
    have hCC : o.C = C.reverse ++ [c] := by
      have := congrArg List.reverse hC
      simpa using this
    refine ⟨C.reverse, c, r, hCC, by simpa using hlen, by rw [h6, if_pos rfl], ?_⟩
    rw [List.reverse_reverse]
    have : put1 o.ov c none = o' := by
      funext x
      by_cases e : x = c
      · subst e; rw [put1_same, h2]
      · rw [put1_other e, h6, if_neg e]
    rw [this]; exact h1
theorem FS.owner {w : World} {B : Nat} {o : FO} {M : List L3} {N : Nat} {l : L3} (h : FS w B o (M ++ [l]) N) : o.up l.a = some M.length ∨ o.up l.b = some M.length := h.u.own M.length l (by simp) (by simp)
def ULP (w : World) (B : Nat) (o : FO) (M : List L3) (N : Nat) (e : Ending) (w' : World) : Prop := e = .returned (.tuple #[]) ∧ ∃ o', o'.f = o.f ∧ FS w' B o' M (N + 1) ∧ Step w w' o.foot o'.foot
end Go.Proofs.Ytpnjmkmobdaefaa
