/- The reference's pick and Remove, and idset's Index. -/
import Derived.Test.YtkicoaphchpngaaU
namespace Go.Proofs.Ytkicoaphchpngaa
open Go.RowKit Go.Lib Go.Sort
set_option linter.unusedVariables false
set_option linter.unusedSimpArgs false
def pickL (us zs : List Int) (inn : Bool) : List Int := zs.filter (fun y => memB us y == inn)
theorem pick_snoc {us zs : List Int} {inn : Bool} {k : Nat} (hk : k < zs.length) : pickL us (zs.take (k + 1)) inn = if (memB us (zs.getD k 0) == inn) = true then pickL us (zs.take k) inn ++ [zs.getD k 0] else pickL us (zs.take k) inn := by
  have e : zs[k] = zs.getD k 0 := by simp [hk]
  unfold pickL
  rw [List.take_succ_eq_append_getElem hk, List.filter_append, e]
  generalize zs.getD k 0 = x
  cases h : (memB us x == inn) <;> simp [h]
theorem pick_len (us zs : List Int) (inn : Bool) : (pickL us zs inn).length ≤ zs.length := List.length_filter_le _ _
theorem pick_ss {us zs : List Int} {inn : Bool} (h : SS zs) : SS (pickL us zs inn) := List.Pairwise.filter _ h
set_option maxHeartbeats 4000000 in
theorem rpick_any (sv su : Value) (zs us : List Int) (inn : Bool) (w : World) (h : Rd w sv zs) (h' : Rd w su us) (hl : zs.length ≤ 10000) (hl' : us.length ≤ 10000) : Calls Try.prog 47 #[sv, su, .bool inn] w (OfPost w (pickL us (ofL zs) inn)) := by
  have hrf := Lib.hid (rof_any sv zs w h hl)
  have hu := Lib.hid h'
  have hol := ofL_len zs
  clear h h'
  generalize ofL zs = ss at hrf hol ⊢
  go_enter Try.func47, Try.ntmps47
  go_wp2_with fail
  refine hrf.out.mono ?_
  rintro e w1 ⟨v1, rfl, ho1, hb1⟩
  have ho1' := Lib.hid ho1
  obtain ⟨a1, c1, hv1⟩ : ∃ a c, v1 = .slice a ss.length c := by
    rcases Joins.ownsRow_forms ho1 with ⟨hv, h0⟩ | ⟨g, cap, hv⟩
    · exact ⟨none, 0, by rw [hv, h0]⟩
    · exact ⟨_, cap, hv⟩
  have hcell : ∀ k, k < ss.length → ∃ g, v1 = .slice (some ⟨g, 0, none⟩) ss.length c1 ∧ w.heap.size ≤ g ∧ g < w1.heap.size ∧ w1.cell? ⟨g, k, none⟩ = some (.int .i64 (ss.getD k 0)) := fun k hk => by
    rcases Joins.ownsRow_forms ho1 with ⟨hv, h0⟩ | ⟨g, cap, hv⟩
    · omega
    · rw [hv1] at hv
      simp only [Value.slice.injEq, true_and] at hv
      obtain ⟨rfl, rfl⟩ := hv
      subst hv1
      have := World.ownsRow.lt ho1 g rfl
      refine ⟨g, rfl, this.1, this.2, ?_⟩
      rw [World.ownsRow.cellAt ho1 k (by omega)]; simp [nums, hk]
  subst hv1
  have hcell' := Lib.hid hcell
  have hb1' := Lib.hid hb1
  have hs1 := hb1.size
  clear ho1 hcell hb1
  go_wp2_with fail
  go_loopw [7, 8] (fun v i wr => ∃ k : Nat, k ≤ ss.length ∧ i = .int .i64 k ∧ wr.ownsRow w1.heap.size 3 1 v (pickL us (ss.take k) inn).length (nums (pickL us (ss.take k) inn)) ∧ Below w1.heap.size w1 wr) (fun _ i _ => ss.length - (intOf i).toNat)
  case atStart => exact ⟨0, Nat.zero_le _, rfl, World.ownsRow_nil _ _ _ _, Below.refl _ _⟩
  case round =>
    obtain ⟨k, hk, rfl, hown, hb⟩ := hrel
    by_cases hlt : k < ss.length
    · obtain ⟨g, hv, hg1, hg2, hc⟩ := hcell'.out k hlt
      simp only [Value.slice.injEq, and_true] at hv
      subst hv
      have hx : wr.cell? ⟨g, k, none⟩ = some (.int .i64 (ss.getD k 0)) := (hb.cell (p := ⟨g, k, none⟩) hg2).trans hc
      have hstep := Lib.hid (pick_snoc (us := us) (inn := inn) hlt)
      have hlen : (pickL us (ss.take k) inn).length ≤ ss.length := Nat.le_trans (pick_len _ _ _) (by simp; omega)
      have hbs := hb.size
      have hown' := Lib.hid hown
      have hb' := Lib.hid hb
      clear hc hown hb
      generalize ss.getD k 0 = x at hx hstep
      have hha := Lib.hid (rhas_any su x us wr ((hu.out.below hb1'.out).below hb'.out) (by omega))
      generalize pickL us (ss.take k) inn = os at hown' hlen hstep
      cases hd : (memB us x == inn)
      · have he := Lib.hid (show pickL us (ss.take (k + 1)) inn = os from by rw [hstep.out, hd]; rfl)
        generalize memB us x = mb at hha hd
        go_wp2_with (go_at_call 17; refine hha.out.mono ?_; rintro e w' ⟨rfl, rfl⟩)
        go_roundw
        case rel => exact ⟨k + 1, by omega, by go_num, by rw [he.out]; exact hown'.out, hb'.out⟩
        case measure => simp [intOf]; omega
      · have he := Lib.hid (show pickL us (ss.take (k + 1)) inn = os ++ [x] from by rw [hstep.out, hd]; rfl)
        generalize memB us x = mb at hha hd
        go_wp2_with (first
          | (go_at_call 17; refine hha.out.mono ?_; rintro e w' ⟨rfl, rfl⟩)
          | (at_builtin; refine wpList_append_src rfl (.tmp 25) (.tmp 30) rfl w1.heap.size u7 os.length os (by simp [Act.eval, Act.put]) (hown'.out.alloc _) _ [x] (by simp [Act.eval, Act.put]) (src_one wr x) (by simp; omega) (Nat.le_trans hbs (below_alloc _ _).size) ?_; intro v2 w2 ho2 hb2; have ho2' := Lib.hid ho2; clear ho2))
        go_roundw
        case rel => exact ⟨k + 1, by omega, by go_num, by rw [he.out]; exact own_cast ho2'.out (by simp) rfl, (hb'.out.alloc hbs _).trans hb2⟩
        case measure => simp [intOf]; omega
    · rw [List.take_of_length_le (by omega)] at hown
      have hown' := Lib.hid hown
      clear hown
      go_wp2_with fail
      go_ret
      exact OfPost.up hb1'.out ⟨_, rfl, hown'.out, hb⟩
end Go.Proofs.Ytkicoaphchpngaa
