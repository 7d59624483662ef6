/- The reference's Remove, its wrappers, and idset's Index. -/
import Derived.Test.YtkicoaphchpngaaV
namespace Go.Proofs.Ytkicoaphchpngaa
open Go.RowKit Go.Lib Go.Sort
set_option linter.unusedVariables false
set_option linter.unusedSimpArgs false
def dropL (y : Int) (zs : List Int) : List Int := zs.filter (fun x => x != y)
theorem drop_snoc {y : Int} {zs : List Int} {k : Nat} (hk : k < zs.length) : dropL y (zs.take (k + 1)) = if (zs.getD k 0 != y) = true then dropL y (zs.take k) ++ [zs.getD k 0] else dropL y (zs.take k) := by
  have e : zs[k] = zs.getD k 0 := by simp [hk]
  unfold dropL
  rw [List.take_succ_eq_append_getElem hk, List.filter_append, e]
  generalize zs.getD k 0 = x
  cases h : (x != y) <;> simp [h]
theorem drop_len (y : Int) (zs : List Int) : (dropL y zs).length ≤ zs.length := List.length_filter_le _ _
theorem drop_ss {y : Int} {zs : List Int} (h : SS zs) : SS (dropL y zs) := List.Pairwise.filter _ h
set_option maxHeartbeats 4000000 in
theorem rremove_any (sv : Value) (y : Int) (zs : List Int) (w : World) (h : Rd w sv zs) (hl : zs.length ≤ 10000) : Calls Try.prog 23 #[sv, .int .i64 y] w (OfPost w (dropL y (ofL zs))) := by
  have hrf := Lib.hid (rof_any sv zs w h hl)
  have hol := ofL_len zs
  clear h
  generalize ofL zs = ss at hrf hol ⊢
  go_enter Try.func23, Try.ntmps23
  go_wp2_with fail
  refine hrf.out.mono ?_
  rintro e w1 ⟨v1, rfl, ho1, hb1⟩
  have ho1' := Lib.hid ho1
  obtain ⟨a1, c1, hv1⟩ : ∃ a c, v1 = .slice a ss.length c := by
    rcases Joins.ownsRow_forms ho1 with ⟨hv, h0⟩ | ⟨g, cap, hv⟩
    · exact ⟨none, 0, by rw [hv, h0]⟩
    · exact ⟨_, cap, hv⟩
  have hcell : ∀ k, k < ss.length → ∃ g, v1 = .slice (some ⟨g, 0, none⟩) ss.length c1 ∧ w.heap.size ≤ g ∧ g < w1.heap.size ∧ w1.cell? ⟨g, k, none⟩ = some (.int .i64 (ss.getD k 0)) := fun k hk => by
    rcases Joins.ownsRow_forms ho1 with ⟨hv, h0⟩ | ⟨g, cap, hv⟩
    · omega
    · rw [hv1] at hv
      simp only [Value.slice.injEq, true_and] at hv
      obtain ⟨rfl, rfl⟩ := hv
      subst hv1
      have := World.ownsRow.lt ho1 g rfl
      refine ⟨g, rfl, this.1, this.2, ?_⟩
      rw [World.ownsRow.cellAt ho1 k (by omega)]; simp [nums, hk]
  subst hv1
  have hcell' := Lib.hid hcell
  have hb1' := Lib.hid hb1
  have hs1 := hb1.size
  clear ho1 hcell hb1
  go_wp2_with fail
  go_loopw [5, 6] (fun v i wr => ∃ k : Nat, k ≤ ss.length ∧ i = .int .i64 k ∧ wr.ownsRow w1.heap.size 3 1 v (dropL y (ss.take k)).length (nums (dropL y (ss.take k))) ∧ Below w1.heap.size w1 wr) (fun _ i _ => ss.length - (intOf i).toNat)
  case atStart => exact ⟨0, Nat.zero_le _, rfl, World.ownsRow_nil _ _ _ _, Below.refl _ _⟩
  case round =>
    obtain ⟨k, hk, rfl, hown, hb⟩ := hrel
    by_cases hlt : k < ss.length
    · obtain ⟨g, hv, hg1, hg2, hc⟩ := hcell'.out k hlt
      simp only [Value.slice.injEq, and_true] at hv
      subst hv
      have hx : wr.cell? ⟨g, k, none⟩ = some (.int .i64 (ss.getD k 0)) := (hb.cell (p := ⟨g, k, none⟩) hg2).trans hc
      have hstep := Lib.hid (drop_snoc (y := y) hlt)
      have hlen : (dropL y (ss.take k)).length ≤ ss.length := Nat.le_trans (drop_len _ _) (by simp; omega)
      have hbs := hb.size
      have hown' := Lib.hid hown
      have hb' := Lib.hid hb
      clear hc hown hb
      generalize ss.getD k 0 = x at hx hstep
      generalize dropL y (ss.take k) = os at hown' hlen hstep
      cases hd : (x != y)
      · have he := Lib.hid (show dropL y (ss.take (k + 1)) = os from by rw [hstep.out, hd]; rfl)
        go_wp2_with fail
        go_roundw
        case rel => exact ⟨k + 1, by omega, by go_num, by rw [he.out]; exact hown'.out, hb'.out⟩
        case measure => simp [intOf]; omega
      · have he := Lib.hid (show dropL y (ss.take (k + 1)) = os ++ [x] from by rw [hstep.out, hd]; rfl)
        go_wp2_with (first
          | (at_builtin; refine wpList_append_src rfl (.tmp 21) (.tmp 26) rfl w1.heap.size u5 os.length os (by simp [Act.eval, Act.put]) (hown'.out.alloc _) _ [x] (by simp [Act.eval, Act.put]) (src_one wr x) (by simp; omega) (Nat.le_trans hbs (below_alloc _ _).size) ?_; intro v2 w2 ho2 hb2; have ho2' := Lib.hid ho2; clear ho2))
        go_roundw
        case rel => exact ⟨k + 1, by omega, by go_num, by rw [he.out]; exact own_cast ho2'.out (by simp) rfl, (hb'.out.alloc hbs _).trans hb2⟩
        case measure => simp [intOf]; omega
    · rw [List.take_of_length_le (by omega)] at hown
      have hown' := Lib.hid hown
      clear hown
      go_wp2_with fail
      go_ret
      exact OfPost.up hb1'.out ⟨_, rfl, hown'.out, hb⟩
set_option maxHeartbeats 1000000 in
theorem rmeet_any (sv su : Value) (zs us : List Int) (w : World) (h : Rd w sv zs) (h' : Rd w su us) (hl : zs.length ≤ 10000) (hl' : us.length ≤ 10000) : Calls Try.prog 27 #[sv, su] w (OfPost w (pickL us (ofL zs) true)) := by
  have hp := Lib.hid (rpick_any sv su zs us true w h h' hl hl')
  clear h h'
  go_enter Try.func27, Try.ntmps27
  go_wp2_with (go_at_call 47; refine hp.out.mono ?_; rintro e w3 ⟨v3, rfl, ho3, hb3⟩; have ho3' := Lib.hid ho3; clear ho3)
  go_ret
  exact ⟨_, rfl, ho3'.out, hb3⟩
set_option maxHeartbeats 1000000 in
theorem rminus_any (sv su : Value) (zs us : List Int) (w : World) (h : Rd w sv zs) (h' : Rd w su us) (hl : zs.length ≤ 10000) (hl' : us.length ≤ 10000) : Calls Try.prog 29 #[sv, su] w (OfPost w (pickL us (ofL zs) false)) := by
  have hp := Lib.hid (rpick_any sv su zs us false w h h' hl hl')
  clear h h'
  go_enter Try.func29, Try.ntmps29
  go_wp2_with (go_at_call 47; refine hp.out.mono ?_; rintro e w3 ⟨v3, rfl, ho3, hb3⟩; have ho3' := Lib.hid ho3; clear ho3)
  go_ret
  exact ⟨_, rfl, ho3'.out, hb3⟩
set_option maxHeartbeats 1000000 in
theorem index_any (sv : Value) (x : Int) (zs : List Int) (w : World) (h : Rd w sv zs) (hl : zs.length ≤ 100000) : Calls Try.prog 18 #[sv, .int .i64 x] w fun e w' => e = .returned (.int .i64 (cnt (ofL zs) x)) ∧ Below w.heap.size w w' := by
  have ha := Lib.hid (as_any sv zs w h hl)
  have hss := Lib.hid (ss_ofL zs)
  have hol := ofL_len zs
  clear h
  generalize he : ofL zs = ss at hss hol ⊢
  go_enter Try.func18, Try.ntmps18
  go_wp2_with fail
  refine ha.out.mono ?_
  rintro e w1 ⟨v, rfl, hr, hb⟩
  rw [he] at hr
  clear he
  rcases hr with ⟨a, cap, rfl, rfl⟩ | ⟨b, off, cap, rfl, _, _, _, h4⟩
  · go_wp2_with (go_at_call 42; refine (Try.slices_BinarySearch_int_empty _ _ _ _).mono ?_; rintro e w' ⟨rfl, rfl⟩)
    go_ret
    exact ⟨ret_int (by simp [cnt]), hb⟩
  · have hbs := Lib.hid (Try.slices_BinarySearch_int b off ss.length cap ss x w1 (Nat.le_refl _) (by omega) h4 (by rw [List.take_length]; exact hss.out.imp (fun h => Int.le_of_lt h)))
    clear h4
    go_wp2_with (go_at_call 42; refine hbs.out.mono ?_; rintro e w' ⟨rfl, q, hq⟩)
    go_ret
    exact ⟨ret_int rfl, below_drawn hb ⟨q, rfl⟩⟩
end Go.Proofs.Ytkicoaphchpngaa
