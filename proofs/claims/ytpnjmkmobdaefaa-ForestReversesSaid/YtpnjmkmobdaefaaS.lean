/- The reference: Turned, Equal, Has. -/
import Derived.Test.YtpnjmkmobdaefaaH
namespace Go.Proofs.Ytpnjmkmobdaefaa
open Go.RowKit Go.Maps
set_option linter.unusedVariables false
set_option linter.unusedSimpArgs false
def lv3 (l : L3) : Value := .agg #[.int .i64 l.a, .int .i64 l.b, .int .i64 l.y]
set_option maxHeartbeats 1000000 in
theorem turned25 (a b y : Int) (w : World) : Calls Try.prog 25 #[.agg #[.int .i64 a, .int .i64 b, .int .i64 y]] w fun e w' => e = .returned (.agg #[.int .i64 b, .int .i64 a, .int .i64 y]) ∧ BK w w' := by
  have k1 := bk_alloc (BK.refl w) (.cells #[.int .i64 a, .int .i64 b, .int .i64 y] 44)
  have k2 := bk_alloc k1 (.cells #[.int .i64 0, .int .i64 0, .int .i64 0] 44)
  go_enter Try.func25, Try.ntmps25
  have hb := heap_alloc_new (w.alloc (.cells #[.int .i64 a, .int .i64 b, .int .i64 y] 44)) (.cells #[.int .i64 b, .int .i64 a, .int .i64 y] 44)
  rw [sz1] at hb
  have HBB := Lib.hid hb
  have HK := Lib.hid (bk_alloc k1 (.cells #[.int .i64 b, .int .i64 a, .int .i64 y] 44))
  clear hb k1 k2
  go_wp2_with fail
  exact bodyPost_ret (v := .agg #[.int .i64 b, .int .i64 a, .int .i64 y]) (results_cell_row Try.results25 _ _ (w.heap.size + 1) 44 #[.int .i64 b, .int .i64 a, .int .i64 y] (0, 0) _ rfl HBB.out Try.underlying44 rfl (by kernel_rfl)) rfl ⟨rfl, HK.out⟩
set_option maxHeartbeats 1000000 in
/-- links are equal -/
theorem equal18 (w : World) (l : List L3) (p q : Option Addr) (c d : Nat) (hp : RL w p c l) (hq : RL w q d l) (hl : l.length ≤ 100000) : Calls Try.prog 18 #[.slice p l.length c, .slice q l.length d] w fun e w' => e = .returned (.bool true) ∧ BK w w' := by
  have HP := Lib.hid hp
  have HQ := Lib.hid hq
  clear hp hq
  generalize hn : l.length = n at *
  have HN := Lib.hid hn
  clear hn
  go_enter Try.func18, Try.ntmps18
  go_wp2_with fail
  go_loopw [5] (fun a wr => ∃ k : Nat, k ≤ n ∧ a = .int .i64 k ∧ BK w wr) (fun a _ => n - (intOf a).toNat)
  case atStart => exact ⟨0, by omega, rfl, BK.refl w⟩
  case round =>
    obtain ⟨k, hk, rfl, hb⟩ := hrel
    have HB := Lib.hid hb
    clear hb
    by_cases e : k = n
    · subst e
      go_wp2_with fail
      go_ret
      exact ⟨rfl, HB.out⟩
    · have hlt : (k : Int) < (n : Int) := by omega
      obtain ⟨b1, o1, rfl, A0, A1, A2⟩ := (HP.out.keep HB.out).get k (by rw [HN.out]; omega)
      obtain ⟨b2, o2, rfl, C0, C1, C2⟩ := (HQ.out.keep HB.out).get k (by rw [HN.out]; omega)
      generalize l[k]'(by rw [HN.out]; omega) = i at *
      obtain ⟨ia, ib, iy⟩ := i
      dsimp only at *
      go_wp2_with fail
      go_quiet (fail)
      go_wp2_with fail
      go_roundw
      case rel => exact ⟨k + 1, by omega, by go_num, bk_drewN HB.out _⟩
      case measure => simp [intOf]; omega
def e3B (i x : L3) : Bool := if i.a = x.a then (if i.b = x.b then (if i.y = x.y then true else false) else false) else false
theorem e3_iff {i x : L3} : e3B i x = true ↔ i = x := by
  obtain ⟨a, b, c⟩ := i
  obtain ⟨d, e, f⟩ := x
  unfold e3B
  simp only [L3.mk.injEq]
  by_cases h1 : a = d <;> by_cases h2 : b = e <;> by_cases h3 : c = f <;> simp [h1, h2, h3]
theorem e3_ifs (ia ib iy xa xb xy : Int) (w : World) : (if ia = xa then
      if ib = xb then if iy = xy then Result.ok (Next.value (Value.bool true)) w else Result.ok (Next.value (Value.bool false)) w
      else Result.ok (Next.value (Value.bool false)) w
    else Result.ok (Next.value (Value.bool false)) w) = Result.ok (Next.value (Value.bool (e3B ⟨ia, ib, iy⟩ ⟨xa, xb, xy⟩))) w := by
  unfold e3B
  dsimp only
  by_cases h1 : ia = xa <;> by_cases h2 : ib = xb <;> by_cases h3 : iy = xy <;> simp [h1, h2, h3]
def HRel (w : World) (xa xb xy : Int) (j : Nat) (k : Nat) (wr : World) : Prop := k ≤ j ∧ BK (w.alloc (.cells #[.int .i64 xa, .int .i64 xb, .int .i64 xy] 44)) wr
theorem box3 (w : World) (xa xb xy : Int) {wr : World} (h : BK (w.alloc (.cells #[.int .i64 xa, .int .i64 xb, .int .i64 xy] 44)) wr) : A3 wr w.heap.size 0 ⟨xa, xb, xy⟩ :=
  ⟨cellBk (by simp) h, cellBk (by simp) h, cellBk (by simp) h⟩
set_option maxHeartbeats 2000000 in
/-- a list has a link, in either direction -/
theorem has24 (w : World) (l : List L3) (p : Option Addr) (c : Nat) (hp : RL w p c l) (x : L3) (hx : x ∈ l ∨ turnL x ∈ l) (hl : l.length ≤ 100000) : Calls Try.prog 24 #[.slice p l.length c, lv3 x] w fun e w' => e = .returned (.bool true) ∧ BK w w' := by
  obtain ⟨j, hj, hjx⟩ : ∃ j, j < l.length ∧ ∃ z, l[j]? = some z ∧ (z = x ∨ z = turnL x) := by
    rcases hx with h | h
    · obtain ⟨j, h1, h2⟩ := List.getElem_of_mem h; exact ⟨j, h1, _, List.getElem?_eq_getElem h1, .inl h2⟩
    · obtain ⟨j, h1, h2⟩ := List.getElem_of_mem h; exact ⟨j, h1, _, List.getElem?_eq_getElem h1, .inr h2⟩
  have HP := Lib.hid hp
  have HX := Lib.hid hjx
  clear hp hx hjx
  generalize hn : l.length = n at *
  have HN := Lib.hid hn
  clear hn
  obtain ⟨xa, xb, xy⟩ := x
  unfold lv3
  dsimp only
  have HT := Lib.hid (turned25 xa xb xy)
  have h0 := Lib.hid (show HRel w xa xb xy j 0 (w.alloc (.cells #[.int .i64 xa, .int .i64 xb, .int .i64 xy] 44)) from ⟨Nat.zero_le _, BK.refl _⟩)
  go_enter Try.func24, Try.ntmps24
  go_wp2_with fail
  go_loopw [5] (fun a wr => ∃ k : Nat, a = .int .i64 k ∧ HRel w xa xb xy j k wr) (fun a _ => n - (intOf a).toNat)
  case atStart => exact ⟨0, rfl, h0.out⟩
  case round =>
    obtain ⟨k, rfl, hk, hb⟩ := hrel
    have HB := Lib.hid hb
    clear hb
    have hlt : (k : Int) < (n : Int) := by omega
    obtain ⟨b1, o1, rfl, hA⟩ := (HP.out.keep (bk_tr (bk_alloc (BK.refl w) _) HB.out)).get k (by rw [HN.out]; omega)
    have HJ := Lib.hid (show k = j → (l[k]'(by rw [HN.out]; omega)) = ⟨xa, xb, xy⟩ ∨ (l[k]'(by rw [HN.out]; omega)) = turnL ⟨xa, xb, xy⟩ from by
      intro e; subst e; obtain ⟨z, h, h2⟩ := HX.out; rw [List.getElem?_eq_getElem (by rw [HN.out]; omega)] at h; cases h; exact h2)
    have HA := Lib.hid (fun w' (h : BK wr w') => hA.keep h)
    clear hA
    generalize l[k]'(by rw [HN.out]; omega) = i at *
    obtain ⟨ia, ib, iy⟩ := i
    have HXB := Lib.hid (fun w' (h : BK wr w') => box3 w xa xb xy (bk_tr HB.out h))
    by_cases e1 : (⟨ia, ib, iy⟩ : L3) = ⟨xa, xb, xy⟩
    · cases e1
      obtain ⟨A0, A1, A2⟩ := HA.out wr (BK.refl wr)
      obtain ⟨X0, X1, X2⟩ := HXB.out wr (BK.refl wr)
      dsimp only at *
      go_wp2_with fail
      go_quiet (fail)
      go_wp2_with fail
      go_ret
      exact ⟨rfl, bk_drewN (bk_tr (bk_alloc (BK.refl w) _) HB.out) _⟩
    · have E1 := Lib.hid (show e3B ⟨ia, ib, iy⟩ ⟨xa, xb, xy⟩ = false from by
        cases h : e3B ⟨ia, ib, iy⟩ ⟨xa, xb, xy⟩ with
        | false => rfl
        | true => exact absurd (e3_iff.1 h) e1)
      have HJ2 := Lib.hid (show e3B ⟨ia, ib, iy⟩ ⟨xb, xa, xy⟩ = false → k ≠ j from fun h e => by
        rcases HJ.out e with q | q
        · exact e1 q
        · have h' := e3_iff.2 (show (⟨ia, ib, iy⟩ : L3) = ⟨xb, xa, xy⟩ from q)
          rw [h'] at h; cases h)
      clear e1 HJ
      generalize hb2 : e3B ⟨ia, ib, iy⟩ ⟨xb, xa, xy⟩ = b2 at HJ2
      have E2 := Lib.hid hb2
      clear hb2
      go_wp2_with fail
      refine wp_region_class (C := fun w' => BK wr w') (by kernel_rfl) (by kernel_rfl) (bk_drew (BK.refl _)) ?_
      repeat (first
          | go_big_quiet_step (fail)
          | (refine wpQuiet_step (fun K hK => ?_)
             go_simp
             first
               | (refine hK _ ?_; clear hK K)
               | (refine ⟨_, fun _ _ => rfl, hK _ ?_⟩; clear hK K)
               | (apply Exists.intro; refine ⟨fun w5 hw5 => ?_, hK _ ?_⟩; (go_at_call 25; with_reducible exact (HT.out w5).mono (fun e w6 h6 => ⟨h6.1, bk_tr hw5 h6.2⟩)); clear hK K)
               | (apply Exists.intro; refine ⟨fun w5 hw5 => ?_, hK _ ?_⟩; (obtain ⟨A0, A1, A2⟩ := HA.out w5 hw5; obtain ⟨X0, X1, X2⟩ := HXB.out w5 hw5; dsimp only at A0 A1 A2 X0 X1 X2; go_simp; rfl); clear hK K)
               | (apply Exists.intro; refine ⟨fun w5 hw5 => ?_, hK _ ?_⟩; (rw [e3_ifs, E1.out]; exact ⟨rfl, rfl⟩); clear hK K)
               | (apply Exists.intro; refine ⟨fun w5 hw5 => ?_, hK _ ?_⟩; (rw [e3_ifs, E2.out]; exact ⟨rfl, rfl⟩); clear hK K)))
      refine wpQuiet_nil ?_
      intro w5 hw5
      have H5 := Lib.hid (bk_tr HB.out hw5)
      clear hw5
      cases b2 with
      | true =>
        go_wp2_with fail
        go_ret
        exact ⟨rfl, bk_tr (bk_alloc (BK.refl w) _) H5.out⟩
      | false =>
        have hkj : k ≠ j := HJ2.out rfl
        go_wp2_with fail
        go_roundw
        case rel => exact ⟨k + 1, by go_num, by omega, H5.out⟩
        case measure => simp [intOf]; omega
end Go.Proofs.Ytpnjmkmobdaefaa
