/- After of the reference. -/
import Derived.Test.YtjmmaaphadeokaaYM
namespace Go.Proofs.Ytjmmaaphadeokaa
open Go.RowKit Go.Shelf
set_option linter.unusedVariables false
set_option linter.unusedSimpArgs false
theorem info23 : (Try.prog.info? 23).map (fun i => (i.zero, i.size, i.bytes)) = some (some (.slice none 0 0), 1, 24) := by kernel_rfl
/-- rows with other tags lie in other blocks -/
theorem tag_ne {w : World} {B B' e e' sz sz' n n' : Nat} {u v : Value} {xs ys : List Value} (hu : w.ownsRow B e sz u n xs) (hv : w.ownsRow B' e' sz' v n' ys) (hne : e ≠ e') {g : Nat} (hg : u.ownBlock = some g) : some g ≠ v.ownBlock := by
  rcases hu.2 with ⟨rfl, _⟩ | ⟨g1, c1, cur1, rfl, _, h1, _⟩
  · cases hg
  · rcases hv.2 with ⟨rfl, _⟩ | ⟨g2, c2, cur2, rfl, _, h2, _⟩
    · intro e; cases e
    · intro e9
      have a1 : g1 = g := by simpa [Value.ownBlock] using hg
      have a2 : g = g2 := by simpa [Value.ownBlock] using e9
      subst a1 a2
      rw [h1] at h2
      simp only [Option.some.injEq, Obj.cells.injEq] at h2
      exact hne h2.2.1
/-- lists of numbers in a row of the call's own -/
def RR (w : World) (B : Nat) (v : Value) (ls : List (List Int)) : Prop := ∃ vs : List Value, w.ownsRow B 23 1 v ls.length vs ∧ ∀ k (h : k < ls.length), ∃ u, vs[k]? = some u ∧ w.ownsRow B 3 1 u ls[k].length (ints ls[k])
theorem RR.nil (w : World) (B : Nat) (v : Value) (h : w.ownsRow B 23 1 v 0 []) : RR w B v [] := ⟨[], h, fun k h => by simp at h⟩
theorem RR.keep {w w' : World} {B : Nat} {v : Value} {ls : List (List Int)} (h : RR w B v ls) (hb : BK w w') : RR w' B v ls := by
  obtain ⟨vs, h1, h2⟩ := h
  exact ⟨vs, own_below h1 hb, fun k hk => by obtain ⟨u, a, b⟩ := h2 k hk; exact ⟨u, a, own_below b hb⟩⟩
theorem RR.len {w : World} {B : Nat} {v : Value} {ls : List (List Int)} (h : RR w B v ls) : ∃ p c, v = .slice p ls.length c := by
  obtain ⟨vs, h1, h2⟩ := h
  exact own_shape h1
theorem RR.mono {w : World} {B B' : Nat} {v : Value} {ls : List (List Int)} (h : RR w B v ls) (hb : B' ≤ B) : RR w B' v ls := by
  obtain ⟨vs, h1, h2⟩ := h
  exact ⟨vs, own_mono h1 hb, fun k hk => by obtain ⟨u, a, b⟩ := h2 k hk; exact ⟨u, a, own_mono b hb⟩⟩
/-- one list more -/
theorem RR.snoc {w w' : World} {B : Nat} {v v' u : Value} {ls : List (List Int)} {l : List Int} {vs : List Value} (h1 : w.ownsRow B 23 1 v ls.length vs) (h2 : ∀ k (h : k < ls.length), ∃ u, vs[k]? = some u ∧ w.ownsRow B 3 1 u ls[k].length (ints ls[k])) (hu : w.ownsRow B 3 1 u l.length (ints l)) (hv : w'.ownsRow B 23 1 v' (ls.length + 1) (vs ++ [u])) (hgrow : w.grownBy w' v.ownBlock) : RR w' B v' (ls ++ [l]) := by
  have keep : ∀ {x : Value} {n : Nat} {zs : List Value}, w.ownsRow B 3 1 x n zs → w'.ownsRow B 3 1 x n zs := fun hx => own_at hx fun k hk => hgrow.block k (hx.lt k hk).2 (tag_ne hx h1 (by decide) hk)
  have hvl : vs.length = ls.length := by have := h1.1; omega
  refine ⟨vs ++ [u], by simpa using hv, fun k hk => ?_⟩
  by_cases hlt : k < ls.length
  · obtain ⟨x, a, b⟩ := h2 k hlt
    refine ⟨x, by rw [List.getElem?_append_left (by omega)]; exact a, ?_⟩
    rw [List.getElem_append_left hlt]
    exact keep b
  · have hke : k = ls.length := by simp at hk; omega
    subst hke
    refine ⟨u, by rw [← hvl]; simp, ?_⟩
    simp only [List.getElem_concat_length]
    exact keep hu
/-- what is live behind each instruction -/
def aftL (n : Nat) (ins : List I6) (out : List Int) (k : Nat) : List (List Int) := (List.range k).map (fun j => liveL n (ins.drop (j + 1)) out)
theorem aftL_succ (n : Nat) (ins : List I6) (out : List Int) (k : Nat) : aftL n ins out (k + 1) = aftL n ins out k ++ [liveL n (ins.drop (k + 1)) out] := by
  unfold aftL; rw [List.range_succ]; simp
theorem aftL_len (n : Nat) (ins : List I6) (out : List Int) (k : Nat) : (aftL n ins out k).length = k := by simp [aftL]
def AP (ls : List (List Int)) (w : World) (e : Ending) (w' : World) : Prop := ∃ v, e = .returned v ∧ RR w' w.heap.size v ls ∧ BK w w'
set_option maxRecDepth 100000 in
set_option maxHeartbeats 2000000 in
/-- After of the reference, a valid program -/
theorem after13_ok (W R : Int) (p q : Option Addr) (pc qc : Nat) (ins : List I6) (out : List Int) (w : World) (hi : RI w p pc ins) (ho : RO w q qc out) (lo : out.length ≤ 20) (hv : Vd W R ins out) : Calls Try.prog 13 #[.agg #[.int .i64 W, .int .i64 R, .slice p ins.length pc, .slice q out.length qc]] w (AP (aftL R.toNat ins out ins.length) w) := by
  have li := hv.len
  obtain ⟨i0, hi0, hz0, hz1, hz2⟩ := info_parts info23
  have b4 := b4_new w (.int .i64 W) (.int .i64 R) (.slice p ins.length pc) (.slice q out.length qc) 25
  have k9 := bk_alloc (BK.refl w) (.cells #[.int .i64 W, .int .i64 R, .slice p ins.length pc, .slice q out.length qc] 25)
  have C30 := Lib.hid (fun (wc : World) (hb : BK w wc) => (rchk28 W R p q pc qc ins out wc (hi.keep hb) (ho.keep hb) (by omega) (by omega)).mono (R' := fun e w' => e = .returned (.int .i64 0) ∧ BK wc w') fun e w' ⟨a, b⟩ => ⟨by rw [a, chk_zero.2 hv], b⟩)
  have C33 := Lib.hid (fun (wc : World) (hb : BK w wc) (k : Nat) (hk : k < ins.length) => before33 W R p q pc qc ins out wc (hi.keep hb) (ho.keep hb) (by omega) (by omega) (k + 1) (by omega) hv.r1 hv.r2)
  have HS := Lib.hid (fun k => aftL_succ R.toNat ins out k)
  have HLN := Lib.hid (fun k => aftL_len R.toNat ins out k)
  clear hi ho hv
  go_enter Try.func13, Try.ntmps13
  go_upto_region 1 with (fail)
  generalize w.alloc (.cells #[.int .i64 W, .int .i64 R, .slice p ins.length pc, .slice q out.length qc] 25) = w0 at b4 k9 ⊢
  have K9 := Lib.hid k9
  have HE0 := Lib.hid (own_empty w0 w0.heap.size (Nat.le_refl _) 23 1)
  have H4 := Lib.hid (fun wc (hb : BK w0 wc) => b4.keep hb)
  have K1 := Lib.hid (bk_alloc (BK.refl w0) (.cells #[] 23))
  clear b4 k9
  go_wp2_with fail
  generalize w0.alloc (.cells #[] 23) = w1 at HE0 K1 ⊢
  go_loopw [3, 4] (fun v j wr => ∃ k : Nat, k ≤ ins.length ∧ j = .int .i64 k ∧ RR wr w0.heap.size v (aftL R.toNat ins out k) ∧ BK w0 wr) (fun _ j _ => ins.length - (intOf j).toNat)
  case atStart => exact ⟨0, Nat.zero_le _, rfl, RR.nil _ _ _ HE0.out, K1.out⟩
  case round =>
    obtain ⟨k, hk, rfl, hrr, hkw⟩ := hrel
    have HK := Lib.hid hkw
    have HR := Lib.hid hrr
    obtain ⟨c0, c1, c2, c3⟩ := H4.out _ hkw
    by_cases hlt : k < ins.length
    · have hk8 : (k : Int) < ins.length := by omega
      have ei : IntKind.i64.wrap ((k : Int) + 1) = ((k + 1 : Nat) : Int) := by rw [IntWalk.i64_in _ (by omega)]; omega
      have R30 := Lib.hid (C30.out wr (bk_tr K9.out hkw))
      clear hrr hkw
      go_wp2_with fail
      refine R30.out.mono ?_
      rintro e w2 ⟨rfl, hb2⟩
      have K2 := Lib.hid (bk_tr HK.out hb2)
      have R2 := Lib.hid (HR.out.keep hb2)
      clear c0 c1 c2 c3 hb2
      obtain ⟨c0, c1, c2, c3⟩ := H4.out _ K2.out
      go_wp2_with fail
      refine (C33.out w2 (bk_tr K9.out K2.out) k hlt).mono ?_
      rintro e w3 ⟨u, rfl, ho3, hb3⟩
      have K3 := Lib.hid (bk_tr K2.out hb3)
      obtain ⟨vs, r1, r2⟩ := R2.out.keep hb3
      have HU := Lib.hid (own_mono ho3 (show w0.heap.size ≤ w2.heap.size from bk_size K2.out))
      have HR1 := Lib.hid r1
      have HR2 := Lib.hid r2
      have hln := HLN.out k
      obtain ⟨pu, cu, rfl⟩ := own_shape ho3
      clear c0 c1 c2 c3 hb3 ho3 r1 r2 ei
      have ei : IntKind.i64.wrap ((k : Int) + 1) = (k : Int) + 1 := IntWalk.i64_in _ (by omega)
      have hml : (aftL R.toNat ins out k).length + 1 ≤ maxLen := by unfold maxLen; omega
      have hown := HR1.out
      have hbs := K3.out.bl.size
      generalize hul : (liveL R.toNat (ins.drop (k + 1)) out).length = ul at *
      have HUL := Lib.hid hul
      clear hul
      go_wp2_with (at_builtin; refine wpList_append_own _ rfl _ _ 28 rfl w0.heap.size 23 i0 (.slice none 0 0) 1 24 Try.underlying28 hi0 hz0 hz1 hz2 rfl (by decide) _ _ _ rfl (hown.alloc _) ⟨w3.heap.size, 0, none⟩ 1 1 [.slice pu ul cu] rfl rfl (one_new _ _ _) (by simp [Value.oneCell']) hml (by omega) (by simp; omega) ?_; intro v' w4 hown' hgrow _; have HO4 := Lib.hid hown'; have HG4 := Lib.hid hgrow; have HB4 := Lib.hid (show BK w0 w4 from (K3.out.bl.alloc hbs _).grown hgrow (by simp; omega) (fun r hr => (World.ownsRow.lt hown r hr).1)); clear hown' hgrow)
      go_roundw
      case rel => exact ⟨k + 1, by omega, by go_num, by rw [HS.out]; exact RR.snoc (HR1.out.alloc _) (fun j hj => by obtain ⟨x, a, b⟩ := HR2.out j hj; exact ⟨x, a, b.alloc _⟩) (by rw [HUL.out]; exact HU.out.alloc _) HO4.out HG4.out, HB4.out⟩
      case measure => first | (simp [intOf]; done) | (simp [intOf]; omega)
    · obtain rfl : k = ins.length := by omega
      clear hrr hkw
      go_wp2_with fail
      go_ret
      exact ⟨_, rfl, HR.out.mono (bk_size K9.out), bk_tr K9.out HK.out⟩
end Go.Proofs.Ytjmmaaphadeokaa
