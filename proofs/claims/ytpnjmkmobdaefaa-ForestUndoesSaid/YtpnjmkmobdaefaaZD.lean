/- The law of undo: two forests beside each other. -/
import Derived.Test.YtpnjmkmobdaefaaY
import Derived.StillTailTactics
import Derived.Deep.RegionHeld3
namespace Go.Proofs.Ytpnjmkmobdaefaa
open Go.RowKit Go.Maps
set_option linter.unusedVariables false
set_option linter.unusedSimpArgs false
theorem slice_to (p : Option Addr) (n c k : Nat) (h : k ≤ c) (hn : p = none → c = 0) (w : World) : (Instr.slice 26 (.slice p n c) none (some (.int .i64 (k : Int))) none).run Try.prog w = .ok (.slice p k c) w := by
  have g1 : ¬ (k : Int) < 0 := by omega
  have g4 : (k : Int) ≤ (c : Int) := by omega
  cases p with
  | none =>
    obtain rfl := hn rfl
    obtain rfl : k = 0 := by omega
    go_simp
  | some a =>
    clear hn
    go_simp
theorem RL.take' {w : World} {c : Nat} {p : Option Addr} {M : List L3} (h : RL w p c M) (n : Nat) : RL w p c (M.take n) :=
  ⟨h.nl, by have := h.le; rw [List.length_take]; omega, fun k hk => by
    rw [List.length_take] at hk
    rw [List.getElem_take]
    exact h.get k (by omega)⟩
theorem wf_at : ∀ {M : List L3}, WFR M.reverse → ∀ {i : Nat} (h : i < M.length), ¬ CR (M.take i).reverse M[i].a M[i].b ∧ 0 ≤ M[i].a ∧ 0 ≤ M[i].b := by
  intro M
  generalize hR : M.reverse = R
  intro hw i h
  induction R generalizing M with
  | nil => have : M = [] := by simpa using hR
           subst this; simp at h
  | cons l L ih =>
    have hM : M = L.reverse ++ [l] := by
      have := congrArg List.reverse hR
      simpa using this
    subst hM
    by_cases e : i < L.reverse.length
    · have h1 := ih (M := L.reverse) (by simp) hw.1 e
      rw [List.take_append_of_le_length (by omega), List.getElem_append_left e]
      exact h1
    · have e' : i = L.reverse.length := by simp at h e ⊢; omega
      subst e'
      rw [List.take_append_of_le_length (by simp), List.take_length, List.reverse_reverse, List.getElem_append_right (by simp)]
      simp only [Nat.sub_self, List.getElem_cons_zero]
      exact hw.2
theorem relink {M : List L3} (hw : WFR M.reverse) {i : Nat} (h : i < M.length) : linkB (M.take i) M[i].a M[i].b = true ∧ linkM (M.take i) M[i].a M[i].b M[i].y = M.take (i + 1) := by
  obtain ⟨h1, h2, h3⟩ := wf_at hw h
  have hq : ¬ ((M[i].a < 0 ∨ M[i].b < 0) ∨ sameB (M.take i) M[i].a M[i].b = true) := by
    rintro (q | q)
    · omega
    · exact h1 ((same_cr h2 h3).1 q)
  unfold linkB linkM
  rw [if_neg hq, if_neg hq, List.take_succ_eq_append_getElem h]
  exact ⟨rfl, rfl⟩
/-- a forest stays where nothing of it is touched -/
theorem FS.aside {w w' : World} {B N : Nat} {o : FO} {M : List L3} {F F' : Nat → Prop} (h : FS w B o M N) (s : Step w w' F F') (hd : ∀ k, o.foot k → ¬ F k) : FS w' B o M N :=
  h.keep fun k hk => s.block k (h.fb.lt k hk) (hd k hk)
theorem own_aside {w w' : World} {B e sz n : Nat} {v : Value} {xs : List Value} {F F' : Nat → Prop} (h : w.ownsRow B e sz v n xs) (s : Step w w' F F') (hd : ∀ k, v.ownBlock = some k → ¬ F k) : w'.ownsRow B e sz v n xs :=
  own_at h fun k hk => s.block k (h.lt k hk).2 (hd k hk)
def N3 (F G : Nat → Prop) : Prop := ∀ k, F k → ¬ G k
/-- two forests and the links of the first one as they once were -/
structure TW (w : World) (B G Fp : Nat) (M : List L3) (k i : Nat) (v : Value) (wr : World) : Prop where
  ex : ∃ of og L, of.f = Fp ∧ og.f = G ∧ FS wr B of (M.take k) 6100 ∧ FS wr B og (M.take i) (100 * i) ∧ wr.ownsRow L 44 3 v M.length (flat3 M) ∧ N3 of.foot og.foot ∧ N3 (fun k => v.ownBlock = some k) of.foot ∧ N3 (fun k => v.ownBlock = some k) og.foot
  bk : BK w wr
theorem FS.low {w : World} {B B' N : Nat} {o : FO} {M : List L3} (h : FS w B o M N) (hB : B' ≤ B) : FS w B' o M N :=
  ⟨⟨h.fb.blk, own_mono h.fb.links hB, own_mono h.fb.lost hB, h.fb.mup, h.fb.mov, h.fb.mbl, h.fb.n1, h.fb.n2, h.fb.n3, Nat.le_trans hB h.fb.l0, Nat.le_trans hB h.fb.l1, Nat.le_trans hB h.fb.l2, Nat.le_trans hB h.fb.l3, h.fb.ok, h.fb.okc⟩, h.wf, h.u, h.v⟩
/-- what a step on one of two things leaves apart -/
theorem N3.grow {w w' : World} {F F' G : Nat → Prop} (s : Step w w' F F') (h : N3 G F) (hG : ∀ k, G k → k < w.heap.size) : N3 G F' := fun k hk hf => by
  rcases s.sub k hf with q | q
  · exact h k hk q
  · have := hG k hk; omega
theorem N3.symm {F G : Nat → Prop} (h : N3 F G) : N3 G F := fun k a b => h k b a
theorem TW.keep {w wr w' : World} {B G Fp k i : Nat} {M : List L3} {v : Value} (h : TW w B G Fp M k i v wr) (hb : BK wr w') : TW w B G Fp M k i v w' := by
  obtain ⟨⟨of, og, L, e1, e2, e3, e4, e5, e6⟩, e7⟩ := h
  exact ⟨⟨of, og, L, e1, e2, e3.bk hb, e4.bk hb, own_below e5 hb, e6⟩, bk_tr e7 hb⟩
/-- a link on the second one -/
theorem TW.link {w wr w' : World} {B k i : Nat} {M : List L3} {v : Value} {of og : FO} {L : Nat} {t : Bool} {e : Ending} (hw : w.heap.size ≤ B) (hb : BK w wr) (h3 : FS wr B of (M.take k) 6100) (h4 : FS wr B og (M.take i) (100 * i)) (h5 : wr.ownsRow L 44 3 v M.length (flat3 M)) (n1 : N3 of.foot og.foot) (n2 : N3 (fun k => v.ownBlock = some k) of.foot) (n3 : N3 (fun k => v.ownBlock = some k) og.foot) (s : SP wr B og (100 * i) t (M.take (i + 1)) e w') : TW w B og.f of.f M k (i + 1) v w' := by
  obtain ⟨_, o', f1, f2, f3⟩ := s
  exact ⟨⟨of, o', L, rfl, f1, h3.aside f3 n1, by rw [show 100 * (i + 1) = 100 * i + 100 by omega]; exact f2, own_aside h5 f3 n3, N3.grow f3 n1 h3.fb.lt, n2, N3.grow f3 n3 (fun k hk => (h5.lt k hk).2)⟩, Step.bk_new hb f3 (fun k hk => Nat.le_trans hw (h4.fb.lo k hk))⟩
theorem SP.bk {w0 w w' : World} {B N : Nat} {o : FO} {t : Bool} {M' : List L3} {e : Ending} (hb : BK w0 w) (hlo : ∀ k, o.foot k → w0.heap.size ≤ k) (s : SP w B o N t M' e w') : BK w0 w' := by
  obtain ⟨_, o', _, _, f3⟩ := s
  exact Step.bk_new hb f3 hlo
theorem SP.aside {w w' : World} {B N N' : Nat} {o og : FO} {t : Bool} {M' T : List L3} {e : Ending} (s : SP w B o N t M' e w') (h : FS w B og T N') (n : N3 og.foot o.foot) : FS w' B og T N' := by
  obtain ⟨_, o', _, _, f3⟩ := s
  exact h.aside f3 n
theorem SP.size {w w' : World} {B N : Nat} {o : FO} {t : Bool} {M' : List L3} {e : Ending} (s : SP w B o N t M' e w') : w.heap.size ≤ w'.heap.size := by
  obtain ⟨_, o', _, _, f3⟩ := s
  exact f3.size
set_option maxHeartbeats 1000000 in
theorem undoes_long (p : Option Addr) (n c : Nat) (m a b : Int) (w : World) (h : 60 < n) : Calls Try.prog 8 #[.slice p n c, .int .i64 m, .int .i64 a, .int .i64 b] w fun e w' => e = .returned (.bool true) ∧ BK w w' := by
  have hi : (60 : Int) < (n : Int) := by omega
  have HL := Lib.hid (live12 w)
  go_enter Try.func8, Try.ntmps8
  go_wp2_with fail
  refine HL.out.mono ?_
  rintro e w1 ⟨rfl, hb⟩
  have HB := Lib.hid hb
  clear hb
  go_wp2_with fail
  go_ret
  exact ⟨rfl, HB.out⟩
end Go.Proofs.Ytpnjmkmobdaefaa
