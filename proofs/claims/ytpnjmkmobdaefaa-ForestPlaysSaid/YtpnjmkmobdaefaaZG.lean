/- The law of the operations. -/
import Derived.Test.YtpnjmkmobdaefaaY
namespace Go.Proofs.Ytpnjmkmobdaefaa
open Go.RowKit Go.Maps
set_option linter.unusedVariables false
set_option linter.unusedSimpArgs false
/-- what an operation of the reference leaves -/
def RPv (w : World) (v : Value) (M M' : List L3) (v' : Value) (w' : World) : Prop := BK w w' ∧ ((v' = v ∧ M' = M) ∨ w'.ownsRow w.heap.size 44 3 v' M'.length (flat3 M'))
def RP (w : World) (v : Value) (M : List L3) (t : Bool) (M' : List L3) (e : Ending) (w' : World) : Prop := ∃ v', e = .returned (.tuple #[v', .bool t]) ∧ RPv w v M M' v' w'
theorem rundo_st (w : World) (M : List L3) (hM : M.length ≤ 1000) (p : Option Addr) (c : Nat) (hr : RL w p c M) (n : Int) : Calls Try.prog 13 #[.slice p M.length c, .int .i64 n] w (RP w (.slice p M.length c) M (undoB M n) (undoM M n)) := by
  unfold undoB undoM
  by_cases q : 0 ≤ n ∧ n ≤ M.length
  · rw [if_pos q, if_pos q]
    obtain ⟨k, rfl⟩ : ∃ k : Nat, n = (k : Int) := ⟨n.toNat, by omega⟩
    refine (rundo_yes w M hM p c hr k (by omega)).mono ?_
    rintro e w' ⟨v, rfl, h1, h2⟩
    exact ⟨v, rfl, h2, .inr h1⟩
  · rw [if_neg q, if_neg q]
    refine (rundo_no w M p c n (by omega)).mono ?_
    rintro e w' ⟨rfl, rfl⟩
    exact ⟨_, rfl, BK.refl _, .inl ⟨rfl, rfl⟩⟩
theorem rlink_st (w : World) (M : List L3) (hwf : WFR M.reverse) (hM : M.length ≤ 1000) (p : Option Addr) (c : Nat) (hr : RL w p c M) (a b y : Int) : Calls Try.prog 15 #[.slice p M.length c, .int .i64 a, .int .i64 b, .int .i64 y] w (RP w (.slice p M.length c) M (linkB M a b) (linkM M a b y)) := by
  unfold linkB linkM
  by_cases q : (a < 0 ∨ b < 0) ∨ sameB M a b = true
  · rw [if_pos q, if_pos q]
    refine (rlink_no w M hwf hM p c hr a b y q).mono ?_
    rintro e w' ⟨rfl, h⟩
    exact ⟨_, rfl, h, .inl ⟨rfl, rfl⟩⟩
  · rw [if_neg q, if_neg q]
    have hs : sameB M a b = false := by
      cases h : sameB M a b with
      | false => rfl
      | true => exact absurd (.inr h) q
    refine (rlink_yes w M hwf hM p c hr a b y (fun h => q (.inl (.inl h))) (fun h => q (.inl (.inr h))) hs).mono ?_
    rintro e w' ⟨v, rfl, h1, h2⟩
    exact ⟨v, rfl, h2, .inr h1⟩
/-- a forest and the reference's list beside it -/
structure PG (w : World) (F : Nat) (M : List L3) (N : Nat) (v : Value) (wr : World) : Prop where
  ex : ∃ o B, o.f = F ∧ FS wr w.heap.size o M N ∧ wr.ownsRow B 44 3 v M.length (flat3 M) ∧ ∀ g, v.ownBlock = some g → ¬ o.foot g
  bk : BK w wr
theorem PG.keep {w wr w' : World} {F N : Nat} {M : List L3} {v : Value} (h : PG w F M N v wr) (hb : BK wr w') : PG w F M N v w' := by
  obtain ⟨⟨o, B, e1, e2, e3, e4⟩, h2⟩ := h
  exact ⟨⟨o, B, e1, e2.bk hb, own_below e3 hb, e4⟩, bk_tr h2 hb⟩
/-- a round: the reference first, then the forest -/
theorem PG.next {w wr w1 w2 : World} {F N B : Nat} {M M' : List L3} {v v' : Value} {o : FO} {t : Bool} {e : Ending} (hb : BK w wr) (hf : o.f = F) (hF : FS wr w.heap.size o M N) (ho : wr.ownsRow B 44 3 v M.length (flat3 M)) (ha : ∀ g, v.ownBlock = some g → ¬ o.foot g)
    (r : RPv wr v M M' v' w1) (s : SP w1 w.heap.size o N t M' e w2) : PG w F M' (N + 100) v' w2 := by
  obtain ⟨_, o', f1, f2, f3⟩ := s
  obtain ⟨r1, r2⟩ := r
  have key : ∃ B', w1.ownsRow B' 44 3 v' M'.length (flat3 M') ∧ ∀ g, v'.ownBlock = some g → ¬ o.foot g := by
    rcases r2 with ⟨rfl, rfl⟩ | h
    · exact ⟨B, own_below ho r1, ha⟩
    · exact ⟨_, h, fun g hg hfo => by have := hF.fb.lt g hfo; have := (h.lt g hg).1; omega⟩
  obtain ⟨B', k1, k2⟩ := key
  refine ⟨⟨o', B', f1.trans hf, f2, own_at k1 fun g hg => f3.block g (k1.lt g hg).2 (k2 g hg), fun g hg hfo => ?_⟩, Step.bk_new (bk_tr hb r1) f3 (hF.fb.lo)⟩
  rcases f3.sub g hfo with h | h
  · exact k2 g hg h
  · have := (k1.lt g hg).2; omega
theorem PG.start {w w1 : World} {o : FO} (h : FS w1 w.heap.size o [] 0) (hb : BK w w1) : PG w o.f [] 0 (.slice none 0 0) w1 :=
  ⟨⟨o, 0, rfl, h, World.ownsRow_nil _ _ _ _, fun g hg => (by cases hg)⟩, hb⟩
set_option maxHeartbeats 1000000 in
theorem plays_long (p : Option Addr) (n c : Nat) (w : World) (h : 60 < n) : Calls Try.prog 3 #[.slice p n c] w fun e w' => e = .returned (.bool true) ∧ BK w w' := by
  have hi : (60 : Int) < (n : Int) := by omega
  have HN := Lib.hid (new11 w)
  go_enter Try.func3, Try.ntmps3
  go_wp2_with fail
  refine HN.out.mono ?_
  rintro e w1 ⟨o, rfl, hF, hb⟩
  have HB := Lib.hid hb
  have HL := Lib.hid (live12 w1)
  clear hb hF
  go_wp2_with fail
  refine HL.out.mono ?_
  rintro e w2 ⟨rfl, hb⟩
  have HB2 := Lib.hid (bk_tr HB.out hb)
  clear hb
  go_wp2_with fail
  go_ret
  exact ⟨rfl, HB2.out⟩
end Go.Proofs.Ytpnjmkmobdaefaa
