/- The reference: Link, Undo. -/
import Derived.Test.YtpnjmkmobdaefaaTB
namespace Go.Proofs.Ytpnjmkmobdaefaa
open Go.RowKit Go.Maps
set_option linter.unusedVariables false
set_option linter.unusedSimpArgs false
/-- a row of links and a truth -/
def LQ (w : World) (l : List L3) (t : Bool) (e : Ending) (w' : World) : Prop := ∃ v, e = .returned (.tuple #[v, .bool t]) ∧ w'.ownsRow w.heap.size 44 3 v l.length (flat3 l) ∧ BK w w'
set_option maxHeartbeats 1000000 in
theorem rlink_no (w : World) (M : List L3) (hwf : WFR M.reverse) (hM : M.length ≤ 1000) (p : Option Addr) (c : Nat) (hr : RL w p c M) (a b y : Int) (hn : (a < 0 ∨ b < 0) ∨ sameB M a b = true) : Calls Try.prog 15 #[.slice p M.length c, .int .i64 a, .int .i64 b, .int .i64 y] w fun e w' => e = .returned (.tuple #[.slice p M.length c, .bool false]) ∧ BK w w' := by
  have HS := Lib.hid (same28 w M hwf hM p c hr a b)
  clear hr hwf
  generalize hs : sameB M a b = s at *
  have HSS := Lib.hid hs
  clear hs
  generalize M.length = n at *
  by_cases h1 : a < 0
  · clear hn
    go_enter Try.func15, Try.ntmps15
    go_wp2_with fail
    go_ret2
    exact ⟨rfl, BK.refl w⟩
  · by_cases h2 : b < 0
    · clear hn
      go_enter Try.func15, Try.ntmps15
      go_wp2_with fail
      go_ret2
      exact ⟨rfl, BK.refl w⟩
    · have hs : s = true := by rcases hn with h | h; omega; exact h
      subst hs
      clear hn
      go_enter Try.func15, Try.ntmps15
      go_wp2_with fail
      refine HS.out.mono ?_
      rintro e w' ⟨rfl, hb⟩
      have HB := Lib.hid hb
      clear hb
      go_wp2_with fail
      go_ret2
      exact ⟨rfl, HB.out⟩
set_option maxRecDepth 100000 in
set_option maxHeartbeats 1000000 in
theorem rlink_yes (w : World) (M : List L3) (hwf : WFR M.reverse) (hM : M.length ≤ 1000) (p : Option Addr) (c : Nat) (hr : RL w p c M) (a b y : Int) (h1 : ¬ a < 0) (h2 : ¬ b < 0) (hs : sameB M a b = false) : Calls Try.prog 15 #[.slice p M.length c, .int .i64 a, .int .i64 b, .int .i64 y] w (LQ w (M ++ [⟨a, b, y⟩]) true) := by
  have HS := Lib.hid (same28 w M hwf hM p c hr a b)
  rw [hs] at HS
  have HR := Lib.hid hr
  clear hr hwf hs
  generalize hn : M.length = n at *
  have HN := Lib.hid hn
  clear hn
  go_enter Try.func15, Try.ntmps15
  go_wp2_with fail
  refine HS.out.mono ?_
  rintro e w1 ⟨rfl, hb⟩
  have HB := Lib.hid hb
  have HR1 := Lib.hid (HR.out.keep hb)
  clear hb HS HR
  go_wp2_with (at_builtin; refine wpList_app3 rfl _ _ rfl w1.heap.size _ [] rfl (World.ownsRow_nil _ _ _ _) p c M (by rw [HN.out]; rfl) HR1.out (by have := HN.out; simp; omega) (Nat.le_refl _) ?_)
  intro v2 w2 ho2 hb2
  have HO2 := Lib.hid ho2
  have HB2 := Lib.hid (show BK w1 w2 from hb2)
  obtain ⟨p2, c2, rfl⟩ := own_shape ho2
  clear ho2 hb2
  go_wp2_with (at_builtin; refine wpList_app3 rfl _ _ rfl w1.heap.size _ M rfl (own_below HO2.out (bk_alloc (BK.refl w2) _)) (some ⟨w2.heap.size, 0, none⟩) 1 [⟨a, b, y⟩] rfl (RL.own (own_fresh3 w2 ⟨a, b, y⟩)) (by have := HN.out; simp; omega) (by have := bk_size HB2.out; simp; omega) ?_)
  intro v3 w3 ho3 hb3
  have HO3 := Lib.hid ho3
  have HB3 := Lib.hid (show BK w1 w3 from Below.trans (bk_alloc HB2.out (.cells (c3 ⟨a, b, y⟩) 44)) hb3)
  obtain ⟨p3, c3', rfl⟩ := own_shape ho3
  clear ho3 hb3
  go_wp2_with fail
  go_ret2
  exact ⟨_, rfl, own_mono (by rw [List.length_append]; exact HO3.out) (bk_size HB.out), bk_tr HB.out HB3.out⟩
theorem RL.take {w : World} {c : Nat} {p : Option Addr} {M : List L3} (h : RL w p c M) (n : Nat) : RL w p c (M.take n) :=
  ⟨h.nl, by have := h.le; rw [List.length_take]; omega, fun k hk => by
    rw [List.length_take] at hk
    rw [List.getElem_take]
    exact h.get k (by omega)⟩
set_option maxHeartbeats 1000000 in
theorem rundo_no (w : World) (M : List L3) (p : Option Addr) (c : Nat) (n : Int) (hn : n < 0 ∨ (M.length : Int) < n) : Calls Try.prog 13 #[.slice p M.length c, .int .i64 n] w fun e w' => e = .returned (.tuple #[.slice p M.length c, .bool false]) ∧ w = w' := by
  generalize M.length = m at *
  by_cases h1 : n < 0
  · clear hn
    go_enter Try.func13, Try.ntmps13
    go_wp2_with fail
    go_ret2
    exact ⟨rfl, rfl⟩
  · have h2 : (m : Int) < n := by omega
    clear hn
    go_enter Try.func13, Try.ntmps13
    go_wp2_with fail
    go_ret2
    exact ⟨rfl, rfl⟩
set_option maxHeartbeats 1000000 in
theorem rundo_yes (w : World) (M : List L3) (hM : M.length ≤ 1000) (p : Option Addr) (c : Nat) (hr : RL w p c M) (n : Nat) (hn : n ≤ M.length) : Calls Try.prog 13 #[.slice p M.length c, .int .i64 n] w (LQ w (M.take n) true) := by
  have HR := Lib.hid (hr.take n)
  have HL := Lib.hid (show (M.take n).length = n by rw [List.length_take]; omega)
  have hc := hr.le
  have hnl := hr.nl
  clear hr
  generalize hX : M.take n = X at *
  generalize M.length = m at *
  clear hX
  have g1 : ¬ (n : Int) < 0 := by omega
  have g2 : ¬ (m : Int) < (n : Int) := by omega
  have g3 : n ≤ c := by omega
  have g4 : (n : Int) ≤ (c : Int) := by omega
  cases p with
  | none =>
    obtain rfl : c = 0 := hnl rfl
    obtain rfl : m = 0 := by omega
    obtain rfl : n = 0 := by omega
    clear hnl
    go_enter Try.func13, Try.ntmps13
    go_wp2_with (at_builtin; refine wpList_app3 rfl _ _ rfl w.heap.size _ [] rfl (World.ownsRow_nil _ _ _ _) none 0 X (by rw [HL.out]; rfl) HR.out (by have := HL.out; simp; omega) (Nat.le_refl _) ?_)
    intro v2 w2 ho2 hb2
    have HO2 := Lib.hid ho2
    have HB2 := Lib.hid (show BK w w2 from hb2)
    obtain ⟨p2, c2, rfl⟩ := own_shape ho2
    clear ho2 hb2
    go_wp2_with fail
    go_ret2
    exact ⟨_, rfl, HO2.out, HB2.out⟩
  | some ad =>
    clear hnl
    have hq : ∀ b o, (some ad : Option Addr) = some ⟨b, o, none⟩ → ad = ⟨b, o, none⟩ := fun b o h => by simpa using h
    go_enter Try.func13, Try.ntmps13
    go_wp2_with (at_builtin; refine wpList_app3 rfl _ _ rfl w.heap.size _ [] rfl (World.ownsRow_nil _ _ _ _) (some ad) c X (by rw [HL.out]; rfl) HR.out (by have := HL.out; simp; omega) (Nat.le_refl _) ?_)
    intro v2 w2 ho2 hb2
    have HO2 := Lib.hid ho2
    have HB2 := Lib.hid (show BK w w2 from hb2)
    obtain ⟨p2, c2, rfl⟩ := own_shape ho2
    clear ho2 hb2
    go_wp2_with fail
    go_ret2
    exact ⟨_, rfl, HO2.out, HB2.out⟩
end Go.Proofs.Ytpnjmkmobdaefaa
