/- The methods that only read, New and Make. -/
import Derived.Test.YtihoegihmgeenaaA
namespace Go.Proofs.Ytihoegihmgeenaa
open Go.RowKit
set_option linter.unusedVariables false
theorem info3 : (Try.prog.info? 3).map (fun i => (i.zero, i.size, i.bytes)) = some (some (.int .i64 0), 1, 8) := by kernel_rfl
theorem info53 : (Try.prog.info? 53).map (fun i => (i.zero, i.size, i.bytes)) = some (some (.agg #[.int .i64 0, .int .i64 0]), 2, 16) := by kernel_rfl
theorem ret_bool {a b : Bool} (h : a = b) : Ending.returned (.bool a) = .returned (.bool b) := by rw [h]
theorem ret_int {k : IntKind} {a b : Int} (h : a = b) : Ending.returned (.int k a) = .returned (.int k b) := by rw [h]
def rowsOf (h : List HOp) (v1 v2 v3 v4 v5 : Value) : List Row :=
  [⟨v1, 3, 1, nE h, nums (par h)⟩, ⟨v2, 3, 1, nE h, nums (siz h)⟩, ⟨v3, 3, 1, nE h, nums (lst h)⟩, ⟨v4, 3, 1, nE h, nums (nxt h)⟩, ⟨v5, 53, 2, h.length, opv (trl h)⟩]
/-- the object at b has the history h -/
structure UF (w : World) (B b : Nat) (h : List HOp) (F : Nat → Prop) (v1 v2 v3 v4 v5 : Value) : Prop where
  ok : ok h
  rows : SxL w B b (rowsOf h v1 v2 v3 v4 v5)
  ft : F = foot b (rowsOf h v1 v2 v3 v4 v5)
def U (w : World) (B b : Nat) (h : List HOp) (F : Nat → Prop) : Prop := ∃ v1 v2 v3 v4 v5, UF w B b h F v1 v2 v3 v4 v5
theorem U.ok {w : World} {B b : Nat} {h : List HOp} {F : Nat → Prop} (u : U w B b h F) : Ytihoegihmgeenaa.ok h := by obtain ⟨_, _, _, _, _, u⟩ := u; exact u.ok
theorem U.lt {w : World} {B b : Nat} {h : List HOp} {F : Nat → Prop} (u : U w B b h F) : ∀ k, F k → B ≤ k ∧ k < w.heap.size := by
  obtain ⟨_, _, _, _, _, u⟩ := u
  intro k hk; rw [u.ft] at hk
  exact ⟨u.rows.low' k hk, u.rows.lt' k hk⟩
theorem U.base {w : World} {B b : Nat} {h : List HOp} {F : Nat → Prop} (u : U w B b h F) : B ≤ w.heap.size := by
  have : F b := by obtain ⟨_, _, _, _, _, u⟩ := u; rw [u.ft]; exact .inl rfl
  have := u.lt b this; omega
theorem U.keep {w w' : World} {B b : Nat} {h : List HOp} {F : Nat → Prop} (u : U w B b h F) (hk : ∀ k, F k → w'.heap[k]? = w.heap[k]?) : U w' B b h F := by
  obtain ⟨v1, v2, v3, v4, v5, u⟩ := u
  exact ⟨v1, v2, v3, v4, v5, u.ok, u.rows.keep (fun k g => hk k (by rw [u.ft]; exact g)), u.ft⟩
theorem U.below {w w' : World} {B b : Nat} {h : List HOp} {F : Nat → Prop} (u : U w B b h F) (hb : Below w.heap.size w w') : U w' B b h F := u.keep fun k hk => hb.block k (u.lt k hk).2
theorem U.drewN {w : World} {B b : Nat} {h : List HOp} {F : Nat → Prop} (u : U w B b h F) (q : Nat) : U (w.drewN q) B b h F := u.keep fun _ _ => rfl
theorem UF.sizes {w : World} {B b : Nat} {h : List HOp} {F : Nat → Prop} {v1 v2 v3 v4 v5 : Value} (u : UF w B b h F v1 v2 v3 v4 v5) :
    (∃ p c, v1 = .slice p (nE h) c) ∧ (∃ p c, v2 = .slice p (nE h) c) ∧ (∃ p c, v3 = .slice p (nE h) c) ∧ (∃ p c, v4 = .slice p (nE h) c) ∧ (∃ p c, v5 = .slice p h.length c) := by
  have o := u.rows.own
  simp only [rowsOf, List.mem_cons, List.not_mem_nil, or_false, forall_eq_or_imp, forall_eq] at o
  exact ⟨own_shape o.1, own_shape o.2.1, own_shape o.2.2.1, own_shape o.2.2.2.1, own_shape o.2.2.2.2⟩
structure Acc (w : World) (B b : Nat) (h : List HOp) (v1 v2 v3 v4 v5 : Value) : Prop where
  o1 : w.ownsRow B 3 1 v1 (nE h) (nums (par h))
  o2 : w.ownsRow B 3 1 v2 (nE h) (nums (siz h))
  o3 : w.ownsRow B 3 1 v3 (nE h) (nums (lst h))
  o4 : w.ownsRow B 3 1 v4 (nE h) (nums (nxt h))
  o5 : w.ownsRow B 53 2 v5 h.length (opv (trl h))
  k1 : w.cell? ⟨b, 1, none⟩ = some v1
  k2 : w.cell? ⟨b, 2, none⟩ = some v2
  k3 : w.cell? ⟨b, 3, none⟩ = some v3
  k4 : w.cell? ⟨b, 4, none⟩ = some v4
  k5 : w.cell? ⟨b, 5, none⟩ = some v5
  f : ∀ i, w.frozen? ⟨b, i, none⟩ = false
theorem UF.acc {w : World} {B b : Nat} {h : List HOp} {F : Nat → Prop} {v1 v2 v3 v4 v5 : Value} (u : UF w B b h F v1 v2 v3 v4 v5) : Acc w B b h v1 v2 v3 v4 v5 := by
  have o := u.rows.own
  simp only [rowsOf, List.mem_cons, List.not_mem_nil, or_false, forall_eq_or_imp, forall_eq] at o
  exact ⟨o.1, o.2.1, o.2.2.1, o.2.2.2.1, o.2.2.2.2, u.rows.cell 0 _ rfl, u.rows.cell 1 _ rfl, u.rows.cell 2 _ rfl, u.rows.cell 3 _ rfl, u.rows.cell 4 _ rfl, u.rows.free⟩
/-- where there is an element, the rows lie in memory -/
theorem UF.shapes {w : World} {B b : Nat} {h : List HOp} {F : Nat → Prop} {v1 v2 v3 v4 v5 : Value} (u : UF w B b h F v1 v2 v3 v4 v5) (hn : 0 < nE h) :
    ∃ g1 c1 g2 c2 g3 c3 g4 c4 g5 c5, v1 = .slice (some ⟨g1, 0, none⟩) (nE h) c1 ∧ v2 = .slice (some ⟨g2, 0, none⟩) (nE h) c2 ∧ v3 = .slice (some ⟨g3, 0, none⟩) (nE h) c3 ∧ v4 = .slice (some ⟨g4, 0, none⟩) (nE h) c4 ∧ v5 = .slice (some ⟨g5, 0, none⟩) h.length c5 := by
  have o := u.rows.own
  simp only [rowsOf, List.mem_cons, List.not_mem_nil, or_false, forall_eq_or_imp, forall_eq] at o
  obtain ⟨g1, c1, e1, _⟩ := o.1.form hn
  obtain ⟨g2, c2, e2, _⟩ := o.2.1.form hn
  obtain ⟨g3, c3, e3, _⟩ := o.2.2.1.form hn
  obtain ⟨g4, c4, e4, _⟩ := o.2.2.2.1.form hn
  obtain ⟨g5, c5, e5, _⟩ := o.2.2.2.2.form (by have := nE_le h; omega)
  exact ⟨g1, c1, g2, c2, g3, c3, g4, c4, g5, c5, e1, e2, e3, e4, e5⟩
theorem int_cell {w : World} {B g n cap : Nat} {l : List Nat} (o : w.ownsRow B 3 1 (.slice (some ⟨g, 0, none⟩) n cap) n (nums l)) (j : Nat) (hj : j < n) : w.cell? ⟨g, j, none⟩ = some (.int .i64 (l.getD j 0 : Nat)) := by
  have hl : l.length = n := by have := o.1; rw [len_nums] at this; omega
  rw [World.ownsRow.cellAt o j (by omega), nums_at l j (by omega)]
set_option maxHeartbeats 400000 in
theorem usable_nil (w : World) : Calls Try.prog 26 #[.pointer none] w fun e w' => e = .returned (.bool false) ∧ w = w' := by
  go_enter Try.func26, Try.ntmps26
  go_wp2
  go_ret
  exact ⟨rfl, rfl⟩
set_option maxHeartbeats 400000 in
theorem usable_any (B b : Nat) (h : List HOp) (F : Nat → Prop) (w : World) (u : U w B b h F) : Calls Try.prog 26 #[.pointer (some ⟨b, 0, none⟩)] w fun e w' => e = .returned (.bool true) ∧ w = w' := by
  obtain ⟨v1, v2, v3, v4, v5, u⟩ := u
  have c0 := u.rows.self
  obtain ⟨j, hj⟩ : ∃ j, Try.prog.info? 47 = some j := by
    cases hj : Try.prog.info? 47 with
    | some j => exact ⟨j, rfl⟩
    | none => have h : (Try.prog.info? 47).isSome = true := by kernel_rfl
              rw [hj] at h; cases h
  have he := run_eql_ptr_same (P := Try.prog) (w := w) ⟨b, 0, none⟩ Try.underlying23 hj
  go_enter Try.func26, Try.ntmps26
  go_wp2
  go_ret
  exact ⟨rfl, rfl⟩
set_option maxHeartbeats 400000 in
theorem len_any (B b : Nat) (h : List HOp) (F : Nat → Prop) (w : World) (u : U w B b h F) : Calls Try.prog 16 #[.pointer (some ⟨b, 0, none⟩)] w fun e w' => e = .returned (.int .i64 (nE h)) ∧ w = w' := by
  have hus := Lib.hid (usable_any B b h F w u)
  obtain ⟨v1, v2, v3, v4, v5, u⟩ := u
  obtain ⟨⟨p1, c1, rfl⟩, _⟩ := u.sizes
  have k1 := u.acc.k1
  go_enter Try.func16, Try.ntmps16
  go_wp2_with (go_at_call 26; refine hus.out.mono ?_; rintro e w' ⟨rfl, rfl⟩)
  go_ret
  exact ⟨rfl, rfl⟩
set_option maxHeartbeats 400000 in
theorem mark_any (B b : Nat) (h : List HOp) (F : Nat → Prop) (w : World) (u : U w B b h F) : Calls Try.prog 12 #[.pointer (some ⟨b, 0, none⟩)] w fun e w' => e = .returned (.int .i64 h.length) ∧ w = w' := by
  have hus := Lib.hid (usable_any B b h F w u)
  obtain ⟨v1, v2, v3, v4, v5, u⟩ := u
  obtain ⟨_, _, _, _, ⟨p1, c1, rfl⟩⟩ := u.sizes
  have k1 := u.acc.k5
  go_enter Try.func12, Try.ntmps12
  go_wp2_with (go_at_call 26; refine hus.out.mono ?_; rintro e w' ⟨rfl, rfl⟩)
  go_ret
  exact ⟨rfl, rfl⟩
/-- x is an element -/
def hasB (h : List HOp) (x : Int) : Bool := decide (0 ≤ x ∧ x < nE h)
set_option maxHeartbeats 400000 in
theorem has_any (B b : Nat) (h : List HOp) (F : Nat → Prop) (x : Int) (w : World) (u : U w B b h F) : Calls Try.prog 27 #[.pointer (some ⟨b, 0, none⟩), .int .i64 x] w fun e w' => e = .returned (.bool (hasB h x)) ∧ w = w' := by
  have hus := Lib.hid (len_any B b h F w u)
  by_cases h0 : 0 ≤ x
  · by_cases h1 : x < nE h
    · have hb : hasB h x = true := by simp [hasB, h0, h1]
      rw [hb]
      go_enter Try.func27, Try.ntmps27
      go_wp2_with (go_at_call 16; refine hus.out.mono ?_; rintro e w' ⟨rfl, rfl⟩)
      go_ret
      exact ⟨rfl, rfl⟩
    · have hb : hasB h x = false := by simp [hasB]; omega
      rw [hb]
      go_enter Try.func27, Try.ntmps27
      go_wp2_with (go_at_call 16; refine hus.out.mono ?_; rintro e w' ⟨rfl, rfl⟩)
      go_ret
      exact ⟨by simp; omega, rfl⟩
  · have hb : hasB h x = false := by simp [hasB, h0]
    have hd : decide (0 ≤ x) = false := by simpa using h0
    rw [hb]
    go_enter Try.func27, Try.ntmps27
    go_wp2_with (go_at_call 16; refine hus.out.mono ?_; rintro e w' ⟨rfl, rfl⟩)
    go_ret
    exact ⟨by simp, rfl⟩
set_option maxHeartbeats 400000 in
theorem root_any (B b : Nat) (h : List HOp) (F : Nat → Prop) (x : Nat) (w : World) (u : U w B b h F) (hx : x < nE h) (hs : h.length ≤ 1000) : Calls Try.prog 28 #[.pointer (some ⟨b, 0, none⟩), .int .i64 x] w fun e w' => e = .returned (.int .i64 (R h x)) ∧ w = w' := by
  obtain ⟨v1, v2, v3, v4, v5, u⟩ := u
  have hok := u.ok
  have hn := nE_le h
  obtain ⟨g1, c1, g2, c2, g3, c3, g4, c4, g5, c5, rfl, rfl, rfl, rfl, rfl⟩ := u.shapes (by omega)
  have k1 := u.acc.k1
  have o1 := Lib.hid (int_cell u.acc.o1)
  clear u
  go_enter Try.func28, Try.ntmps28
  go_wp2
  go_loop [1] (fun i => ∃ y : Nat, y < nE h ∧ i = .int .i64 y ∧ R h y = R h x) (fun i => mu h (intOf i).toNat)
  case atStart => exact ⟨x, hx, rfl, rfl⟩
  case round =>
    obtain ⟨y, hy, rfl, hRy⟩ := hrel
    have HRy := Lib.hid hRy
    clear hRy
    have c := o1.out y hy
    have p1 := par_lt h hok y hy
    have p2 := Lib.hid (R_par h hok y hy)
    have p3 := Lib.hid (par_root h hok y hy)
    have p4 := Lib.hid (mu_par h hok y hy)
    generalize (par h).getD y 0 = z at c p1 p2 p3 p4
    by_cases e : z = y
    · have q := Lib.hid (p3.out.1 e)
      clear p2 p3 p4
      subst e
      go_wp2
      go_ret
      exact ⟨ret_int (by rw [← HRy.out, q.out]), rfl⟩
    · have hne : ((z : Int) != (y : Int)) = true := by simp; omega
      go_wp2
      go_round
      case rel => exact ⟨z, p1, rfl, p2.out.trans HRy.out⟩
      case measure => simpa [intOf] using p4.out e
theorem lst_cell {w : World} {B b : Nat} {h : List HOp} {F : Nat → Prop} {v1 v2 v3 v4 v5 : Value} (u : UF w B b h F v1 v2 v3 v4 v5) (x : Nat) (hx : x < nE h) :
    ∃ g c, v3 = .slice (some ⟨g, 0, none⟩) (nE h) c ∧ w.cell? ⟨g, R h x, none⟩ = some (.int .i64 (lab h x : Nat)) := by
  obtain ⟨g1, c1, g2, c2, g3, c3, g4, c4, g5, c5, rfl, rfl, rfl, rfl, rfl⟩ := u.shapes (by omega)
  exact ⟨g3, c3, rfl, int_cell u.acc.o3 _ (R_lt h u.ok x hx)⟩
/-- what Find answers -/
def findI (h : List HOp) (x : Int) : Int := if 0 ≤ x ∧ x < nE h then (lab h x.toNat : Nat) else -1
set_option maxHeartbeats 400000 in
theorem find_any (B b : Nat) (h : List HOp) (F : Nat → Prop) (x : Int) (w : World) (u : U w B b h F) (hs : h.length ≤ 1000) : Calls Try.prog 18 #[.pointer (some ⟨b, 0, none⟩), .int .i64 x] w fun e w' => e = .returned (.int .i64 (findI h x)) ∧ ∃ q, w' = w.drewN q := by
  have hus := Lib.hid (has_any B b h F x w u)
  by_cases hx : 0 ≤ x ∧ x < nE h
  · have hb : hasB h x = true := by simp [hasB, hx]
    rw [hb] at hus
    obtain ⟨n, rfl⟩ := Int.eq_ofNat_of_zero_le hx.1
    have hn : n < nE h := by omega
    have hf : findI h n = (lab h n : Nat) := by unfold findI; rw [if_pos hx]; rfl
    rw [hf]
    have hr := Lib.hid (fun q => root_any B b h F n (w.drewN q) (u.drewN q) hn hs)
    have hok := u.ok
    obtain ⟨v1, v2, v3, v4, v5, u⟩ := u
    obtain ⟨g, c, rfl, hc⟩ := lst_cell u n hn
    have k3 := u.acc.k3
    have hR := R_lt h hok n hn
    have hne := nE_le h
    clear u hx hf hb
    generalize R h n = r at hr hc hR
    generalize lab h n = l at hc
    have hR' : (r : Int) < (nE h : Int) := by omega
    go_enter Try.func18, Try.ntmps18
    go_wp2_with (go_at_call 27; refine hus.out.mono ?_; rintro e w' ⟨rfl, rfl⟩)
    go_quiet ((go_at_call 28; exact (hr.out _).mono fun e w' h => ⟨h.1, _, h.2.symm⟩))
    go_wp2
    go_ret
    exact ⟨rfl, nq, rfl⟩
  · have hb : hasB h x = false := by simp [hasB]; omega
    rw [hb] at hus
    have hf : findI h x = -1 := by unfold findI; rw [if_neg hx]
    rw [hf]
    go_enter Try.func18, Try.ntmps18
    go_wp2_with (go_at_call 27; refine hus.out.mono ?_; rintro e w' ⟨rfl, rfl⟩)
    go_ret
    exact ⟨rfl, 0, rfl⟩
/-- a and b are in one set -/
def sameB (h : List HOp) (x y : Int) : Bool := decide (0 ≤ x ∧ x < nE h ∧ 0 ≤ y ∧ y < nE h ∧ R h x.toNat = R h y.toNat)
set_option maxHeartbeats 400000 in
theorem same_any (B b : Nat) (h : List HOp) (F : Nat → Prop) (x y : Int) (w : World) (u : U w B b h F) (hs : h.length ≤ 1000) : Calls Try.prog 17 #[.pointer (some ⟨b, 0, none⟩), .int .i64 x, .int .i64 y] w fun e w' => e = .returned (.bool (sameB h x y)) ∧ w = w' := by
  have hus := Lib.hid (fun x => has_any B b h F x w u)
  by_cases hx : hasB h x = true
  · have hx' := hx
    simp [hasB] at hx'
    obtain ⟨n, rfl⟩ := Int.eq_ofNat_of_zero_le hx'.1
    have Hx := Lib.hid hx
    clear hx
    by_cases hy : hasB h y = true
    · have hy' := hy
      simp [hasB] at hy'
      obtain ⟨m, rfl⟩ := Int.eq_ofNat_of_zero_le hy'.1
      have Hy := Lib.hid hy
      clear hy
      have r1 := Lib.hid (root_any B b h F n w u (by omega) hs)
      have r2 := Lib.hid (root_any B b h F m w u (by omega) hs)
      have hsb : sameB h n m = decide (R h n = R h m) := by simp only [sameB, Int.toNat_natCast]; rw [Bool.eq_iff_iff]; simp; omega
      rw [hsb]
      clear hsb
      generalize R h n = r at r1 ⊢
      generalize R h m = s at r2 ⊢
      have hg : decide (r = s) = ((r : Int) == (s : Int)) := by rw [Bool.eq_iff_iff]; simp; omega
      rw [hg]
      clear hg
      go_enter Try.func17, Try.ntmps17
      go_wp2_with fail
      refine (hus.out _).mono ?_; rintro e w' ⟨rfl, rfl⟩
      rw [Hx.out]
      go_wp2_with fail
      refine (hus.out _).mono ?_; rintro e w' ⟨rfl, rfl⟩
      rw [Hy.out]
      go_wp2_with fail
      refine r1.out.mono ?_; rintro e w' ⟨rfl, rfl⟩
      go_wp2_with fail
      refine r2.out.mono ?_; rintro e w' ⟨rfl, rfl⟩
      go_wp2
      all_goals go_ret
      all_goals exact ⟨rfl, rfl⟩
    · have hy2 : hasB h y = false := by simpa using hy
      have hsb : sameB h n y = false := by simp [sameB]; simp [hasB] at hy2; omega
      rw [hsb]
      have Hy := Lib.hid hy2
      clear hy hy2
      go_enter Try.func17, Try.ntmps17
      go_wp2_with fail
      refine (hus.out _).mono ?_; rintro e w' ⟨rfl, rfl⟩
      rw [Hx.out]
      go_wp2_with fail
      refine (hus.out _).mono ?_; rintro e w' ⟨rfl, rfl⟩
      rw [Hy.out]
      go_wp2
      go_ret
      exact ⟨rfl, rfl⟩
  · have hx2 : hasB h x = false := by simpa using hx
    have hsb : sameB h x y = false := by simp [sameB]; simp [hasB] at hx2; omega
    rw [hsb]
    have Hx := Lib.hid hx2
    clear hx hx2
    go_enter Try.func17, Try.ntmps17
    go_wp2_with fail
    refine (hus.out _).mono ?_; rintro e w' ⟨rfl, rfl⟩
    rw [Hx.out]
    go_wp2
    go_ret
    exact ⟨rfl, rfl⟩
end Go.Proofs.Ytihoegihmgeenaa
