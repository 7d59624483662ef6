/- The reference's Gap and Spaced. -/
import Derived.Test.YtgiheheakgigkaaAQ
namespace Go.Proofs.Ytgiheheakgigkaa
open Go.RowKit
set_option linter.unusedVariables false
set_option linter.unusedSimpArgs false
/-- a gap -/
def gpB (g : ByteArray) : Bool := if g.size ≠ 0 ∧ bk1 ((xo g).f 0) = true ∧ sk (xo g) false 0 = g.size ∧ sk (xo (g ++ ⟨#[97]⟩)) false 0 = g.size then true else false
theorem gpB_iff {g : ByteArray} : gpB g = true ↔ g.size ≠ 0 ∧ bk1 ((xo g).f 0) = true ∧ sk (xo g) false 0 = g.size ∧ sk (xo (g ++ ⟨#[97]⟩)) false 0 = g.size := by unfold gpB; split <;> simp_all
theorem gpB_not {g : ByteArray} (h : ¬ (g.size ≠ 0 ∧ bk1 ((xo g).f 0) = true ∧ sk (xo g) false 0 = g.size ∧ sk (xo (g ++ ⟨#[97]⟩)) false 0 = g.size)) : gpB g = false := if_neg h
set_option maxRecDepth 100000 in
set_option maxHeartbeats 4000000 in
theorem gap29 (g : ByteArray) (hs : g.size ≤ 1000) (w : World) : Calls Try.prog 29 #[.string g] w fun e w' => e = .returned (.bool (gpB g)) ∧ w = w' := by
  by_cases h0 : g.size = 0
  · rw [gpB_not (fun h => h.1 h0), empty_size h0]
    clear hs h0
    go_enter Try.func29, Try.ntmps29
    go_wp2_with fail
    go_ret
    exact ⟨rfl, rfl⟩
  · have he := empty_str g h0
    have hx := idx9 (s := g) (i := 0) (by omega)
    rw [show (((0 : Nat) : Nat) : Int) = 0 from rfl] at hx
    have N1 := Lib.hid (fun (h : ¬ bk1 ((xo g).f 0) = true) => gpB_not (g := g) fun k => h k.2.1)
    have N2 := Lib.hid (fun (h : ¬ sk (xo g) false 0 = g.size) => gpB_not (g := g) fun k => h k.2.2.1)
    have N3 := Lib.hid (fun (h : ¬ sk (xo (g ++ ⟨#[97]⟩)) false 0 = g.size) => gpB_not (g := g) fun k => h k.2.2.2)
    have YY := Lib.hid (fun (h1 : bk1 ((xo g).f 0) = true) (h2 : sk (xo g) false 0 = g.size) (h3 : sk (xo (g ++ ⟨#[97]⟩)) false 0 = g.size) => (gpB_iff (g := g)).2 ⟨h0, h1, h2, h3⟩)
    have A33 := Lib.hid (fun w => skip33 w g (by omega) 0 (Nat.zero_le _))
    have B33 := Lib.hid (fun w => skip33 w (g ++ ⟨#[97]⟩) (by rw [ByteArray.size_append]; show _ + 1 ≤ _; omega) 0 (Nat.zero_le _))
    have A45 := Lib.hid (fun c w => blank45 c w)
    clear h0
    generalize (xo g).f 0 = c at *
    generalize sk (xo g) false 0 = m at *
    generalize sk (xo (g ++ ⟨#[97]⟩)) false 0 = m2 at *
    have C45 := Lib.hid (fun w => A45.out c w)
    cases hb : bk1 c with
    | false =>
      rw [hb] at C45
      rw [N1.out (by rw [hb]; decide)]
      clear hb
      go_enter Try.func29, Try.ntmps29
      go_wp2_with fail
      refine (C45.out _).mono ?_
      rintro e w' ⟨rfl, rfl⟩
      go_wp2_with fail
      go_ret
      exact ⟨rfl, rfl⟩
    | true =>
      rw [hb] at C45
      have HB := Lib.hid hb
      clear hb
      by_cases h2 : m = g.size
      · subst h2
        by_cases h3 : m2 = g.size
        · subst h3
          rw [YY.out HB.out rfl rfl]
          go_enter Try.func29, Try.ntmps29
          go_wp2_with fail
          refine (C45.out _).mono ?_
          rintro e w' ⟨rfl, rfl⟩
          go_wp2_with fail
          refine (A33.out _).mono ?_
          rintro e w' ⟨rfl, rfl⟩
          go_wp2_with fail
          refine (B33.out _).mono ?_
          rintro e w' ⟨rfl, rfl⟩
          go_wp2_with fail
          go_ret
          exact ⟨rfl, rfl⟩
        · rw [N3.out h3]
          have hq : ((m2 : Int) == (g.size : Int)) = false := ne_cast h3
          clear h3
          go_enter Try.func29, Try.ntmps29
          go_wp2_with fail
          refine (C45.out _).mono ?_
          rintro e w' ⟨rfl, rfl⟩
          go_wp2_with fail
          refine (A33.out _).mono ?_
          rintro e w' ⟨rfl, rfl⟩
          go_wp2_with fail
          refine (B33.out _).mono ?_
          rintro e w' ⟨rfl, rfl⟩
          go_wp2_with fail
          go_ret
          exact ⟨rfl, rfl⟩
      · rw [N2.out h2]
        have hq : ((m : Int) == (g.size : Int)) = false := ne_cast h2
        clear h2
        go_enter Try.func29, Try.ntmps29
        go_wp2_with fail
        refine (C45.out _).mono ?_
        rintro e w' ⟨rfl, rfl⟩
        go_wp2_with fail
        refine (A33.out _).mono ?_
        rintro e w' ⟨rfl, rfl⟩
        go_wp2_with fail
        go_ret
        exact ⟨rfl, rfl⟩
mutual
def spT (g : ByteArray) : T → ByteArray
  | .mk a ts => if a.size = 0 then ((spL g ((g ++ ⟨#[40]⟩) ++ g) ts ++ g) ++ ⟨#[41]⟩) ++ g else (g ++ a) ++ g
def spL (g : ByteArray) : ByteArray → List T → ByteArray
  | acc, [] => acc
  | acc, t :: ts => spL g (acc ++ spT g t) ts
end
theorem spT_mk (g a : ByteArray) (ts : List T) : spT g (.mk a ts) = if a.size = 0 then ((spL g ((g ++ ⟨#[40]⟩) ++ g) ts ++ g) ++ ⟨#[41]⟩) ++ g else (g ++ a) ++ g := by rw [spT]
theorem spL_nil (g acc : ByteArray) : spL g acc [] = acc := by rw [spL]
theorem spL_cons (g acc : ByteArray) (t : T) (ts : List T) : spL g acc (t :: ts) = spL g (acc ++ spT g t) ts := by rw [spL]
theorem spL_size (g : ByteArray) : ∀ (ts : List T) (acc : ByteArray), (spL g acc ts).size = acc.size + (ts.map fun t => (spT g t).size).sum
  | [], acc => by rw [spL_nil]; simp
  | t :: ts, acc => by rw [spL_cons, spL_size g ts, ByteArray.size_append]; simp only [List.map_cons, List.sum_cons]; omega
theorem spL_ge (g : ByteArray) (ts : List T) (acc : ByteArray) : acc.size ≤ (spL g acc ts).size := by rw [spL_size]; omega
theorem sp_core (g : ByteArray) (t : T) : spT g t = g ++ (core (g ++ g) (g ++ g) t ++ g) := by
  induction t using T.ind with
  | h a ts ih =>
    rw [spT_mk, core_mk]
    by_cases ha : a.size = 0
    · rw [if_pos ha, if_pos ha]
      have key : ∀ (ts : List T) (f : Bool) (acc : ByteArray), (∀ t ∈ ts, spT g t = g ++ (core (g ++ g) (g ++ g) t ++ g)) → spL g (acc ++ g) ts ++ g = acc ++ body (g ++ g) (g ++ g) f ts := by
        intro ts
        induction ts with
        | nil => intro f acc _; rw [spL_nil, body_nil, ByteArray.append_assoc]
        | cons t ts ih2 =>
          intro f acc h
          rw [spL_cons, body_cons, h t (by simp)]
          have := ih2 false ((acc ++ (g ++ g)) ++ core (g ++ g) (g ++ g) t) (fun u hu => h u (by simp [hu]))
          rw [show (if f = true then g ++ g else g ++ g) = g ++ g by split <;> rfl]
          rw [show (acc ++ g) ++ (g ++ (core (g ++ g) (g ++ g) t ++ g)) = ((acc ++ (g ++ g)) ++ core (g ++ g) (g ++ g) t) ++ g by simp only [ByteArray.append_assoc], this]
          simp only [ByteArray.append_assoc]
      rw [key ts true (g ++ ⟨#[40]⟩) ih]
      simp only [ByteArray.append_assoc]
    · rw [if_neg ha, if_neg ha, ByteArray.append_assoc]
set_option maxRecDepth 100000 in
set_option maxHeartbeats 4000000 in
theorem spaced30 (g : ByteArray) (hg : g.size ≤ 1000) (t : T) : ∀ (w : World) (p : Option Addr) (c : Nat), RowD (mem 0 w) w p c t.ts → nd t ≤ 1000000 → (spT g t).size ≤ 1000000 → Calls Try.prog 30 #[.agg #[.string t.a, .slice p t.ts.length c], .string g] w fun e w' => e = .returned (.string (spT g t)) ∧ BK w w' := by
  induction t using T.ind with
  | h a ts ih =>
    intro w p c hp0 hn hz
    have hp : RowD (mem 0 w) w p c ts := hp0
    show Calls Try.prog 30 #[.agg #[.string a, .slice p ts.length c], .string g] w _
    rw [spT_mk] at hz ⊢
    rw [nd_mk] at hn
    have HN := Lib.hid (show ndL ts ≤ 1000000 from by omega)
    have HL := Lib.hid (show ts.length ≤ 1000000 from by have := ndL_len ts; omega)
    have K0 := Lib.hid (bk_alloc (BK.refl w) (.cells #[.string a, .slice p ts.length c] 25))
    have NB := Lib.hid (heap_alloc_new w (.cells #[.string a, .slice p ts.length c] 25))
    have x0 := cell_of_row _ w.heap.size 0 _ 25 (0, 0) NB.out
    have x1 := cell_of_row _ w.heap.size 1 _ 25 (0, 0) NB.out
    have HR := Lib.hid hp
    have IH := Lib.hid ih
    clear hp0 hp hn ih
    by_cases ha : a.size = 0
    · rw [if_pos ha] at hz ⊢
      have ea := empty_size ha
      subst ea
      clear ha
      simp only [ByteArray.size_append] at hz
      have e40 : (⟨#[40]⟩ : ByteArray).size = 1 := rfl
      have e41 : (⟨#[41]⟩ : ByteArray).size = 1 := rfl
      have HZ := Lib.hid (show (spL g ((g ++ ⟨#[40]⟩) ++ g) ts).size ≤ 1000000 from by omega)
      have HGS := Lib.hid hg
      have E0 := Lib.hid (show spL g ((g ++ ⟨#[40]⟩) ++ g) (ts.drop 0) = spL g ((g ++ ⟨#[40]⟩) ++ g) ts from rfl)
      clear hz e40 e41
      generalize spL g ((g ++ ⟨#[40]⟩) ++ g) ts = FULL at *
      go_enter Try.func30, Try.ntmps30
      go_wp2_with fail
      generalize w.alloc (.cells #[.string ⟨#[]⟩, .slice p ts.length c] 25) = w1 at *
      clear x0 x1
      go_loopw [5, 6] (fun o iv wr => ∃ (k : Nat) (acc : ByteArray), k ≤ ts.length ∧ o = .string acc ∧ iv = .int .i64 (k : Int) ∧ spL g acc (ts.drop k) = FULL ∧ BK w1 wr) (fun _ iv _ => ts.length - (intOf iv).toNat)
      case atStart => exact ⟨0, _, Nat.zero_le _, rfl, rfl, E0.out, BK.refl _⟩
      case round =>
        obtain ⟨k, acc, hk, rfl, rfl, heq, hb⟩ := hrel
        have EQ := Lib.hid heq
        have KB := Lib.hid hb
        have B2 := Lib.hid ((bk_block hb (Array.getElem?_eq_some_iff.1 NB.out).1).trans NB.out)
        have x0 := cell_of_row _ w.heap.size 0 _ 25 (0, 0) B2.out
        have x1 := cell_of_row _ w.heap.size 1 _ 25 (0, 0) B2.out
        clear heq hb
        by_cases e : k = ts.length
        · have hd : decide (k < ts.length) = false := by simp [e]
          have EQ2 := EQ.out
          rw [List.drop_of_length_le (by omega), spL_nil] at EQ2
          subst EQ2
          have hsz := HZ.out
          have hgs := HGS.out
          subst e
          go_wp2_with fail
          go_ret
          exact ⟨rfl, bk_tr K0.out KB.out⟩
        · have hlt : k < ts.length := by omega
          have hd : decide (k < ts.length) = true := by simpa using hlt
          obtain ⟨b, o, a', us, q, d, rfl, hbD, he, z0, z1, hrr⟩ := ((HR.out.bk K0.out (Nat.le_refl _)).bk KB.out (Nat.le_refl _)).get hlt
          have EQ2 := EQ.out
          rw [List.drop_eq_getElem_cons hlt, he, spL_cons] at EQ2
          have h1 := spL_ge g (ts.drop (k + 1)) (acc ++ spT g (.mk a' us))
          rw [EQ2, ByteArray.size_append] at h1
          have hz := HZ.out
          have hac : acc.size + (spT g (.mk a' us)).size ≤ 1000000 := by omega
          have hacc : acc.size ≤ 1000000 := by omega
          have CC := Lib.hid (show Calls Try.prog 30 #[.agg #[.string a', .slice q us.length d], .string g] wr _ from by
            have := IH.out ts[k] (List.getElem_mem hlt) wr q d (by rw [he]; exact hrr) (Nat.le_trans (ndL_get hlt) HN.out) (by rw [he]; omega)
            rw [he] at this
            exact this)
          have EQ3 := Lib.hid EQ2
          have HLT := Lib.hid hlt
          have ei : IntKind.i64.wrap ((k : Int) + 1) = (k : Int) + 1 := by have := HL.out; exact IntWalk.i64_in _ (by omega)
          have hki : (k : Int) < (ts.length : Int) := by omega
          clear hrr he hbD e EQ2 h1 hz
          generalize spT g (.mk a' us) = PT at *
          go_wp2_with fail
          refine CC.out.mono ?_
          rintro e w2 ⟨rfl, hb2⟩
          have K2 := Lib.hid (bk_tr KB.out hb2)
          clear hb2
          go_wp2_with fail
          go_roundw
          case rel => exact ⟨k + 1, _, by have := HLT.out; omega, rfl, by go_num, EQ3.out, K2.out⟩
          case measure => have := HLT.out; simp [intOf]; omega
    · rw [if_neg ha] at hz ⊢
      have he := empty_str a ha
      simp only [ByteArray.size_append] at hz
      clear ha
      go_enter Try.func30, Try.ntmps30
      go_wp2_with fail
      go_ret
      exact ⟨rfl, K0.out⟩
end Go.Proofs.Ytgiheheakgigkaa
