/- One call on both: the queries, where the first is no element. -/
import Derived.Test.YtihoegihmgeenaaAE
import Derived.Deep.DeepCutAuto
namespace Go.Proofs.Ytihoegihmgeenaa
open Go.RowKit
set_option linter.unusedVariables false
set_option linter.unusedSimpArgs false
theorem wp_region_class {P : Program} {C : World → Prop} {id : Nat} {Q : Exit → Act → World → Prop} {a : Act} {w : World} {l : List Oper} (hm : P.follows .mixedOrders = true) (hB : Region.lexB .any l.toArray = true) (hC : C w.drew)
    (h : wpQuiet P l.toArray C (fun a' => ∀ w', C w' → Q .normal a' w') l a) : (Code.region id l.toArray true).wp P Q a w :=
  wp_region_quiet hm hB hC (by simpa using h)
set_option maxRecDepth 100000 in
set_option maxHeartbeats 4000000 in
theorem look_neg (b : Nat) (p : Option Addr) (n c : Nat) (kd x y : Int) (FI : Int → Int) (ML : List Int) (w : World) (h1 : (kd == 1) = false) (h2 : (kd == 2) = false) (h3 : (kd == 3) = false) (hFA : FI x = -1)
    (C : Looks (w.alloc (.cells #[.int .i64 kd, .int .i64 x, .int .i64 y] 33)) b (.slice p n c) x y FI false ML) :
    Calls Try.prog 21 #[.pointer (some ⟨b, 0, none⟩), .slice p n c, .agg #[.int .i64 kd, .int .i64 x, .int .i64 y]] w fun e w' => e = .returned (.tuple #[.slice p n c, .bool true]) ∧ Below w.heap.size w w' := by
  have HC := Lib.hid C
  have k0 : BK (w.alloc (.cells #[.int .i64 kd, .int .i64 x, .int .i64 y] 33)) (w.alloc (.cells #[.int .i64 kd, .int .i64 x, .int .i64 y] 33)) := BK.refl _
  have KC : Hid (∀ w', BK (w.alloc (.cells #[.int .i64 kd, .int .i64 x, .int .i64 y] 33)) w' → w'.cell? ⟨w.heap.size, 1, none⟩ = some (.int .i64 x) ∧ w'.cell? ⟨w.heap.size, 2, none⟩ = some (.int .i64 y)) := Lib.hid (fun w' hb => by
    obtain ⟨_, a1, a2⟩ := act_cells (heap_alloc_new w (.cells #[.int .i64 kd, .int .i64 x, .int .i64 y] 33))
    have hb : Below _ _ _ := hb
    exact ⟨(hb.cell (p := ⟨w.heap.size, 1, none⟩) (by simp)).trans a1, (hb.cell (p := ⟨w.heap.size, 2, none⟩) (by simp)).trans a2⟩)
  have c34n : ∀ wc, BK (w.alloc (.cells #[.int .i64 kd, .int .i64 x, .int .i64 y] 33)) wc → Calls Try.prog 34 #[.slice p n c, .int .i64 x] wc fun e w' => e = .returned (.int .i64 (-1)) ∧ BK (w.alloc (.cells #[.int .i64 kd, .int .i64 x, .int .i64 y] 33)) w' := fun wc hb => by
    have := HC.out.c34 wc x hb
    rw [hFA] at this; exact this
  have C34 := Lib.hid c34n
  clear c34n hFA
  have HW := Lib.hid (below_alloc w (.cells #[.int .i64 kd, .int .i64 x, .int .i64 y] 33))
  clear C
  go_enter Try.func21, Try.ntmps21
  go_wp2_with fail
  go_cut [15] (fun s15 wx => s15 = .bool false ∧ BK (w.alloc (.cells #[.int .i64 kd, .int .i64 x, .int .i64 y] 33)) wx)
  case first =>
    refine wp_region_class (C := fun w' => BK (w.alloc (.cells #[.int .i64 kd, .int .i64 x, .int .i64 y] 33)) w') (by kernel_rfl) (by kernel_rfl) (kd_drew k0) ?_
    repeat (first
      | go_big_quiet_step (fail)
      | (refine wpQuiet_step (fun K hK => ?_)
         go_simp
         first
           | (refine hK _ ?_; clear hK K)
           | (refine ⟨_, fun _ _ => rfl, hK _ ?_⟩; clear hK K)
           | (apply Exists.intro; refine ⟨fun w1 hw1 => ?_, hK _ ?_⟩; (go_at_call 34; exact C34.out _ hw1); clear hK K)
           | (apply Exists.intro; refine ⟨fun w1 hw1 => ?_, hK _ ?_⟩; (obtain ⟨q1, q2⟩ := KC.out _ hw1; go_simp; rfl); clear hK K)))
    refine wpQuiet_nil ?_
    intro w5 hw5
    go_wp2_with fail
    go_meet
    case rel => exact ⟨rfl, hw5⟩
  case rest =>
    obtain ⟨rfl, hbc⟩ := hcut
    obtain ⟨q1, q2⟩ := KC.out _ hbc
    go_wp2_with fail
    go_region_held3 (fun w' => w'.cell? ⟨w.heap.size, 1, none⟩ = some (.int .i64 x) ∧ w'.cell? ⟨w.heap.size, 2, none⟩ = some (.int .i64 y))
      (first | go_keep | exact KC.out _ (by first | assumption | exact kd_drew (by assumption)))
      (first | (go_at_call 34; refine (HC.out.c34 _ _ (by first | assumption | exact kd_drew (by assumption))).mono ?_; rintro e w' ⟨rfl, hb'⟩) | (go_at_call 18; refine (HC.out.c18 _ (by first | assumption | exact kd_drew (by assumption))).mono ?_; rintro e w' ⟨rfl, hb'⟩) | (go_at_call 17; refine (HC.out.c17 _ (by first | assumption | exact kd_drew (by assumption))).mono ?_; rintro e w' ⟨rfl, hb'⟩) | (go_at_call 20; refine (HC.out.c20 _ (by first | assumption | exact kd_drew (by assumption))).mono ?_; rintro e w' ⟨v, rfl, hb', hrd⟩) | (go_at_call 25; refine (HC.out.c25 _ _ (by first | assumption | exact kd_drew (by assumption)) (by assumption)).mono ?_; rintro e w' ⟨v2, rfl, hb', hrd1, hrd2⟩) | (go_at_call 23; refine (HC.out.c23 _ _ _ (by first | assumption | exact kd_drew (by assumption)) (by assumption) (by assumption)).mono ?_; rintro e w' ⟨rfl, hb'⟩))
    go_wp2_with fail
    go_ret2
    exact ⟨rfl, below_chain HW.out (by first | assumption | exact kd_drew (by assumption))⟩
end Go.Proofs.Ytihoegihmgeenaa
