/- One call on both: Make, Union, Undo. -/
import Derived.Test.YtihoegihmgeenaaAA
import Derived.Deep.DeepMust
namespace Go.Proofs.Ytihoegihmgeenaa
open Go.RowKit
set_option linter.unusedVariables false
set_option linter.unusedSimpArgs false
/-- the object and the operations, apart -/
structure Both (w : World) (B b : Nat) (h : List HOp) (F : Nat → Prop) (lv : Value) (l : List ROp) : Prop where
  u : U w B b h F
  o : OL w B lv l h
  sep : ∀ k, lv.ownBlock = some k → ¬ F k
theorem Both.below {w w' : World} {B b : Nat} {h : List HOp} {F : Nat → Prop} {lv : Value} {l : List ROp} (k : Both w B b h F lv l) (hb : Below w.heap.size w w') : Both w' B b h F lv l := ⟨k.u.below hb, k.o.below hb, k.sep⟩
/-- what a step leaves -/
def StepPost (w : World) (B b : Nat) (h : List HOp) (e : Ending) (w' : World) : Prop :=
  ∃ mv l' h' F', e = .returned (.tuple #[mv, .bool true]) ∧ Both w' B b h' F' mv l' ∧ h'.length ≤ h.length + 1 ∧ Below B w w'
theorem below_alloc (w : World) (o : Obj) : Below w.heap.size w (w.alloc o) := (Below.refl _ _).alloc (Nat.le_refl _) o
theorem below_mono {w w' : World} {B : Nat} (h : Below w.heap.size w w') (hB : B ≤ w.heap.size) : Below B w w' := h.mono hB
/-- behind the step of the object the operations are as they were -/
theorem Both.after {w w' : World} {B b : Nat} {h : List HOp} {F F' : Nat → Prop} {lv : Value} {l : List ROp} (k : Both w B b h F lv l) (s : Step w w' F F') : OL w' B lv l h ∧ ∀ j, lv.ownBlock = some j → ¬ F' j := by
  refine ⟨⟨own_at k.o.own fun j hj => s.block j (k.o.own.lt j hj).2 (k.sep j hj), k.o.m, k.o.ok⟩, fun j hj hF => ?_⟩
  rcases s.sub j hF with q | q
  · exact k.sep j hj q
  · have := (k.o.own.lt j hj).2; omega
set_option maxRecDepth 100000 in
set_option maxHeartbeats 4000000 in
theorem step_make (B b : Nat) (h : List HOp) (F : Nat → Prop) (lv : Value) (l : List ROp) (x y : Int) (w : World) (k : Both w B b h F lv l) (hs : h.length ≤ 100) :
    Calls Try.prog 21 #[.pointer (some ⟨b, 0, none⟩), lv, .agg #[.int .i64 1, .int .i64 x, .int .i64 y]] w (StepPost w B b h) := by
  have k1 := k.below (below_alloc w (.cells #[.int .i64 1, .int .i64 x, .int .i64 y] 33))
  have hlab := Lib.hid (k1.o.labels (by omega))
  have hl := M_len h l k.o.m
  have hll : l.length ≤ 100 := by omega
  have hB := k.u.base
  obtain ⟨p, c, rfl⟩ := own_shape k.o.own
  obtain ⟨i58, hi58, hz58, hs58, hb58⟩ := info_parts info58
  have K1 := Lib.hid k1
  have hlen := Lib.hid (len_labs h)
  have HL := Lib.hid hl
  clear k k1 hl
  go_enter Try.func21, Try.ntmps21
  go_wp2_with fail
  refine hlab.out.mono ?_
  rintro e w1 ⟨v, rfl, ov, hb1⟩
  rw [hlen.out] at ov
  obtain ⟨q, d, rfl⟩ := own_shape ov
  have K2 := Lib.hid (K1.out.below hb1)
  have hb2 := below_chain (below_alloc w (.cells #[.int .i64 1, .int .i64 x, .int .i64 y] 33)) hb1
  have HB2 := Lib.hid hb2
  have hsz := hb2.size
  clear ov hb1 hb2 hlab K1
  go_wp2_with (at_builtin; go_must (refine wpList_append_lies _ rfl (.tmp 23) (.tmp 25) 26 rfl B 58 i58 (.agg #[.bool false, .int .i64 0, .int .i64 0]) 3 24 Try.underlying26 hi58 hz58 hs58 hb58 rfl (by decide) _ _ _ rfl (K2.out.o.own.alloc _) ⟨w1.heap.size, 0, none⟩ 1 1 [.bool true, .int .i64 0, .int .i64 0] rfl rfl (lit_cells_at w1 #[.bool true, .int .i64 0, .int .i64 0] 58 _ rfl) (by simp [Value.oneCell']) (by decide) (by unfold maxLen; omega) (by omega) (by simp; omega) (w1.heap.size + 1) (by simp) ?_))
  intro g2 c2 w2 hown hgrow hat hlt2
  have hFb : ∀ j, F j → w2.heap[j]? = w1.heap[j]? := fun j hj => by
    have hjl := (K2.out.u.lt j hj).2
    rw [hgrow.block j (by simp; omega) (fun e => K2.out.sep j e.symm hj), heap_alloc_old w1 _ hjl]
  have u2 : U w2 B b h F := K2.out.u.keep hFb
  have hb2 : Below B w w2 := ((below_mono HB2.out hB).alloc (by omega) (.cells #[.bool true, .int .i64 0, .int .i64 0] 58)).grown hgrow (by simp; omega) (fun j hj => (K2.out.o.own.lt j hj).1)
  have hsep : ¬ F g2 := by
    rcases hat with q' | q'
    · exact K2.out.sep g2 q'
    · intro hF; have := (K2.out.u.lt g2 hF).2; omega
  have hmk := Lib.hid (make_any B b h F w2 u2 (by omega))
  have hown' : w2.ownsRow B 58 3 (.slice (some ⟨g2, 0, none⟩) (l.length + 1) c2) (l.length + 1) (rops (l ++ [(true, 0, 0)])) := by rw [rops_snoc]; exact hown
  have HO := Lib.hid hown'
  have HU := Lib.hid u2
  have HB := Lib.hid hb2
  have HM : Hid (M (l ++ [(true, 0, 0)]) (none :: h)) := Lib.hid ⟨l, 0, 0, rfl, K2.out.o.m⟩
  have Hok : Hid (ok (none :: h)) := Lib.hid K2.out.o.ok
  clear hFb u2 hb2 hown hown' hgrow hat K2 HB2
  go_wp2_with fail
  refine hmk.out.mono ?_
  rintro e w3 ⟨rfl, F3, u3, s3⟩
  have o3 : w3.ownsRow B 58 3 (.slice (some ⟨g2, 0, none⟩) (l.length + 1) c2) (l.length + 1) (rops (l ++ [(true, 0, 0)])) := own_at HO.out fun j hj => by
    simp only [Value.ownBlock, Option.some.injEq] at hj
    subst hj
    exact s3.block _ hlt2 hsep
  have sep3 : ∀ j, (Value.slice (some ⟨g2, 0, none⟩) (l.length + 1) c2).ownBlock = some j → ¬ F3 j := by
    intro j hj hF
    simp only [Value.ownBlock, Option.some.injEq] at hj
    subst hj
    rcases s3.sub _ hF with q' | q'
    · exact hsep q'
    · omega
  have fin : StepPost w B b h (.returned (.tuple #[.slice (some ⟨g2, 0, none⟩) (l.length + 1) c2, .bool true])) w3 :=
    ⟨_, l ++ [(true, 0, 0)], none :: h, F3, rfl, ⟨u3, ⟨by simpa using o3, HM.out, Hok.out⟩, sep3⟩, by simp, HB.out.trans (HU.out.step s3)⟩
  have Fin := Lib.hid fin
  clear o3 sep3 fin u3 s3
  go_wp2_with fail
  go_ret2
  exact Fin.out
end Go.Proofs.Ytihoegihmgeenaa
