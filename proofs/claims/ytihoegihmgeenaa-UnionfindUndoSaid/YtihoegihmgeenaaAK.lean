/- More calls of Make and Union. -/
import Derived.Test.YtihoegihmgeenaaAJ
import Derived.Test.YtihoegihmgeenaaAI
namespace Go.Proofs.Ytihoegihmgeenaa
open Go.RowKit
set_option linter.unusedVariables false
set_option linter.unusedSimpArgs false
/-- what Union leaves, whatever it answers -/
def UPost (w0 : World) (B b : Nat) (h : List HOp) (F : Nat → Prop) (e : Ending) (w' : World) : Prop :=
  ∃ (x : Int) (t : Bool) (h' : List HOp) (F' : Nat → Prop), e = .returned (.tuple #[.int .i64 x, .bool t]) ∧ U w' B b h' F' ∧ Step w0 w' F F' ∧ (h' = h ∨ ∃ o, h' = o :: h)
theorem union_all (B b : Nat) (h : List HOp) (F : Nat → Prop) (x y : Int) (w : World) (u : U w B b h F) (hs : h.length ≤ 60) (q : Nat) :
    Calls Try.prog 14 #[.pointer (some ⟨b, 0, none⟩), .int .i64 x, .int .i64 y] (w.drewN q) (UPost w B b h F) := by
  have uq := u.drewN q
  have none : (hasB h x && hasB h y) = false → Calls Try.prog 14 #[.pointer (some ⟨b, 0, none⟩), .int .i64 x, .int .i64 y] (w.drewN q) (UPost w B b h F) := fun hn =>
    (union_none B b h F x y _ uq hn).mono fun e w' ⟨he, hw⟩ => ⟨_, _, h, F, he, hw ▸ uq, hw ▸ st_drew w q F, .inl rfl⟩
  rcases has_cases h x with ⟨n, rfl, hx⟩ | hx
  · rcases has_cases h y with ⟨m, rfl, hy⟩ | hy
    · by_cases he : R h n = R h m
      · exact (union_same B b h F n m _ uq (by omega) hx hy he).mono fun e w' ⟨he, hw⟩ => ⟨_, _, h, F, he, hw ▸ uq, hw ▸ st_drew w q F, .inl rfl⟩
      · exact (union_two B b h F n m _ uq hs hx hy he).mono fun e w' ⟨he, r, c, F', u', s', _⟩ => ⟨_, _, _, F', he, u', (st_drew w q F).trans s', .inr ⟨_, rfl⟩⟩
    · exact none (by rw [hy]; simp)
  · exact none (by rw [hx]; simp)
theorem ol_after {w w' : World} {B : Nat} {h : List HOp} {F F' : Nat → Prop} {lv : Value} {l : List ROp} (o : OL w B lv l h) (sep : ∀ k, lv.ownBlock = some k → ¬ F k) (s : Step w w' F F') : OL w' B lv l h ∧ ∀ j, lv.ownBlock = some j → ¬ F' j := by
  refine ⟨⟨own_at o.own fun j hj => s.block j (o.own.lt j hj).2 (sep j hj), o.m, o.ok⟩, fun j hj hF => ?_⟩
  rcases s.sub j hF with q | q
  · exact sep j hj q
  · have := (o.own.lt j hj).2; omega
end Go.Proofs.Ytihoegihmgeenaa
