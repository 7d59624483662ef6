/- When two lists of steps are the same. -/
import Derived.Test.YtnlpiaejfmdckaaDoorSE
namespace Go.Proofs.YtnlpiaejfmdckaaDoor
def samS (s t : S) : Bool := if s.k = t.k then if eqI s.rf t.rf = true then if s.ru = t.ru then if subB s.sb t.sb = true then if sameT s.a t.a = true then sameT s.b t.b else false else false else false else false else false
def samL : List S → List S → Bool
  | [], [] => true
  | [], _ :: _ => false
  | _ :: _, [] => false
  | s :: ss, t :: tt => if samS s t = true then samL ss tt else false
theorem samL_nil : samL [] [] = true := by rw [samL]
theorem samL_cons (s t : S) (ss tt : List S) : samL (s :: ss) (t :: tt) = if samS s t = true then samL ss tt else false := by rw [samL]
theorem samL_ne : ∀ {ss tt : List S}, ss.length ≠ tt.length → samL ss tt = false
  | [], [], h => absurd rfl h
  | [], _ :: _, _ => by rw [samL]
  | _ :: _, [], _ => by rw [samL]
  | s :: ss, t :: tt, h => by
    rw [samL_cons, samL_ne (fun e => h (by simp [e]))]
    split <;> rfl
end Go.Proofs.YtnlpiaejfmdckaaDoor
