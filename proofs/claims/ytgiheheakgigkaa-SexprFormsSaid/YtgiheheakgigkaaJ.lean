/- The reference: one s-expression. -/
import Derived.Test.YtgiheheakgigkaaI
import Derived.Test.YtgiheheakgigkaaF
namespace Go.Proofs.Ytgiheheakgigkaa
open Go.RowKit
set_option linter.unusedVariables false
set_option linter.unusedSimpArgs false
theorem results_ctt {P : Program} {fn : Func} {p u v : Tmp} {ty : TypeId} (h : fn.results = #[.cell p ty, .tmp u, .tmp v]) (tmps : Array Value) (w : World) (g : Nat) (t : TypeId) (cs : Array Value) (fr : Nat × Nat) (d : TypeDesc)
    (hp : tmps.getD p undef = .pointer (some ⟨g, 0, none⟩)) (hg : w.heap[g]? = some (.cells cs t fr))
    (hu : P.underlying ty = some d) (hd : (match d with | .struct _ | .array _ _ => true | _ => false) = true) (hi : (P.info? ty).map (·.size) = some cs.size) {x y : Value} (hx : tmps.getD u undef = x) (hy : tmps.getD v undef = y) :
    (results fn tmps).run P w = .ok (.tuple #[.agg cs, x, y]) w := by
  have hp' : tmps[p]?.getD undef = .pointer (some ⟨g, 0, none⟩) := by simpa using hp
  have hx' : tmps[u]?.getD undef = x := by simpa using hx
  have hy' : tmps[v]?.getD undef = y := by simpa using hy
  simp [results, h, hp', hx', hy', asAddr, run_loadVar_row w g t ty cs fr d hg hu hd hi]
/-- what one leaves -/
def ONP (w : World) (r : R T) (e : Ending) (w' : World) : Prop := (match r with
  | .ok t j => ∃ p c, e = .returned (.tuple #[.agg #[.string t.a, .slice p t.ts.length c], .int .i64 (j : Int), .int .i64 0]) ∧ RowD (mem w.heap.size w') w' p c t.ts
  | .err j c => e = .returned (.tuple #[.agg #[.string ⟨#[]⟩, .slice none 0 0], .int .i64 (j : Int), .int .i64 (c : Int)])) ∧ BK w w'
theorem LV.vlt {lo : Nat} {w : World} {v : Value} {acc : List T} (h : LV lo w v acc) : ∀ g, v.ownBlock = some g → lo ≤ g ∧ g < w.heap.size := fun g hg => by
  obtain ⟨xs, h1, _⟩ := h.own
  exact h1.lt g hg
/-- while a list is read by the reference -/
structure OL (w1 : World) (s : ByteArray) (ex : Nat → R T) (RR : R (List T)) (v : Value) (acc : List T) (fu i : Nat) (wr : World) : Prop where
  lv : LV w1.heap.size wr v acc
  al : acc.length ≤ i
  il : i ≤ s.size
  fl : s.size - i < fu
  eq : elF (xo s) ex fu acc i = RR
  bk : BK w1 wr
theorem bk_step {w0 w w' : World} {F G : Nat → Prop} (h : BK w0 w) (s : Step w w' F G) (hF : ∀ k, F k → w0.heap.size ≤ k) : BK w0 w' := Step.bk_new h s hF
set_option maxRecDepth 100000 in
set_option maxHeartbeats 4000000 in
theorem one32_bad (s : ByteArray) (w : World) (i op : Nat) (hi : i < s.size) (h40 : (xo s).f i ≠ 40) (hab : ab ((xo s).f i) = false) : Calls Try.prog 32 #[.string s, .int .i64 (i : Int), .int .i64 (op : Int)] w (ONP w (.err i 6)) := by
  have hx := idx9 hi
  have K0 := Lib.hid (bk_alloc (BK.refl w) zc)
  have NB := Lib.hid (show (w.alloc zc).heap[w.heap.size]? = some (.cells #[.string ⟨#[]⟩, .slice none 0 0] 25 (0, 0)) from heap_alloc_new w zc)
  have B46 := Lib.hid (fun c w => byte46 c w)
  unfold zc at K0 NB
  generalize (xo s).f i = c at *
  have A46 := Lib.hid (fun w => B46.out c w)
  rw [hab] at A46
  by_cases h41 : c = 41
  · subst h41
    clear hab h40
    go_enter Try.func32, Try.ntmps32
    go_wp2_with fail
    exact bodyPost_ret (v := .tuple #[.agg #[.string ⟨#[]⟩, .slice none 0 0], .int .i64 (i : Int), .int .i64 6]) (results_ctt Try.results32 _ _ w.heap.size 25 #[.string ⟨#[]⟩, .slice none 0 0] (0, 0) _ rfl NB.out Try.underlying25 rfl (by kernel_rfl) rfl rfl) rfl ⟨rfl, K0.out⟩
  · have q41 : ((c : Int) == 41) = false := ne_cast h41
    have q40 : ((c : Int) != 40) = true := nn_cast h40
    clear hab h40 h41
    go_enter Try.func32, Try.ntmps32
    go_wp2_with fail
    refine (A46.out _).mono ?_
    rintro e w' ⟨rfl, rfl⟩
    go_wp2_with fail
    exact bodyPost_ret (v := .tuple #[.agg #[.string ⟨#[]⟩, .slice none 0 0], .int .i64 (i : Int), .int .i64 6]) (results_ctt Try.results32 _ _ w.heap.size 25 #[.string ⟨#[]⟩, .slice none 0 0] (0, 0) _ rfl NB.out Try.underlying25 rfl (by kernel_rfl) rfl rfl) rfl ⟨rfl, K0.out⟩
end Go.Proofs.Ytgiheheakgigkaa
