/- What came in: the table of powers, costs, terms. -/
import Derived.Test.YtmejiiebeknbjaaDoorCards
import Derived.Test.YtmejiiebeknbjaaDoorTie
import Derived.Test.YtmejiiebeknbjaaDoorM
import Derived.ProofKit
import Derived.OpenShut
import Derived.ShutString
import Derived.ChangeOld
import Derived.Below
import Derived.Deep.DeepHandedRow
import Derived.Lib.LaidTab
import Derived.Stop.LaidErr
import Derived.Lib.SmallJoins
import Derived.Deep.Slices
import Derived.ChangeSame
namespace Go.Proofs.YtmejiiebeknbjaaDoor
open Go.ChangeShapes Go.WideShapes Go.ChangeAt Go.RowKit Go.Deep
set_option linter.unusedVariables false
set_option linter.unusedSimpArgs false
theorem own : ownKnob Tryd.prog.godebug = none := by kernel_rfl
theorem gPow : Tryd.prog.globalNamed "internal/strconv.uint64pow10" = some 0 := by kernel_rfl
theorem gPowType : (Tryd.prog.globals[0]?).map (·.type) = some 70 := by kernel_rfl
theorem cells70 : Tryd.prog.cellsOf 70 = 20 := by kernel_rfl
theorem cells31 : Tryd.prog.cellsOf 31 = 1 := by kernel_rfl
theorem tb_of {W : World} (h : laidMet Tryd.prog [("math/bits.deBruijn32tab", Rows.laid_math_bits_deBruijn32tab), ("math/bits.deBruijn64tab", Rows.laid_math_bits_deBruijn64tab), ("internal/strconv.uint64pow10", Rows.laid_internal_strconv_uint64pow10)] W) : Tb W := by
  have h2 := (laidMet.tail h).tail
  rw [show (Rows.laid_internal_strconv_uint64pow10 : DataW Unit) = Lib.tabData .u64 Lib.pow10Tab from by kernel_rfl] at h2
  exact Lib.tabIs_of_head (zs := Lib.pow10Tab) (rest := []) gPow gPowType Tryd.underlying70 Tryd.underlying31 cells31 cells70 h2
/-- a block with other cells -/
def withCells (cs : Array Value) : Obj → Obj
  | .cells _ t frozen => .cells cs t frozen
  | o => o
/-- a world for the witness: the settled one, the three tables in blocks 0 to 2 -/
noncomputable def laidWorld (os : Os) : World :=
  { World.holding Tryd.prog os ⟨#[], #[], []⟩ with heap := (((World.holding Tryd.prog os ⟨#[], #[], []⟩).heap.modify 0 (withCells #[.int .u64 1, .int .u64 10, .int .u64 100, .int .u64 1000, .int .u64 10000, .int .u64 100000, .int .u64 1000000, .int .u64 10000000, .int .u64 100000000, .int .u64 1000000000, .int .u64 10000000000, .int .u64 100000000000, .int .u64 1000000000000, .int .u64 10000000000000, .int .u64 100000000000000, .int .u64 1000000000000000, .int .u64 10000000000000000, .int .u64 100000000000000000, .int .u64 1000000000000000000, .int .u64 10000000000000000000])).modify 1 (withCells #[.int .u8 0, .int .u8 1, .int .u8 28, .int .u8 2, .int .u8 29, .int .u8 14, .int .u8 24, .int .u8 3, .int .u8 30, .int .u8 22, .int .u8 20, .int .u8 15, .int .u8 25, .int .u8 17, .int .u8 4, .int .u8 8, .int .u8 31, .int .u8 27, .int .u8 13, .int .u8 23, .int .u8 21, .int .u8 19, .int .u8 16, .int .u8 7, .int .u8 26, .int .u8 12, .int .u8 18, .int .u8 6, .int .u8 11, .int .u8 5, .int .u8 10, .int .u8 9])).modify 2 (withCells #[.int .u8 0, .int .u8 1, .int .u8 56, .int .u8 2, .int .u8 57, .int .u8 49, .int .u8 28, .int .u8 3, .int .u8 61, .int .u8 58, .int .u8 42, .int .u8 50, .int .u8 38, .int .u8 29, .int .u8 17, .int .u8 4, .int .u8 62, .int .u8 47, .int .u8 59, .int .u8 36, .int .u8 45, .int .u8 43, .int .u8 51, .int .u8 22, .int .u8 53, .int .u8 39, .int .u8 33, .int .u8 30, .int .u8 24, .int .u8 18, .int .u8 12, .int .u8 5, .int .u8 63, .int .u8 55, .int .u8 48, .int .u8 27, .int .u8 60, .int .u8 41, .int .u8 37, .int .u8 16, .int .u8 46, .int .u8 35, .int .u8 44, .int .u8 21, .int .u8 52, .int .u8 32, .int .u8 23, .int .u8 11, .int .u8 54, .int .u8 26, .int .u8 40, .int .u8 15, .int .u8 34, .int .u8 20, .int .u8 31, .int .u8 10, .int .u8 25, .int .u8 14, .int .u8 19, .int .u8 9, .int .u8 13, .int .u8 8, .int .u8 7, .int .u8 6]) }
theorem cells2 : Tryd.prog.cellsOf 2 = 1 := by kernel_rfl
theorem cells23 : Tryd.prog.cellsOf 23 = 32 := by kernel_rfl
theorem cells25 : Tryd.prog.cellsOf 25 = 2 := by kernel_rfl
theorem cells34 : Tryd.prog.cellsOf 34 = 5 := by kernel_rfl
theorem cells38 : Tryd.prog.cellsOf 38 = 15 := by kernel_rfl
theorem cells24 : Tryd.prog.cellsOf 24 = 1 := by kernel_rfl
theorem cells3 : Tryd.prog.cellsOf 3 = 1 := by kernel_rfl
theorem cells9 : Tryd.prog.cellsOf 9 = 1 := by kernel_rfl
theorem cells32 : Tryd.prog.cellsOf 32 = 1 := by kernel_rfl
theorem in64_of {n : Int} (h : (Lit.int .i64 n).wf = true) : In64 n := by
  simp [Lit.wf, IntKind.min, IntKind.max, IntKind.signed, IntKind.bits] at h
  exact ⟨by omega, by omega⟩
theorem u64_of {n : Int} (h : (Lit.int .u64 n).wf = true) : ∃ u : Nat, n = u ∧ u < 18446744073709551616 := by
  simp [Lit.wf, IntKind.min, IntKind.max, IntKind.signed, IntKind.bits] at h
  exact ⟨n.toNat, by omega, by omega⟩
theorem okWide_array {P : Program} {w : World} {r : Reach} {base : Nat} {t : TypeId} {v : Value} {n : Nat} {e : TypeId} (ht : P.underlying t = some (.array n e)) (h : Value.okWide P w r base t v) : ∃ cs, v = .agg cs ∧ cs.size = P.cellsOf t := by
  simp only [Value.okWide, ht] at h
  obtain ⟨cs, h1, h2, _⟩ := h
  exact ⟨cs, h1, h2⟩
section
variable {H : Type} {enc : TypeId × Value → H} {w : World} {base : Nat}
theorem ints_array {m n t : Nat} {cs : List Value} {x : DataW H × List MemPlace} (ht : Tryd.prog.underlying t = some (.array n 2)) (hc : Tryd.prog.cellsOf t = n) (h : DataW.trod enc Tryd.prog w base (fun _ => true) true m t cs = some x) : ∃ zs : List Int, zs.length = n ∧ cs = zs.map (Value.int .i64) := by
  obtain ⟨xs, k, _, _, hlen, hxl, hf⟩ := DataW.trod_array ht h
  rw [hc] at hlen
  have key : ∀ i, i < n → ∃ z : Int, cs[i]? = some (.int .i64 z) := fun i hi => by
    have h1 := hf i hi
    rw [cells2, List.getElem?_eq_getElem (by omega)] at h1
    obtain ⟨z, h2, _⟩ := DataW.trod_int Tryd.underlying2 h1
    refine ⟨z, ?_⟩
    have h3 := congrArg (fun l => l[0]?) h2
    simpa [List.getElem?_take, List.getElem?_drop] using h3
  have key2 : ∀ i, ∃ z : Int, i < n → cs[i]? = some (.int .i64 z) := fun i => by
    by_cases hi : i < n
    · obtain ⟨z, hz⟩ := key i hi
      exact ⟨z, fun _ => hz⟩
    · exact ⟨0, fun h => absurd h hi⟩
  refine ⟨(List.range n).map fun i => (key2 i).choose, by simp, ?_⟩
  apply List.ext_getElem?
  intro i
  by_cases hi : i < n
  · rw [(key2 i).choose_spec hi]; simp [hi]
  · rw [List.getElem?_eq_none (by omega), List.getElem?_eq_none (by simp; omega)]
theorem open_costs {v : Value} {d : DataW H} {p : List MemPlace} {r : Reach} (hv : Value.okWide Tryd.prog w r base 23 v) (h : DataW.Trod enc Tryd.prog w 0 (fun _ => true) true 23 v d p) : ∃ zs : List Int, zs.length = 32 ∧ v = .agg (ca zs) := by
  obtain ⟨cs, rfl, hsz⟩ := okWide_array Tryd.underlying23 hv
  obtain ⟨fuel, hf⟩ := h
  obtain ⟨zs, hl, he⟩ := ints_array (cs := cs.toList) Tryd.underlying23 cells23 hf
  exact ⟨zs, hl, by unfold ca; rw [← he]⟩
theorem open_two {v : Value} {d : DataW H} {p : List MemPlace} {r : Reach} (hv : Value.okWide Tryd.prog w r base 25 v) (h : DataW.Trod enc Tryd.prog w 0 (fun _ => true) true 25 v d p) : ∃ a b : Int, v = .agg #[.int .i64 a, .int .i64 b] := by
  obtain ⟨cs, rfl, hsz⟩ := okWide_array Tryd.underlying25 hv
  obtain ⟨fuel, hf⟩ := h
  obtain ⟨zs, hl, he⟩ := ints_array (cs := cs.toList) Tryd.underlying25 cells25 hf
  match zs, hl with
  | [a, b], _ => exact ⟨a, b, by rw [show cs = #[.int .i64 a, .int .i64 b] by cases cs; simp_all]⟩
theorem atL_of {b : Nat} : ∀ (ts : List T) (o : Nat), (∀ k (h : k < ts.length), At ts[k] w b (o + k * 5)) → AtL ts w b o
  | [], _, _ => by rw [AtL]; trivial
  | t :: ts, o, h => by
    rw [AtL]
    refine ⟨by have h1 := h 0 (by simp); rw [Nat.zero_mul, Nat.add_zero] at h1; exact h1, atL_of ts (o + 5) fun k hk => ?_⟩
    have := h (k + 1) (by simpa using hk)
    rw [show o + 5 + k * 5 = o + (k + 1) * 5 by omega]
    exact this
set_option maxRecDepth 4000 in
theorem term_cells : ∀ (fuel : Nat) {cs : List Value} {x : DataW H × List MemPlace}, DataW.trod enc Tryd.prog w base (fun _ => true) true fuel 34 cs = some x →
    ∃ (op wd : Int) (vl : Nat) (nm : ByteArray) (p : Option Addr) (c : Nat) (ts : List T), cs = [.int .i64 op, .int .i64 wd, .int .u64 vl, .string nm, .slice p ts.length c] ∧ Wf op wd vl nm ∧ Row w p c ts := by
  intro fuel
  induction fuel using Nat.strongRecOn with
  | _ fuel ih =>
  intro cs x h
  obtain ⟨fs, hfs, hof⟩ : ∃ fs, Tryd.prog.underlying 34 = some (.struct fs) ∧ fs.map (fun f => (f.offset, f.type)) = #[(0, 24), (1, 3), (2, 31), (3, 9), (4, 32)] := ⟨_, Tryd.underlying34, by simp⟩
  obtain ⟨xs, m, hfm, _, hlen, hxl, hf⟩ := DataW.trod_struct hfs h
  rw [cells34] at hlen
  match cs, hlen with
  | [c0, c1, c2, c3, c4], _ =>
    have hsz : fs.size = 5 := by have := congrArg Array.size hof; simpa using this
    have get : ∀ (i o t : Nat), i < 5 → (#[(0, 24), (1, 3), (2, 31), (3, 9), (4, 32)] : Array (Nat × Nat))[i]? = some (o, t) → ∃ f, fs[i]? = some f ∧ f.offset = o ∧ f.type = t := by
      intro i o t hi ht
      have hi' : i < fs.size := by omega
      have e := congrArg (fun l => l[i]?) hof
      simp only [Array.getElem?_map, Array.getElem?_eq_getElem hi', Option.map_some] at e
      refine ⟨fs[i], Array.getElem?_eq_getElem hi', ?_⟩
      have e2 := e.trans ht
      simp at e2
      exact e2
    have val : ∀ (i o t : Nat), i < 5 → (#[(0, 24), (1, 3), (2, 31), (3, 9), (4, 32)] : Array (Nat × Nat))[i]? = some (o, t) → ∃ y, DataW.trod enc Tryd.prog w base (fun _ => true) true m t (([c0, c1, c2, c3, c4].drop o).take (Tryd.prog.cellsOf t)) = some y := by
      intro i o t hi ht
      obtain ⟨f, h1, h2, h3⟩ := get i o t hi ht
      have h4 := hf i f h1
      rw [h2, h3] at h4
      exact ⟨_, h4.trans (List.getElem?_eq_getElem (by omega))⟩
    obtain ⟨y0, v0⟩ := val 0 0 24 (by omega) rfl
    obtain ⟨y1, v1⟩ := val 1 1 3 (by omega) rfl
    obtain ⟨y2, v2⟩ := val 2 2 31 (by omega) rfl
    obtain ⟨y3, v3⟩ := val 3 3 9 (by omega) rfl
    obtain ⟨y4, v4⟩ := val 4 4 32 (by omega) rfl
    rw [cells24] at v0
    rw [cells3] at v1
    rw [cells31] at v2
    rw [cells9] at v3
    rw [cells32] at v4
    obtain ⟨op, e0, _, w0⟩ := DataW.trod_int Tryd.underlying24 v0
    obtain ⟨wd, e1, _, w1⟩ := DataW.trod_int Tryd.underlying3 v1
    obtain ⟨vl, e2, _, w2⟩ := DataW.trod_int Tryd.underlying31 v2
    obtain ⟨nm, e3, _, w3⟩ := DataW.trod_string Tryd.underlying9 v3
    simp at e0 e1 e2 e3
    obtain ⟨u, rfl, hu⟩ := u64_of w2
    have hwf : Wf op wd u nm := ⟨in64_of w0, in64_of w1, hu, w3⟩
    have v4' : DataW.trod enc Tryd.prog w base (fun _ => true) true m 32 [c4] = some y4 := v4
    rcases DataW.trod_slice Tryd.underlying32 v4' with ⟨h4, _⟩ | ⟨a, len, cap, elems, rest, n, hmn, h4, _, hb, hl, hm, hel, hi, _, _⟩
    · simp at h4
      exact ⟨op, wd, u, nm, none, 0, [], by rw [e0, e1, e2, e3, h4]; rfl, hwf, .inl ⟨rfl, fun _ => rfl⟩⟩
    · simp at h4
      subst h4
      by_cases h0 : len = 0
      · subst h0
        exact ⟨op, wd, u, nm, some a, cap, [], by rw [e0, e1, e2, e3]; rfl, hwf, .inl ⟨rfl, fun h => by cases h⟩⟩
      · have key : ∀ i, i < len → ∃ (op wd : Int) (vl : Nat) (nm : ByteArray) (q : Option Addr) (d : Nat) (us : List T), (w.cell? (a.add (i * 5)) = some (.int .i64 op) ∧ w.cell? ((a.add (i * 5)).add 1) = some (.int .i64 wd) ∧ w.cell? ((a.add (i * 5)).add 2) = some (.int .u64 vl) ∧ w.cell? ((a.add (i * 5)).add 3) = some (.string nm) ∧ w.cell? ((a.add (i * 5)).add 4) = some (.slice q us.length d)) ∧ Wf op wd vl nm ∧ Row w q d us := by
          intro i hil
          have h5 := hi i hil
          rw [List.getElem?_eq_getElem (by omega)] at h5
          obtain ⟨cs', hcs', htr⟩ := Option.bind_eq_some_iff.1 h5
          obtain ⟨op, wd, vl, nm, q, d, us, rfl, hw, hr⟩ := ih n (by omega) htr
          rw [cells34] at hcs'
          obtain ⟨_, _, hat⟩ := World.cells?_some hcs'
          have a0 := hat 0 (by omega)
          have a1 := hat 1 (by omega)
          have a2 := hat 2 (by omega)
          have a3 := hat 3 (by omega)
          have a4 := hat 4 (by omega)
          exact ⟨op, wd, vl, nm, q, d, us, ⟨by simpa [Addr.add] using a0, by simpa using a1, by simpa using a2, by simpa using a3, by simpa using a4⟩, hw, hr⟩
        obtain ⟨_, _, _, _, _, _, _, ⟨c0', _⟩, _⟩ := key 0 (by omega)
        have e00 : a.add (0 * 5) = a := by simp [Addr.add]
        rw [e00] at c0'
        obtain ⟨b, off, sp⟩ := a
        have hsp : sp = none := by
          cases sp with
          | none => rfl
          | some s => exfalso; unfold World.cell? at c0'; split at c0' <;> simp at c0'
        subst hsp
        have hadd : ∀ o j, (⟨b, o, none⟩ : Addr).add j = ⟨b, o + j, none⟩ := fun o j => Go.WideShapes.add_plain _ _ _
        have key2 : ∀ i, ∃ t : T, i < len → At t w b (off + i * 5) := by
          intro i
          by_cases hil : i < len
          · obtain ⟨op, wd, vl, nm, q, d, us, ⟨b0, b1, b2, b3, b4⟩, hw, hr⟩ := key i hil
            refine ⟨.mk op wd vl nm us, fun _ => ?_⟩
            rw [at_mk]
            simp only [hadd] at b0 b1 b2 b3 b4
            exact ⟨q, d, ⟨b0, b1, b2, b3, b4⟩, hw, hr⟩
          · exact ⟨.mk 0 0 0 ⟨#[]⟩ [], fun h => absurd h hil⟩
        refine ⟨op, wd, u, nm, some ⟨b, off, none⟩, cap, (List.range len).map fun i => (key2 i).choose, by rw [e0, e1, e2, e3]; simp, hwf, .inr ⟨b, off, rfl, atL_of _ _ fun k hk => ?_, by simp; omega⟩⟩
        simp at hk
        simpa using (key2 k).choose_spec hk
theorem open_term {v : Value} {d : DataW H} {p : List MemPlace} {r : Reach} (hv : Value.okWide Tryd.prog w r base 34 v) (h : DataW.Trod enc Tryd.prog w 0 (fun _ => true) true 34 v d p) :
    ∃ (op wd : Int) (vl : Nat) (nm : ByteArray) (q : Option Addr) (c : Nat) (ts : List T), v = .agg #[.int .i64 op, .int .i64 wd, .int .u64 vl, .string nm, .slice q ts.length c] ∧ Wf op wd vl nm ∧ Row w q c ts := by
  obtain ⟨cs, rfl, hsz⟩ := okWide_struct Tryd.underlying34 hv
  obtain ⟨fuel, hf⟩ := h
  obtain ⟨op, wd, vl, nm, q, c, ts, hcs, h1⟩ := term_cells fuel hf
  refine ⟨op, wd, vl, nm, q, c, ts, ?_, h1⟩
  simp [Value.cells] at hcs
  rw [show cs = #[.int .i64 op, .int .i64 wd, .int .u64 vl, .string nm, .slice q ts.length c] by cases cs; simp_all]
end
end Go.Proofs.YtmejiiebeknbjaaDoor
