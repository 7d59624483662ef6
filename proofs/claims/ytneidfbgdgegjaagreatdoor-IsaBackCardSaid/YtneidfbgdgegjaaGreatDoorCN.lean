/- Instructions and programs among the arguments, opened. -/
import Derived.Test.YtneidfbgdgegjaaGreatDoorCY
import Derived.Deep.Fields
namespace Go.Proofs.YtneidfbgdgegjaaGreatDoor
open Go.ChangeShapes Go.WideShapes Go.RowKit Go.Deep Go.Joins
set_option linter.unusedVariables false
set_option linter.unusedSimpArgs false
set_option maxRecDepth 100000
section
variable {H : Type} {enc : TypeId × Value → H} {w : World} {base : Nat} {sp : Nat → Bool} {held : Bool}
theorem cells42 : Tryz.prog.cellsOf 42 = 6 := by kernel_rfl
theorem cells34 : Tryz.prog.cellsOf 34 = 4 := by kernel_rfl
theorem cells3 : Tryz.prog.cellsOf 3 = 1 := by kernel_rfl
theorem open_inss {fuel : Nat} {cs : List Value} {x : DataW H × List MemPlace} (h : DataW.trod enc Tryz.prog w base (fun _ => true) held fuel 31 cs = some x) :
    ∃ (p : Option Addr) (c : Nat) (l : List I6), cs = [.slice p l.length c] ∧ RI w p c l ∧ ∀ i ∈ l, I64 i := by
  rcases open_slice Tryz.underlying31 h with ⟨hcs, _⟩ | ⟨a, len, cap, m, n, D, Pl, hcs, _, hl, hm, hmm, _, hi⟩
  · exact ⟨none, 0, [], hcs, ⟨fun _ => rfl, by simp, fun k hk => by simp at hk⟩, fun i hi => by simp at hi⟩
  · have ho : ∀ (j : Nat) (f : Field), (#[{ name := "Op", type := 22, offset := 0, embedded := false, tag := "", pkgPath := "", byteOffset := 0 }, { name := "Dst", type := 3, offset := 1, embedded := false, tag := "", pkgPath := "", byteOffset := 8 }, { name := "A", type := 3, offset := 2, embedded := false, tag := "", pkgPath := "", byteOffset := 16 }, { name := "B", type := 3, offset := 3, embedded := false, tag := "", pkgPath := "", byteOffset := 24 }, { name := "C", type := 3, offset := 4, embedded := false, tag := "", pkgPath := "", byteOffset := 32 }, { name := "Imm", type := 40, offset := 5, embedded := false, tag := "", pkgPath := "", byteOffset := 40 }] : Array Field)[j]? = some f → f.offset = j ∧ Tryz.prog.cellsOf f.type = 1 := hone_of (by kernel_rfl)
    have key : ∀ i, i < len → ∃ z : I6, I64 z ∧ ∃ b o, a = ⟨b, o, none⟩ ∧ A6 w b (o + i * 6) z := fun i hil => by
      have him : i < m := by rw [hmm]; simp; omega
      obtain ⟨cs', hc, ht'⟩ := hi i him
      rw [cells42] at hc
      obtain ⟨ys, n', _, _, hlen, hyl, hf⟩ := DataW.trod_struct Tryz.underlying42 ht'
      obtain ⟨_, hcl, hat⟩ := World.cells?_some hc
      rw [cells42] at hlen
      match cs', hlen with
      | [c0, c1, c2, c3, c4, c5], _ =>
        have g := fun (j : Nat) (f : Field) hj (hj6 : j < 6) => show ∃ y, DataW.trod enc Tryz.prog w base (fun _ => true) held n' f.type (([c0, c1, c2, c3, c4, c5].drop f.offset).take (Tryz.prog.cellsOf f.type)) = some y from
          ⟨_, (hf j f hj).trans (List.getElem?_eq_getElem (by have : ys.length = 6 := hyl; omega))⟩
        obtain ⟨y0, e0⟩ := g 0 _ rfl (by omega)
        obtain ⟨y1, e1⟩ := g 1 _ rfl (by omega)
        obtain ⟨y2, e2⟩ := g 2 _ rfl (by omega)
        obtain ⟨y3, e3⟩ := g 3 _ rfl (by omega)
        obtain ⟨y4, e4⟩ := g 4 _ rfl (by omega)
        obtain ⟨y5, e5⟩ := g 5 _ rfl (by omega)
        rw [(ho 0 _ rfl).2] at e0
        rw [(ho 1 _ rfl).2] at e1
        rw [(ho 2 _ rfl).2] at e2
        rw [(ho 3 _ rfl).2] at e3
        rw [(ho 4 _ rfl).2] at e4
        rw [(ho 5 _ rfl).2] at e5
        obtain ⟨z0, q0, -, w0⟩ := DataW.trod_int Tryz.underlying22 e0
        obtain ⟨z1, q1, -, w1⟩ := DataW.trod_int Tryz.underlying3 e1
        obtain ⟨z2, q2, -, w2⟩ := DataW.trod_int Tryz.underlying3 e2
        obtain ⟨z3, q3, -, w3⟩ := DataW.trod_int Tryz.underlying3 e3
        obtain ⟨z4, q4, -, w4⟩ := DataW.trod_int Tryz.underlying3 e4
        obtain ⟨z5, q5, -, w5⟩ := DataW.trod_int Tryz.underlying40 e5
        simp at q0 q1 q2 q3 q4 q5
        subst q0 q1 q2 q3 q4 q5
        have h0 := hat 0 (by omega)
        have h1 := hat 1 (by omega)
        have h2 := hat 2 (by omega)
        have h3 := hat 3 (by omega)
        have h4 := hat 4 (by omega)
        have h5 := hat 5 (by omega)
        obtain ⟨cz, hcz, -⟩ := hi 0 (by omega)
        rw [cells42] at hcz
        obtain ⟨_, hclz, hatz⟩ := World.cells?_some hcz
        have hz := hatz 0 (by omega)
        rw [List.getElem?_eq_getElem (by omega)] at hz
        obtain ⟨b, o, s⟩ := a
        have hs : s = none := by simpa [Addr.add] using World.cell?_spot hz
        subst hs
        refine ⟨⟨z0, z1, z2, z3, z4, z5⟩, ⟨in64_of w1, in64_of w2, in64_of w3, in64_of w4, (u64_of w5).1, (u64_of w5).2⟩, b, o, rfl, ?_⟩
        simp only [add_plain] at h0 h1 h2 h3 h4 h5
        exact ⟨h0, h1, h2, h3, h4, h5⟩
    have key2 : ∀ i, ∃ z : I6, i < len → I64 z ∧ ∃ b o, a = ⟨b, o, none⟩ ∧ A6 w b (o + i * 6) z := fun i => by
      by_cases hil : i < len
      · obtain ⟨z, hz⟩ := key i hil
        exact ⟨z, fun _ => hz⟩
      · exact ⟨⟨0, 0, 0, 0, 0, 0⟩, fun h => absurd h hil⟩
    refine ⟨some a, cap, (List.range len).map fun i => (key2 i).choose, by simpa using hcs, ⟨fun h => by simp at h, by simpa using hl, fun k hk => ?_⟩, fun i hi => ?_⟩
    · obtain ⟨-, b, o, h1, h2⟩ := (key2 k).choose_spec (by simpa using hk)
      exact ⟨b, o, by rw [h1], by simpa using h2⟩
    · obtain ⟨k, hk, rfl⟩ := List.mem_map.1 hi
      exact ((key2 k).choose_spec (by simpa using hk)).1
theorem open_out {fuel : Nat} {cs : List Value} {x : DataW H × List MemPlace} (h : DataW.trod enc Tryz.prog w base (fun _ => true) held fuel 32 cs = some x) :
    ∃ (p : Option Addr) (c : Nat) (l : List Int), cs = [.slice p l.length c] ∧ RO w p c l ∧ ∀ z ∈ l, In64 z := by
  rcases open_ints Tryz.underlying32 Tryz.underlying3 cells3 h with ⟨hcs, _⟩ | ⟨a, len, cap, zs, hcs, _, hl, hm, hz, _, hcell, hwz⟩
  · exact ⟨none, 0, [], hcs, ⟨fun _ => rfl, by simp, fun k hk => by simp at hk⟩, fun z hz => by simp at hz⟩
  · have hz' : zs.length = cap := by simpa using hz
    refine ⟨some a, cap, zs.take len, by rw [hcs, List.length_take, Nat.min_eq_left (by omega)], ⟨fun h => by simp at h, by simp; omega, fun k hk => ?_⟩, fun z hz => in64_of (hwz _ (List.mem_of_mem_take hz))⟩
    have hk' : k < len := by simp at hk; omega
    have hc := hcell k (by omega)
    have hc0 := hcell 0 (by omega)
    obtain ⟨b, o, s⟩ := a
    have hs : s = none := by simpa [Addr.add] using World.cell?_spot hc0
    subst hs
    rw [add_plain] at hc
    refine ⟨b, o, rfl, hc.trans ?_⟩
    simp [List.getElem_take, List.getElem?_eq_getElem (show k < zs.length by omega)]
theorem open_code {r : Reach} {b0 : Nat} {v : Value} {d : DataW H} {ps : List MemPlace} (hv : Value.okWide Tryz.prog w r b0 34 v) (h : DataW.Trod enc Tryz.prog w base (fun _ => true) held 34 v d ps) :
    ∃ (W R : Int) (p q : Option Addr) (pc qc : Nat) (ins : List I6) (out : List Int), v = .agg #[.int .i64 W, .int .i64 R, .slice p ins.length pc, .slice q out.length qc] ∧ In64 W ∧ In64 R ∧ (∀ i ∈ ins, I64 i) ∧ (∀ z ∈ out, In64 z) ∧ RI w p pc ins ∧ RO w q qc out := by
  obtain ⟨v0, v1, v2, v3, y0, y1, y2, y3, n, rfl, rfl, rfl, h0, h1, h2, h3⟩ := open_agg4 Tryz.underlying34 (by kernel_rfl) cells34 hv h
  obtain ⟨W, e0, -, w0⟩ := DataW.trod_int Tryz.underlying3 h0
  obtain ⟨R, e1, -, w1⟩ := DataW.trod_int Tryz.underlying3 h1
  obtain ⟨p, pc, ins, e2, hi, hi64⟩ := open_inss h2
  obtain ⟨q, qc, out, e3, ho, ho64⟩ := open_out h3
  simp at e0 e1 e2 e3
  subst e0 e1 e2 e3
  exact ⟨W, R, p, q, pc, qc, ins, out, rfl, in64_of w0, in64_of w1, hi64, ho64, hi, ho⟩
theorem open_ins {r : Reach} {b0 : Nat} {v : Value} {d : DataW H} {ps : List MemPlace} (hv : Value.okWide Tryz.prog w r b0 42 v) (h : DataW.Trod enc Tryz.prog w base (fun _ => true) held 42 v d ps) :
    ∃ i : I6, v = .agg #[.int .i64 i.op, .int .i64 i.dst, .int .i64 i.a, .int .i64 i.b, .int .i64 i.c, .int .u64 i.imm] ∧ I64 i := by
  obtain ⟨cs, rfl, hsz⟩ := okWide_struct Tryz.underlying42 hv
  obtain ⟨fuel, hfu⟩ := h
  have ho : ∀ (j : Nat) (f : Field), (#[{ name := "Op", type := 22, offset := 0, embedded := false, tag := "", pkgPath := "", byteOffset := 0 }, { name := "Dst", type := 3, offset := 1, embedded := false, tag := "", pkgPath := "", byteOffset := 8 }, { name := "A", type := 3, offset := 2, embedded := false, tag := "", pkgPath := "", byteOffset := 16 }, { name := "B", type := 3, offset := 3, embedded := false, tag := "", pkgPath := "", byteOffset := 24 }, { name := "C", type := 3, offset := 4, embedded := false, tag := "", pkgPath := "", byteOffset := 32 }, { name := "Imm", type := 40, offset := 5, embedded := false, tag := "", pkgPath := "", byteOffset := 40 }] : Array Field)[j]? = some f → f.offset = j ∧ Tryz.prog.cellsOf f.type = 1 := hone_of (by kernel_rfl)

  obtain ⟨ys, n', _, _, hlen, hyl, hf⟩ := DataW.trod_struct Tryz.underlying42 hfu
  rw [cells42] at hsz
  obtain ⟨L⟩ := cs
  have hlen : L.length = 6 := hsz
  match L, hlen with
  | [c0, c1, c2, c3, c4, c5], _ =>
    have g := fun (j : Nat) (f : Field) hj (hj6 : j < 6) => show ∃ y, DataW.trod enc Tryz.prog w base (fun _ => true) held n' f.type (([c0, c1, c2, c3, c4, c5].drop f.offset).take (Tryz.prog.cellsOf f.type)) = some y from
      ⟨_, (hf j f hj).trans (List.getElem?_eq_getElem (by have : ys.length = 6 := hyl; omega))⟩
    obtain ⟨y0, e0⟩ := g 0 _ rfl (by omega)
    obtain ⟨y1, e1⟩ := g 1 _ rfl (by omega)
    obtain ⟨y2, e2⟩ := g 2 _ rfl (by omega)
    obtain ⟨y3, e3⟩ := g 3 _ rfl (by omega)
    obtain ⟨y4, e4⟩ := g 4 _ rfl (by omega)
    obtain ⟨y5, e5⟩ := g 5 _ rfl (by omega)
    rw [(ho 0 _ rfl).2] at e0
    rw [(ho 1 _ rfl).2] at e1
    rw [(ho 2 _ rfl).2] at e2
    rw [(ho 3 _ rfl).2] at e3
    rw [(ho 4 _ rfl).2] at e4
    rw [(ho 5 _ rfl).2] at e5
    obtain ⟨z0, q0, -, w0⟩ := DataW.trod_int Tryz.underlying22 e0
    obtain ⟨z1, q1, -, w1⟩ := DataW.trod_int Tryz.underlying3 e1
    obtain ⟨z2, q2, -, w2⟩ := DataW.trod_int Tryz.underlying3 e2
    obtain ⟨z3, q3, -, w3⟩ := DataW.trod_int Tryz.underlying3 e3
    obtain ⟨z4, q4, -, w4⟩ := DataW.trod_int Tryz.underlying3 e4
    obtain ⟨z5, q5, -, w5⟩ := DataW.trod_int Tryz.underlying40 e5
    simp at q0 q1 q2 q3 q4 q5
    subst q0 q1 q2 q3 q4 q5
    exact ⟨⟨z0, z1, z2, z3, z4, z5⟩, rfl, ⟨in64_of w1, in64_of w2, in64_of w3, in64_of w4, (u64_of w5).1, (u64_of w5).2⟩⟩
end
end Go.Proofs.YtneidfbgdgegjaaGreatDoor
